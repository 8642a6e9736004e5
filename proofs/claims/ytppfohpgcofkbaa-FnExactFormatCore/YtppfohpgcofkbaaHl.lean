import Derived.Test.YtppfohpgcofkbaaHk
import Derived.Laws.OwnMore
namespace Go.Proofs.Ytppfohpgcofkbaa
open Go.RowKit Go.Joins

theorem Try.info9t : (Try.prog.info? 9).map (fun i => (i.zero, i.size, i.bytes)) = some (some (.string ⟨#[]⟩), 1, 16) := by kernel_rfl

/-- A row of texts of one's own. -/
theorem own_one (V : World) (con : ByteArray) : (V.alloc (.cells #[.string con] 9)).ownsRow V.heap.size 9 1 (.slice (some ⟨V.heap.size, 0, none⟩) 1 1) 1 [.string con] :=
  World.ownsRow_lit V #[.string con] 1 (Nat.le_refl _) (by decide) (by simp)

/-- append([]string{con}, names...) -/
theorem app_run (V : World) (con : ByteArray) (na : Option Addr) (nc : Nat) (L : List ByteArray) (S : Nat → Prop) (ty : TypeId) (hsr : SR (V.alloc (.cells #[.string con] 9)) S na nc L) (hn : L.length ≤ 16777216) :
    ∃ q cap w', (Builtin.append_ #[25, 25] ty #[.slice (some ⟨V.heap.size, 0, none⟩) 1 1, .slice na L.length nc]).run Try.prog (V.alloc (.cells #[.string con] 9)) = .ok (.slice (some ⟨q, 0, none⟩) (1 + L.length) cap) w' ∧ (∀ (j : Nat) x, (con :: L)[j]? = some x → w'.cell? ⟨q, 0 + j, none⟩ = some (.string x)) ∧ q < w'.heap.size ∧ 1 + L.length ≤ cap ∧ Below V.heap.size V w' := by
  obtain ⟨i0, hi, hz0, hz1, hz2⟩ := info_parts Try.info9t
  have hown := own_one V con
  have hfin : ∀ (v' : Value) (w' : World), w'.ownsRow V.heap.size 9 1 v' (1 + L.length) ([.string con] ++ L.map Value.string) → Below V.heap.size V w' → ∃ q cap, v' = .slice (some ⟨q, 0, none⟩) (1 + L.length) cap ∧ (∀ (j : Nat) x, (con :: L)[j]? = some x → w'.cell? ⟨q, 0 + j, none⟩ = some (.string x)) ∧ q < w'.heap.size ∧ 1 + L.length ≤ cap ∧ Below V.heap.size V w' := by
    intro v' w' h1 hb
    have h1' := h1
    rcases h1.2 with ⟨_, h0⟩ | ⟨g, cap, cur, rfl, hg, hgg, hnc, hcm, hcs, ht⟩
    · omega
    · refine ⟨g, cap, rfl, fun j x hj => ?_, (Array.getElem?_eq_some_iff.1 hgg).1, hnc, hb⟩
      have hjl : j < (con :: L).length := (List.getElem?_eq_some_iff.1 hj).1
      rw [Nat.zero_add, h1'.cellAt j (by simp at hjl; omega)]
      have e : ([Value.string con] ++ L.map Value.string) = (con :: L).map Value.string := rfl
      rw [e, List.getElem?_map, hj]
      rfl
  cases na with
  | none =>
    obtain rfl : L = [] := by
      by_cases hL : L = []
      · exact hL
      · obtain ⟨nb, no, e, -⟩ := hsr.at_ hL
        cases e
    have hb : Below V.heap.size V (V.alloc (.cells #[.string con] 9)) := below_alloc1 _ _
    have hrun : (Builtin.append_ #[25, 25] ty #[.slice (some ⟨V.heap.size, 0, none⟩) 1 1, .slice none 0 nc]).run Try.prog (V.alloc (.cells #[.string con] 9)) = .ok (.slice (some ⟨V.heap.size, 0, none⟩) 1 1) (V.alloc (.cells #[.string con] 9)) := by
      simp [Builtin.append_, run_underlying Try.underlying25, sizeOf, typeInfo, hi, Builtin.lenOf, Builtin.firstCells, storeCells]
    obtain ⟨q, cap, e, h1, h2, h3, h4⟩ := hfin _ _ hown hb
    refine ⟨q, cap, _, ?_, h1, h2, h3, h4⟩
    rw [← e]
    exact hrun
  | some ad =>
    obtain ⟨v', w', hr, h1, h2, -⟩ := run_append_own (P := Try.prog) (V.alloc (.cells #[.string con] 9)) V.heap.size 25 ty 9 i0 (.string ⟨#[]⟩) 1 16 Try.underlying25 hi hz0 hz1 hz2 rfl (by decide) _ 1 _ hown ad L.length nc (L.map Value.string) (by simp) (fun j u hj => by
      rw [List.getElem?_map, Option.map_eq_some_iff] at hj
      obtain ⟨x, hx, rfl⟩ := hj
      obtain ⟨nb, no, e, -, hrw⟩ := hsr.at_ (fun e => by rw [e] at hx; simp at hx)
      obtain rfl := Option.some.inj e
      rw [addr_add]
      exact hrw j x hx) (fun u hu => by
      obtain ⟨x, _, rfl⟩ := List.mem_map.1 hu
      rfl) (by unfold maxLen; omega) (by omega) (by simp)
    have hb : Below V.heap.size V w' := (below_alloc1 V _).trans ⟨h2.os, h2.tape, h2.output, h2.size, fun i hi' => h2.block i (by simp; omega) (fun e => by
      have : some i = some V.heap.size := e
      injection this with e2
      omega)⟩
    obtain ⟨q, cap, e, h3, h4, h5, h6⟩ := hfin _ _ h1 hb
    exact ⟨q, cap, w', by rw [hr, e], h3, h4, h5, h6⟩

theorem app_draw {ops : Array Oper} {o : Oper} {a : Act} {K : Act → World → Prop} {Q : Exit → Act → World → Prop} {E : Prop} (hgd : o.guard = none) (s x : Operand)
    (ho : o.op = .call { callee := .builtin .append, args := #[s, x], argTypes := #[25, 25] })
    (V : World) (con : ByteArray) (na : Option Addr) (nn nc : Nat) (L : List ByteArray) (S : Nat → Prop) (hs : a.eval s = .slice (some ⟨V.heap.size, 0, none⟩) 1 1) (hx : a.eval x = .slice na nn nc) (hnn : L.length = nn) (hsr : SR (V.alloc (.cells #[.string con] 9)) S na nc L) (hn : L.length ≤ 16777216)
    (h : ∀ q cap w', (∀ (j : Nat) x, (con :: L)[j]? = some x → w'.cell? ⟨q, 0 + j, none⟩ = some (.string x)) → q < w'.heap.size → 1 + nn ≤ cap → Below V.heap.size V w' → K (a.put o.dst (.slice (some ⟨q, 0, none⟩) (1 + nn) cap)) w') :
    if Region.wanted o (yielded ops a.tmps) = true then Oper.wp Try.prog o a (V.alloc (.cells #[.string con] 9)) K Q else E := by
  have hw : Region.wanted o (yielded ops a.tmps) = true := by simp [Region.wanted, hgd]
  rw [if_pos hw]
  obtain ⟨q, cap, w', hr, h1, h2, h3, h4⟩ := app_run V con na nc L S o.type hsr hn
  rw [hnn] at hr h3
  unfold Oper.wp execOp
  simp only [ho, resolve, invoke, builtin, Sem.run_bind, Sem.run_pure, Result.andThen_ok, List.map_toArray, List.map_cons, List.map_nil, hs, hx, hr]
  exact h q cap w' h1 h2 h3 h4

end Go.Proofs.Ytppfohpgcofkbaa
