import Derived.Test.YtjfoagmenehapaaDoorShowG
import Derived.Test.YtjfoagmenehapaaDoorSInt
namespace Go.Proofs.YtjfoagmenehapaaDoor
open Go.RowKit Go.Joins

/-- The slice is a row of our own and holds the n bytes l. -/
def BR (B : Nat) (W : World) (ao : Option Addr) (cap n : Nat) (l : List UInt8) : Prop := n = l.length ∧ W.ownsRowF B 5 1 (.slice ao n cap) n (Lib.byteCells l)

/-- Only rows of bytes from B on have turned. -/
def BK (B : Nat) (W W' : World) : Prop := Below B W W' ∧ Lib.OthersKept 5 none W W'

theorem BK.refl (B : Nat) (W : World) : BK B W W := ⟨Below.refl _ _, Lib.OthersKept.refl _ _ _⟩
theorem BK.trans {B : Nat} {U V W : World} (h : BK B U V) (k : BK B V W) : BK B U W := ⟨h.1.trans k.1, h.2.trans k.2⟩
theorem BK.alloc {B : Nat} {U W : World} (h : BK B U W) (hB : B ≤ W.heap.size) (o : Obj) : BK B U (W.alloc o) := ⟨h.1.alloc hB o, h.2.alloc o⟩
theorem BK.drew {B : Nat} {U W : World} (h : BK B U W) : BK B U W.drew := ⟨h.1.drew, h.2.drew⟩
theorem BK.of {B : Nat} {U W : World} (hB : B ≤ U.heap.size) (h : Below U.heap.size U W) : BK B U W := ⟨h.mono hB, others_below h⟩

theorem BR.alloc {B : Nat} {W : World} {ao : Option Addr} {cap n : Nat} {l : List UInt8} (h : BR B W ao cap n l) (o : Obj) : BR B (W.alloc o) ao cap n l := ⟨h.1, World.ownsRowF.alloc h.2 o⟩
theorem BR.drew {B : Nat} {W : World} {ao : Option Addr} {cap n : Nat} {l : List UInt8} (h : BR B W ao cap n l) : BR B W.drew ao cap n l := h

theorem BR.below {B : Nat} {W W' : World} {ao : Option Addr} {cap n : Nat} {l : List UInt8} (h : BR B W ao cap n l) (k : Below W.heap.size W W') : BR B W' ao cap n l :=
  ⟨h.1, World.ownsRowF.kept (row := none) h.2 ⟨k.os, k.tape, k.output, k.size, fun i hi _ => k.block i hi⟩ (by cases (Value.slice ao n cap).ownBlock <;> simp)⟩

theorem BR.made {B : Nat} {W : World} {v : Value} {n : Nat} {l m : List UInt8} (hn : n = l.length + m.length) (h : W.ownsRowF B 5 1 v n (Lib.byteCells l ++ Lib.byteCells m)) : ∃ ao cap, v = .slice ao n cap ∧ BR B W ao cap n (l ++ m) := by
  have e : n = (l ++ m).length := by rw [List.length_append]; exact hn
  rw [← Lib.byteCells_append] at h
  rcases h.2 with ⟨rfl, h0⟩ | ⟨g, cap, cur, fz, rfl, h'⟩
  · exact ⟨none, 0, by rw [h0], e, by rw [h0] at h ⊢; exact h⟩
  · exact ⟨_, cap, rfl, e, h⟩

theorem bk_grown {B : Nat} {W W' : World} {ao : Option Addr} {cap n : Nat} {l : List UInt8} (h : BR B W ao cap n l) (hB : B ≤ W.heap.size) (hg : W.grownBy W' (Value.slice ao n cap).ownBlock) : BK B W W' :=
  ⟨(Below.refl _ _).grown hg hB (fun k hk => (World.ownsRowF.lt h.2 k hk).1), (Lib.OthersKept.refl _ _ _).grown hg (Lib.ownsRowF_kind h.2)⟩

theorem bytes_one (l : List UInt8) : ∀ v ∈ Lib.byteCells l, v.oneCell' = true := by
  intro v hv
  simp only [Lib.byteCells, List.mem_map] at hv
  obtain ⟨b, _, rfl⟩ := hv
  rfl

theorem run_push (B : Nat) (W : World) (ao : Option Addr) (cap n : Nat) (l m : List UInt8) (j : Nat) (hj : j = m.length) (ad : Addr) (ty : TypeId) (hB : B ≤ W.heap.size) (hown : BR B W ao cap n l) (hnews : ∀ j u, (Lib.byteCells m)[j]? = some u → W.cell? (ad.add j) = some u)
    (hl : l.length + m.length ≤ 70368744177664) : ∃ ao' cap' n' W', (Builtin.append_ #[34, 34] ty #[.slice ao n cap, .slice (some ad) j j]).run Tryd.prog W = .ok (.slice ao' n' cap') W' ∧ BR B W' ao' cap' n' (l ++ m) ∧ BK B W W' := by
  obtain ⟨i0, hi, hz0, hz1, hz2⟩ := info_parts Tryd.info5
  have hn := hown.1
  obtain ⟨v', w', hr, h2, h3, h4⟩ := run_append_ownF (P := Tryd.prog) W B 34 ty 5 i0 (.int .u8 0) 1 1 Tryd.underlying34 hi hz0 hz1 hz2 rfl (by decide) _ n _ hown.2 ad j j (Lib.byteCells m) (by rw [Lib.byteCells_length, Nat.mul_one, hj]) hnews
    (bytes_one m) (by unfold maxLen; omega) (by omega) hB
  obtain ⟨ao', cap', rfl, h5⟩ := BR.made (by rw [hn, hj]) h2
  exact ⟨ao', cap', _, w', hr, h5, bk_grown hown hB h3⟩

theorem push_step {ops : Array Oper} {rest : List Oper} {o : Oper} {a : Act} {Q : Exit → Act → World → Prop} (hgd : o.guard = none) (s x : Operand)
    (ho : o.op = .call { callee := .builtin .append, args := #[s, x], argTypes := #[34, 34] })
    (B : Nat) (W : World) (ao : Option Addr) (cap n : Nat) (l m : List UInt8) (j : Nat) (hj : j = m.length) (ad : Addr) (hs : a.eval s = .slice ao n cap) (hx : a.eval x = .slice (some ad) j j) (hB : B ≤ W.heap.size) (hown : BR B W ao cap n l)
    (hnews : ∀ j u, (Lib.byteCells m)[j]? = some u → W.cell? (ad.add j) = some u) (hl : l.length + m.length ≤ 70368744177664)
    (h : ∀ ao' cap' n' W', BR B W' ao' cap' n' (l ++ m) → BK B W W' → wpList Tryd.prog ops Q rest (a.put o.dst (.slice ao' n' cap')) W') : wpList Tryd.prog ops Q (o :: rest) a W := by
  refine wpList_plain hgd fun K hK => ?_
  obtain ⟨ao', cap', n', w', hr, h2, h3⟩ := run_push B W ao cap n l m j hj ad o.type hB hown hnews hl
  unfold Oper.wp execOp
  simp only [ho, resolve, invoke, builtin, Sem.run_bind, Sem.run_pure, Result.andThen_ok, List.map_toArray, List.map_cons, List.map_nil, hs, hx, hr]
  exact hK _ _ (h ao' cap' n' w' h2 h3)

theorem push_draw {ops : Array Oper} {o : Oper} {a : Act} {K : Act → World → Prop} {Q : Exit → Act → World → Prop} {E : Prop} (hgd : o.guard = none) (s x : Operand)
    (ho : o.op = .call { callee := .builtin .append, args := #[s, x], argTypes := #[34, 34] })
    (B : Nat) (W : World) (ao : Option Addr) (cap n : Nat) (l m : List UInt8) (j : Nat) (hj : j = m.length) (ad : Addr) (hs : a.eval s = .slice ao n cap) (hx : a.eval x = .slice (some ad) j j) (hB : B ≤ W.heap.size) (hown : BR B W ao cap n l)
    (hnews : ∀ j u, (Lib.byteCells m)[j]? = some u → W.cell? (ad.add j) = some u) (hl : l.length + m.length ≤ 70368744177664)
    (h : ∀ ao' cap' n' W', BR B W' ao' cap' n' (l ++ m) → BK B W W' → K (a.put o.dst (.slice ao' n' cap')) W') :
    if Region.wanted o (yielded ops a.tmps) = true then Oper.wp Tryd.prog o a W K Q else E := by
  have hw : Region.wanted o (yielded ops a.tmps) = true := by simp [Region.wanted, hgd]
  rw [if_pos hw]
  obtain ⟨ao', cap', n', w', hr, h2, h3⟩ := run_push B W ao cap n l m j hj ad o.type hB hown hnews hl
  unfold Oper.wp execOp
  simp only [ho, resolve, invoke, builtin, Sem.run_bind, Sem.run_pure, Result.andThen_ok, List.map_toArray, List.map_cons, List.map_nil, hs, hx, hr]
  exact h ao' cap' n' w' h2 h3

theorem push_str {ops : Array Oper} {rest : List Oper} {o : Oper} {a : Act} {Q : Exit → Act → World → Prop} (hgd : o.guard = none) (s x : Operand)
    (ho : o.op = .call { callee := .builtin .append, args := #[s, x], argTypes := #[34, 9] })
    (B : Nat) (W : World) (ao : Option Addr) (cap n : Nat) (l m : List UInt8) (hs : a.eval s = .slice ao n cap) (hx : a.eval x = .string ⟨m.toArray⟩) (hB : B ≤ W.heap.size) (hown : BR B W ao cap n l)
    (hl : l.length + m.length ≤ 70368744177664)
    (h : ∀ ao' cap' n' W', BR B W' ao' cap' n' (l ++ m) → BK B W W' → wpList Tryd.prog ops Q rest (a.put o.dst (.slice ao' n' cap')) W') : wpList Tryd.prog ops Q (o :: rest) a W := by
  obtain ⟨i0, hi, hz0, hz1, hz2⟩ := info_parts Tryd.info5
  have hn := hown.1
  have hs0 : (⟨m.toArray⟩ : ByteArray).size = m.length := by simp [ByteArray.size]
  refine Lib.wpList_append_own_stringF _ hgd s x 34 9 ho B 5 i0 Tryd.underlying34 Tryd.underlying9 hi hz0 hz1 hz2 _ _ _ hs hown.2 ⟨m.toArray⟩ hx (by unfold maxLen; omega) (by omega) hB ?_
  intro v' w' h2 h3 _
  replace h2 : w'.ownsRowF B 5 1 v' (n + (⟨m.toArray⟩ : ByteArray).size) (Lib.byteCells l ++ Lib.byteCells m) := h2
  rw [hs0] at h2
  obtain ⟨ao', cap', rfl, h5⟩ := BR.made (by rw [hn]) h2
  exact h ao' cap' _ w' h5 (bk_grown hown hB h3)

theorem new_bytes (W : World) (m : List UInt8) (cs : Array Value) (t : TypeId) (e : cs.toList = Lib.byteCells m) : ∀ j u, (Lib.byteCells m)[j]? = some u → (W.alloc (.cells cs t)).cell? ((⟨W.heap.size, 0, none⟩ : Addr).add j) = some u := by
  intro j u h
  rw [← e, Array.getElem?_toList] at h
  rw [addr_add, Nat.zero_add]
  have hb := World.alloc_heap_new W (.cells cs t)
  rw [Lib.cell_of_heap hb]
  exact h

/-! How long a row is as text. -/

theorem showR_len : ∀ F : Fo, F.Good → (showR F).length ≤ 32 * F.tot
  | .nil, _ => by simp [showR]
  | .cons k nm a cap ks r, ⟨g1, g2, g3⟩ => by
    have h1 := showR_len ks g2
    have h2 := showR_len r g3
    obtain ⟨k0, k1⟩ := wf_range g1
    have hil := Lib.itoa_length_le k k0 k1
    have hfl : ∀ m : List UInt8, (m.flatMap hexb).length = m.length * 2 := fun m => by
      induction m with
      | nil => rfl
      | cons x m ih => simp only [List.flatMap_cons, List.length_append, ih, List.length_cons, hexb, List.length_nil]; omega
    have ha : (alone k nm).length ≤ 22 + nm.size * 2 := by
      unfold alone
      rw [List.length_append]
      split
      · simp; omega
      · have e : nm.data.toList.length = nm.size := Array.length_toList
        rw [List.length_cons, hfl, e]
        omega
    have e1 : (if ks.len = 0 then [] else 40 :: showR ks ++ [41] : List UInt8).length ≤ 2 + (showR ks).length := by
      split <;> simp <;> omega
    have e2 : (if r.len = 0 then [] else 32 :: showR r : List UInt8).length ≤ 1 + (showR r).length := by
      split <;> simp <;> omega
    simp only [showR, List.length_append, Fo.tot]
    omega

theorem showR_app : ∀ F G : Fo, 0 < F.len → 0 < G.len → showR (F.app G) = showR F ++ 32 :: showR G
  | .nil, _, h, _ => by simp [Fo.len] at h
  | .cons k nm a cap ks r, G, _, hG => by
    rcases Nat.eq_zero_or_pos r.len with h | h
    · rw [Fo.len_zero h]
      have h0 : ¬ G.len = 0 := by omega
      simp [Fo.app, showR, Fo.len, h0]
    · have h0 : ¬ r.len = 0 := by omega
      have h1 : ¬ (r.app G).len = 0 := by rw [Fo.app_len]; omega
      simp [Fo.app, showR, h0, h1, showR_app r G h hG]

end Go.Proofs.YtjfoagmenehapaaDoor
