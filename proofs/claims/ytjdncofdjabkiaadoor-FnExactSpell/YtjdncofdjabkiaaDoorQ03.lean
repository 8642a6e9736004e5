import Derived.Test.YtjdncofdjabkiaaDoorQ02
import Derived.Lib.OthersKept
import Derived.Lib.FrozenHead2
import Derived.Maps.AppendAt
import Derived.Deep.RegionHeld3
import Derived.Deep.DeepCutAuto
namespace Go.Proofs.YtjdncofdjabkiaaDoor
open Go.RowKit Go.Joins

theorem heap_new (W : World) (o : Obj) : (W.alloc o).heap[W.heap.size]? = some o := (MapKept.heap_alloc W o).1
theorem addr_add (b o j : Nat) : (⟨b, o, none⟩ : Addr).add j = ⟨b, o + j, none⟩ := by unfold Addr.add; split <;> simp_all

theorem Tryd.info5 : (Tryd.prog.info? 5).map (fun i => (i.zero, i.size, i.bytes)) = some (some (.int .u8 0), 1, 1) := by kernel_rfl
theorem Tryd.info33 : (Tryd.prog.info? 33).map (fun i => (i.zero, i.size, i.bytes)) = some (some (.agg #[.int .i64 0, .string ⟨#[]⟩, .int .i64 0, .int .i64 0]), 4, 40) := by kernel_rfl

theorem others_below {e : TypeId} {b : Option Nat} {w w' : World} (h : Below w.heap.size w w') : Lib.OthersKept e b w w' := fun k _ hk _ _ =>
  (h.block k (Array.getElem?_eq_some_iff.1 hk).1).trans hk

/-! Rows of bytes. -/

def BR (B : Nat) (W : World) (ao : Option Addr) (cap n : Nat) (l : List UInt8) : Prop := n = l.length ∧ W.ownsRowF B 5 1 (.slice ao n cap) n (Lib.byteCells l)
def BK (B : Nat) (W W' : World) : Prop := Below B W W' ∧ Lib.OthersKept 5 none W W'

theorem BK.refl (B : Nat) (W : World) : BK B W W := ⟨Below.refl _ _, Lib.OthersKept.refl _ _ _⟩
theorem BK.trans {B : Nat} {U V W : World} (h : BK B U V) (k : BK B V W) : BK B U W := ⟨h.1.trans k.1, h.2.trans k.2⟩
theorem BK.alloc {B : Nat} {U W : World} (h : BK B U W) (hB : B ≤ W.heap.size) (o : Obj) : BK B U (W.alloc o) := ⟨h.1.alloc hB o, h.2.alloc o⟩
theorem BK.drew {B : Nat} {U W : World} (h : BK B U W) : BK B U W.drew := ⟨h.1.drew, h.2.drew⟩
theorem BK.of {B : Nat} {U W : World} (hB : B ≤ U.heap.size) (h : Below U.heap.size U W) : BK B U W := ⟨h.mono hB, others_below h⟩
theorem BR.alloc {B : Nat} {W : World} {ao : Option Addr} {cap n : Nat} {l : List UInt8} (h : BR B W ao cap n l) (o : Obj) : BR B (W.alloc o) ao cap n l := ⟨h.1, World.ownsRowF.alloc h.2 o⟩

theorem BR.made {B : Nat} {W : World} {v : Value} {n : Nat} {l m : List UInt8} (hn : n = l.length + m.length) (h : W.ownsRowF B 5 1 v n (Lib.byteCells l ++ Lib.byteCells m)) : ∃ ao cap, v = .slice ao n cap ∧ BR B W ao cap n (l ++ m) := by
  have e : n = (l ++ m).length := by rw [List.length_append]; exact hn
  rw [← Lib.byteCells_append] at h
  rcases h.2 with ⟨rfl, h0⟩ | ⟨g, cap, cur, fz, rfl, h'⟩
  · exact ⟨none, 0, by rw [h0], e, by rw [h0] at h ⊢; exact h⟩
  · exact ⟨_, cap, rfl, e, h⟩

theorem bk_grown {B : Nat} {W W' : World} {ao : Option Addr} {cap n : Nat} {l : List UInt8} (h : BR B W ao cap n l) (hB : B ≤ W.heap.size) (hg : W.grownBy W' (Value.slice ao n cap).ownBlock) : BK B W W' :=
  ⟨(Below.refl _ _).grown hg hB (fun k hk => (World.ownsRowF.lt h.2 k hk).1), (Lib.OthersKept.refl _ _ _).grown hg (Lib.ownsRowF_kind h.2)⟩

theorem bytes_one (l : List UInt8) : ∀ v ∈ Lib.byteCells l, v.oneCell' = true := by
  intro v hv
  simp only [Lib.byteCells, List.mem_map] at hv
  obtain ⟨b, _, rfl⟩ := hv
  rfl

theorem run_push (B : Nat) (W : World) (ao : Option Addr) (cap n : Nat) (l m : List UInt8) (j : Nat) (hj : j = m.length) (ad : Addr) (ty : TypeId) (hB : B ≤ W.heap.size) (hown : BR B W ao cap n l) (hnews : ∀ j u, (Lib.byteCells m)[j]? = some u → W.cell? (ad.add j) = some u)
    (hl : l.length + m.length ≤ 70368744177664) : ∃ ao' cap' n' W', (Builtin.append_ #[53, 53] ty #[.slice ao n cap, .slice (some ad) j j]).run Tryd.prog W = .ok (.slice ao' n' cap') W' ∧ BR B W' ao' cap' n' (l ++ m) ∧ BK B W W' := by
  obtain ⟨i0, hi, hz0, hz1, hz2⟩ := info_parts Tryd.info5
  have hn := hown.1
  obtain ⟨v', w', hr, h2, h3, h4⟩ := run_append_ownF (P := Tryd.prog) W B 53 ty 5 i0 (.int .u8 0) 1 1 Tryd.underlying53 hi hz0 hz1 hz2 rfl (by decide) _ n _ hown.2 ad j j (Lib.byteCells m) (by rw [Lib.byteCells_length, Nat.mul_one, hj]) hnews
    (bytes_one m) (by unfold maxLen; omega) (by omega) hB
  obtain ⟨ao', cap', rfl, h5⟩ := BR.made (by rw [hn, hj]) h2
  exact ⟨ao', cap', _, w', hr, h5, bk_grown hown hB h3⟩

theorem push_step {ops : Array Oper} {rest : List Oper} {o : Oper} {a : Act} {Q : Exit → Act → World → Prop} (hgd : o.guard = none) (s x : Operand)
    (ho : o.op = .call { callee := .builtin .append, args := #[s, x], argTypes := #[53, 53] })
    (B : Nat) (W : World) (ao : Option Addr) (cap n : Nat) (l m : List UInt8) (j : Nat) (hj : j = m.length) (ad : Addr) (hs : a.eval s = .slice ao n cap) (hx : a.eval x = .slice (some ad) j j) (hB : B ≤ W.heap.size) (hown : BR B W ao cap n l)
    (hnews : ∀ j u, (Lib.byteCells m)[j]? = some u → W.cell? (ad.add j) = some u) (hl : l.length + m.length ≤ 70368744177664)
    (h : ∀ ao' cap' n' W', BR B W' ao' cap' n' (l ++ m) → BK B W W' → wpList Tryd.prog ops Q rest (a.put o.dst (.slice ao' n' cap')) W') : wpList Tryd.prog ops Q (o :: rest) a W := by
  refine wpList_plain hgd fun K hK => ?_
  obtain ⟨ao', cap', n', w', hr, h2, h3⟩ := run_push B W ao cap n l m j hj ad o.type hB hown hnews hl
  unfold Oper.wp execOp
  simp only [ho, resolve, invoke, builtin, Sem.run_bind, Sem.run_pure, Result.andThen_ok, List.map_toArray, List.map_cons, List.map_nil, hs, hx, hr]
  exact hK _ _ (h ao' cap' n' w' h2 h3)

theorem push_str {ops : Array Oper} {rest : List Oper} {o : Oper} {a : Act} {Q : Exit → Act → World → Prop} (hgd : o.guard = none) (s x : Operand)
    (ho : o.op = .call { callee := .builtin .append, args := #[s, x], argTypes := #[53, 9] })
    (B : Nat) (W : World) (ao : Option Addr) (cap n : Nat) (l m : List UInt8) (hs : a.eval s = .slice ao n cap) (hx : a.eval x = .string ⟨m.toArray⟩) (hB : B ≤ W.heap.size) (hown : BR B W ao cap n l)
    (hl : l.length + m.length ≤ 70368744177664)
    (h : ∀ ao' cap' n' W', BR B W' ao' cap' n' (l ++ m) → BK B W W' → wpList Tryd.prog ops Q rest (a.put o.dst (.slice ao' n' cap')) W') : wpList Tryd.prog ops Q (o :: rest) a W := by
  obtain ⟨i0, hi, hz0, hz1, hz2⟩ := info_parts Tryd.info5
  have hn := hown.1
  have hs0 : (⟨m.toArray⟩ : ByteArray).size = m.length := by simp [ByteArray.size]
  refine Lib.wpList_append_own_stringF _ hgd s x 53 9 ho B 5 i0 Tryd.underlying53 Tryd.underlying9 hi hz0 hz1 hz2 _ _ _ hs hown.2 ⟨m.toArray⟩ hx (by unfold maxLen; omega) (by omega) hB ?_
  intro v' w' h2 h3 _
  replace h2 : w'.ownsRowF B 5 1 v' (n + (⟨m.toArray⟩ : ByteArray).size) (Lib.byteCells l ++ Lib.byteCells m) := h2
  rw [hs0] at h2
  obtain ⟨ao', cap', rfl, h5⟩ := BR.made (by rw [hn]) h2
  exact h ao' cap' _ w' h5 (bk_grown hown hB h3)

theorem new_bytes (W : World) (m : List UInt8) (cs : Array Value) (t : TypeId) (e : cs.toList = Lib.byteCells m) : ∀ j u, (Lib.byteCells m)[j]? = some u → (W.alloc (.cells cs t)).cell? ((⟨W.heap.size, 0, none⟩ : Addr).add j) = some u := by
  intro j u h
  rw [← e, Array.getElem?_toList] at h
  rw [addr_add, Nat.zero_add]
  have hb := heap_new W (.cells cs t)
  rw [Lib.cell_of_heap hb]
  exact h

theorem BR.start (B : Nat) (W : World) : BR B W none 0 0 [] := ⟨rfl, rfl, .inl ⟨rfl, rfl⟩⟩

/-- What stands in the row, as text. -/
theorem BR.text {B : Nat} {W : World} {ao : Option Addr} {cap n : Nat} {l : List UInt8} (h : BR B W ao cap n l) : (convert 53 9 (.slice ao n cap)).run Tryd.prog W = .ok (.string ⟨l.toArray⟩) W := by
  obtain ⟨rfl, h1, h2⟩ := h
  rcases h2 with ⟨h2, h3⟩ | ⟨g, cap', cur, fz, e, hg, hb, _, _, _, _, ht⟩
  · obtain rfl := List.length_eq_zero_iff.1 h3
    rw [h2, run_convert_bytes_string (P := Tryd.prog) W 53 9 5 none 0 0 Tryd.underlying53 Tryd.underlying5 Tryd.underlying9]
    rfl
  · simp only [Value.slice.injEq] at e
    obtain ⟨rfl, -, rfl⟩ := e
    refine run_convert_bytes_back (P := Tryd.prog) W 53 9 5 ⟨g, 0, none⟩ cap l Tryd.underlying53 Tryd.underlying5 Tryd.underlying9 (fun j hj => ?_)
    rw [addr_add, Nat.zero_add, Lib.cell_of_heap hb]
    have : cur.toList[j]? = some (.int .u8 (l[j].toNat : Int)) := by
      have e : (cur.toList.take (l.length * 1))[j]? = (Lib.byteCells l)[j]? := by rw [ht]
      rw [List.getElem?_take, if_pos (by omega)] at e
      rw [e]
      simp [Lib.byteCells, hj]
    rwa [Array.getElem?_toList] at this

/-! Rows of tokens. -/

def TR (B : Nat) (W : World) (ao : Option Addr) (cap n : Nat) (T : List To) : Prop := n = T.length ∧ W.ownsRow B 33 4 (.slice ao n cap) n (T.flatMap To.cells)

theorem TR.start (B : Nat) (W : World) : TR B W none 0 0 [] := ⟨rfl, rfl, .inl ⟨rfl, rfl⟩⟩
theorem TR.alloc {B : Nat} {W : World} {ao : Option Addr} {cap n : Nat} {T : List To} (h : TR B W ao cap n T) (o : Obj) : TR B (W.alloc o) ao cap n T := ⟨h.1, World.ownsRow.alloc h.2 o⟩
theorem TR.drewN {B : Nat} {W : World} {ao : Option Addr} {cap n : Nat} {T : List To} (h : TR B W ao cap n T) (q : Nat) : TR B (W.drewN q) ao cap n T := h

theorem flat_len : ∀ T : List To, (T.flatMap To.cells).length = T.length * 4
  | [] => rfl
  | t :: T => by rw [List.flatMap_cons, List.length_append, flat_len T]; simp only [To.cells, List.length_cons, List.length_nil]; omega

theorem cells_one (t : To) : ∀ u ∈ t.cells, u.oneCell' = true := by
  intro u hu
  simp only [To.cells, List.mem_cons, List.not_mem_nil, or_false] at hu
  rcases hu with rfl | rfl | rfl | rfl <;> rfl

theorem TR.made {B : Nat} {W : World} {v : Value} {n : Nat} {T : List To} {t : To} (hn : n = T.length) (h : W.ownsRow B 33 4 v (n + 1) (T.flatMap To.cells ++ t.cells)) : ∃ ao cap, v = .slice ao (n + 1) cap ∧ TR B W ao cap (n + 1) (T ++ [t]) := by
  have e : T.flatMap To.cells ++ t.cells = (T ++ [t]).flatMap To.cells := by simp
  rw [e] at h
  rcases h.2 with ⟨rfl, h0⟩ | ⟨g, cap, cur, rfl, h'⟩
  · omega
  · exact ⟨_, cap, rfl, by simp [hn], h⟩

/-- What a call that turns the row of ao and block b alone leaves. -/
theorem run_tok (B : Nat) (W : World) (ao : Option Addr) (cap n : Nat) (T : List To) (t : To) (ad : Addr) (ty : TypeId) (hB : B ≤ W.heap.size) (hown : TR B W ao cap n T) (hnews : ∀ j u, t.cells[j]? = some u → W.cell? (ad.add j) = some u)
    (hl : T.length ≤ 1048576) : ∃ ao' cap' W', (Builtin.append_ #[22, 22] ty #[.slice ao n cap, .slice (some ad) 1 1]).run Tryd.prog W = .ok (.slice ao' (n + 1) cap') W' ∧ TR B W' ao' cap' (n + 1) (T ++ [t]) ∧ W.grownBy W' (Value.slice ao n cap).ownBlock := by
  obtain ⟨i0, hi, hz0, hz1, hz2⟩ := info_parts Tryd.info33
  have hn := hown.1
  obtain ⟨v', w', hr, h2, h3, h4, h5⟩ := run_append_own_at (P := Tryd.prog) W B 22 ty 33 i0 (.agg #[.int .i64 0, .string ⟨#[]⟩, .int .i64 0, .int .i64 0]) 4 40 Tryd.underlying22 hi hz0 hz1 hz2 rfl (by decide) _ n _ hown.2 ad 1 1 t.cells rfl hnews
    (cells_one t) (by unfold maxLen; omega) (by omega) hB
  obtain ⟨ao', cap', rfl, h6⟩ := TR.made hn h2
  exact ⟨ao', cap', w', hr, h6, h3⟩

theorem tok_draw {ops : Array Oper} {o : Oper} {a : Act} {K : Act → World → Prop} {Q : Exit → Act → World → Prop} {E : Prop} (hgd : o.guard = none) (s x : Operand)
    (ho : o.op = .call { callee := .builtin .append, args := #[s, x], argTypes := #[22, 22] })
    (B : Nat) (W : World) (ao : Option Addr) (cap n : Nat) (T : List To) (t : To) (ad : Addr) (hs : a.eval s = .slice ao n cap) (hx : a.eval x = .slice (some ad) 1 1) (hB : B ≤ W.heap.size) (hown : TR B W ao cap n T)
    (hnews : ∀ j u, t.cells[j]? = some u → W.cell? (ad.add j) = some u) (hl : T.length ≤ 1048576)
    (h : ∀ ao' cap' W', TR B W' ao' cap' (n + 1) (T ++ [t]) → W.grownBy W' (Value.slice ao n cap).ownBlock → K (a.put o.dst (.slice ao' (n + 1) cap')) W') :
    if Region.wanted o (yielded ops a.tmps) = true then Oper.wp Tryd.prog o a W K Q else E := by
  have hw : Region.wanted o (yielded ops a.tmps) = true := by simp [Region.wanted, hgd]
  rw [if_pos hw]
  obtain ⟨ao', cap', w', hr, h2, h3⟩ := run_tok B W ao cap n T t ad o.type hB hown hnews hl
  unfold Oper.wp execOp
  simp only [ho, resolve, invoke, builtin, Sem.run_bind, Sem.run_pure, Result.andThen_ok, List.map_toArray, List.map_cons, List.map_nil, hs, hx, hr]
  exact h ao' cap' w' h2 h3

theorem new_cells (W : World) (L : List Value) (cs : Array Value) (t : TypeId) (e : cs.toList = L) : ∀ j u, L[j]? = some u → (W.alloc (.cells cs t)).cell? ((⟨W.heap.size, 0, none⟩ : Addr).add j) = some u := by
  intro j u h
  rw [← e, Array.getElem?_toList] at h
  rw [addr_add, Nat.zero_add]
  have hb := heap_new W (.cells cs t)
  rw [Lib.cell_of_heap hb]
  exact h

theorem Only.grown {g : Nat} {w w' : World} (h : Only g w w') : w.grownBy w' (some g) := ⟨h.os, h.tape, h.output, by rw [h.size]; exact Nat.le_refl _, fun k _ hk => h.block k (fun e => hk (by rw [e]))⟩
theorem Only.below {g B : Nat} {w w' : World} (h : Only g w w') (hB : B ≤ g) : Below B w w' := ⟨h.os, h.tape, h.output, by have := h.size; omega, fun k hk => h.block k (by omega)⟩

theorem TR.only {B b : Nat} {W W' : World} {ao : Option Addr} {cap n : Nat} {T : List To} (h : TR B W ao cap n T) (k : Only b W W') (hb : b < B) : TR B W' ao cap n T := by
  refine ⟨h.1, World.ownsRow.kept h.2 k.grown ?_⟩
  right
  intro e
  have := (World.ownsRow.lt h.2 b e).1
  omega

theorem Lx.kept {w w' b s a ln cl x4 x5 x6 x7} (h : Lx w b s a ln cl x4 x5 x6 x7) (hb : w'.heap[b]? = w.heap[b]?) (hz : w.heap.size ≤ w'.heap.size) : Lx w' b s a ln cl x4 x5 x6 x7 := by
  have hc : ∀ o, w'.cell? ⟨b, o, none⟩ = w.cell? ⟨b, o, none⟩ := fun o => World.cell?_of_block hb
  have hf : ∀ o, w'.frozen? ⟨b, o, none⟩ = w.frozen? ⟨b, o, none⟩ := fun o => World.frozen?_of_block hb
  exact ⟨(hc 0).trans h.c0, (hc 1).trans h.c1, (hc 2).trans h.c2, (hc 3).trans h.c3, (hc 4).trans h.c4, (hc 5).trans h.c5, (hc 6).trans h.c6, (hc 7).trans h.c7, fun o => (hf o).trans (h.fr o), Nat.lt_of_lt_of_le h.lt hz⟩

theorem Lx.set7 {w b s a ln cl x4 x5 x6 x7} (h : Lx w b s a ln cl x4 x5 x6 x7) (v : Value) : Lx (w.setCell ⟨b, 7, none⟩ v) b s a ln cl x4 x5 x6 v := by
  obtain ⟨c0, c1, c2, c3, c4, c5, c6, c7, fr, lt⟩ := h
  exact ⟨by simp [go_sem, c0], by simp [go_sem, c1], by simp [go_sem, c2], by simp [go_sem, c3], by simp [go_sem, c4], by simp [go_sem, c5], by simp [go_sem, c6], by simp [go_sem, c7], fun o => by simpa [go_sem] using fr o, by simpa using lt⟩

end Go.Proofs.YtjdncofdjabkiaaDoor

