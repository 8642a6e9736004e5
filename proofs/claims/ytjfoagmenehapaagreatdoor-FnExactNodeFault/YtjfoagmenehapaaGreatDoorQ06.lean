import Derived.Test.YtjfoagmenehapaaGreatDoorQ05
import Derived.Lib.OthersKept
import Derived.Lib.FrozenHead2
import Derived.Maps.AppendAt
import Derived.Deep.RegionHeld3
import Derived.Deep.DeepCutAuto
namespace Go.Proofs.YtjfoagmenehapaaGreatDoor
open Go.RowKit Go.Joins

theorem heap_new (W : World) (o : Obj) : (W.alloc o).heap[W.heap.size]? = some o := (MapKept.heap_alloc W o).1
theorem addr_add (b o j : Nat) : (⟨b, o, none⟩ : Addr).add j = ⟨b, o + j, none⟩ := by unfold Addr.add; split <;> simp_all

theorem Tryz.info5 : (Tryz.prog.info? 5).map (fun i => (i.zero, i.size, i.bytes)) = some (some (.int .u8 0), 1, 1) := by kernel_rfl
theorem Tryz.info65 : (Tryz.prog.info? 65).map (fun i => (i.zero, i.size, i.bytes)) = some (some (.agg #[.int .i64 0, .string ⟨#[]⟩, .int .i64 0, .int .i64 0]), 4, 40) := by kernel_rfl

theorem others_below {e : TypeId} {b : Option Nat} {w w' : World} (h : Below w.heap.size w w') : Lib.OthersKept e b w w' := fun k _ hk _ _ =>
  (h.block k (Array.getElem?_eq_some_iff.1 hk).1).trans hk

/-! Rows of bytes. -/

def BR (B : Nat) (W : World) (ao : Option Addr) (cap n : Nat) (l : List UInt8) : Prop := n = l.length ∧ W.ownsRowF B 5 1 (.slice ao n cap) n (Lib.byteCells l)
def BK (B : Nat) (W W' : World) : Prop := Below B W W' ∧ Lib.OthersKept 5 none W W'

theorem BK.refl (B : Nat) (W : World) : BK B W W := ⟨Below.refl _ _, Lib.OthersKept.refl _ _ _⟩
theorem BK.trans {B : Nat} {U V W : World} (h : BK B U V) (k : BK B V W) : BK B U W := ⟨h.1.trans k.1, h.2.trans k.2⟩
theorem BK.alloc {B : Nat} {U W : World} (h : BK B U W) (hB : B ≤ W.heap.size) (o : Obj) : BK B U (W.alloc o) := ⟨h.1.alloc hB o, h.2.alloc o⟩
theorem BK.drew {B : Nat} {U W : World} (h : BK B U W) : BK B U W.drew := ⟨h.1.drew, h.2.drew⟩
theorem BK.of {B : Nat} {U W : World} (hB : B ≤ U.heap.size) (h : Below U.heap.size U W) : BK B U W := ⟨h.mono hB, others_below h⟩
theorem BR.alloc {B : Nat} {W : World} {ao : Option Addr} {cap n : Nat} {l : List UInt8} (h : BR B W ao cap n l) (o : Obj) : BR B (W.alloc o) ao cap n l := ⟨h.1, World.ownsRowF.alloc h.2 o⟩

theorem BR.made {B : Nat} {W : World} {v : Value} {n : Nat} {l m : List UInt8} (hn : n = l.length + m.length) (h : W.ownsRowF B 5 1 v n (Lib.byteCells l ++ Lib.byteCells m)) : ∃ ao cap, v = .slice ao n cap ∧ BR B W ao cap n (l ++ m) := by
  have e : n = (l ++ m).length := by rw [List.length_append]; exact hn
  rw [← Lib.byteCells_append] at h
  rcases h.2 with ⟨rfl, h0⟩ | ⟨g, cap, cur, fz, rfl, h'⟩
  · exact ⟨none, 0, by rw [h0], e, by rw [h0] at h ⊢; exact h⟩
  · exact ⟨_, cap, rfl, e, h⟩

theorem bk_grown {B : Nat} {W W' : World} {ao : Option Addr} {cap n : Nat} {l : List UInt8} (h : BR B W ao cap n l) (hB : B ≤ W.heap.size) (hg : W.grownBy W' (Value.slice ao n cap).ownBlock) : BK B W W' :=
  ⟨(Below.refl _ _).grown hg hB (fun k hk => (World.ownsRowF.lt h.2 k hk).1), (Lib.OthersKept.refl _ _ _).grown hg (Lib.ownsRowF_kind h.2)⟩

theorem bytes_one (l : List UInt8) : ∀ v ∈ Lib.byteCells l, v.oneCell' = true := by
  intro v hv
  simp only [Lib.byteCells, List.mem_map] at hv
  obtain ⟨b, _, rfl⟩ := hv
  rfl

theorem run_push (B : Nat) (W : World) (ao : Option Addr) (cap n : Nat) (l m : List UInt8) (j : Nat) (hj : j = m.length) (ad : Addr) (ty : TypeId) (hB : B ≤ W.heap.size) (hown : BR B W ao cap n l) (hnews : ∀ j u, (Lib.byteCells m)[j]? = some u → W.cell? (ad.add j) = some u)
    (hl : l.length + m.length ≤ 70368744177664) : ∃ ao' cap' n' W', (Builtin.append_ #[114, 114] ty #[.slice ao n cap, .slice (some ad) j j]).run Tryz.prog W = .ok (.slice ao' n' cap') W' ∧ BR B W' ao' cap' n' (l ++ m) ∧ BK B W W' := by
  obtain ⟨i0, hi, hz0, hz1, hz2⟩ := info_parts Tryz.info5
  have hn := hown.1
  obtain ⟨v', w', hr, h2, h3, h4⟩ := run_append_ownF (P := Tryz.prog) W B 114 ty 5 i0 (.int .u8 0) 1 1 Tryz.underlying114 hi hz0 hz1 hz2 rfl (by decide) _ n _ hown.2 ad j j (Lib.byteCells m) (by rw [Lib.byteCells_length, Nat.mul_one, hj]) hnews
    (bytes_one m) (by unfold maxLen; omega) (by omega) hB
  obtain ⟨ao', cap', rfl, h5⟩ := BR.made (by rw [hn, hj]) h2
  exact ⟨ao', cap', _, w', hr, h5, bk_grown hown hB h3⟩

theorem push_step {ops : Array Oper} {rest : List Oper} {o : Oper} {a : Act} {Q : Exit → Act → World → Prop} (hgd : o.guard = none) (s x : Operand)
    (ho : o.op = .call { callee := .builtin .append, args := #[s, x], argTypes := #[114, 114] })
    (B : Nat) (W : World) (ao : Option Addr) (cap n : Nat) (l m : List UInt8) (j : Nat) (hj : j = m.length) (ad : Addr) (hs : a.eval s = .slice ao n cap) (hx : a.eval x = .slice (some ad) j j) (hB : B ≤ W.heap.size) (hown : BR B W ao cap n l)
    (hnews : ∀ j u, (Lib.byteCells m)[j]? = some u → W.cell? (ad.add j) = some u) (hl : l.length + m.length ≤ 70368744177664)
    (h : ∀ ao' cap' n' W', BR B W' ao' cap' n' (l ++ m) → BK B W W' → wpList Tryz.prog ops Q rest (a.put o.dst (.slice ao' n' cap')) W') : wpList Tryz.prog ops Q (o :: rest) a W := by
  refine wpList_plain hgd fun K hK => ?_
  obtain ⟨ao', cap', n', w', hr, h2, h3⟩ := run_push B W ao cap n l m j hj ad o.type hB hown hnews hl
  unfold Oper.wp execOp
  simp only [ho, resolve, invoke, builtin, Sem.run_bind, Sem.run_pure, Result.andThen_ok, List.map_toArray, List.map_cons, List.map_nil, hs, hx, hr]
  exact hK _ _ (h ao' cap' n' w' h2 h3)

theorem push_str {ops : Array Oper} {rest : List Oper} {o : Oper} {a : Act} {Q : Exit → Act → World → Prop} (hgd : o.guard = none) (s x : Operand)
    (ho : o.op = .call { callee := .builtin .append, args := #[s, x], argTypes := #[114, 9] })
    (B : Nat) (W : World) (ao : Option Addr) (cap n : Nat) (l m : List UInt8) (hs : a.eval s = .slice ao n cap) (hx : a.eval x = .string ⟨m.toArray⟩) (hB : B ≤ W.heap.size) (hown : BR B W ao cap n l)
    (hl : l.length + m.length ≤ 70368744177664)
    (h : ∀ ao' cap' n' W', BR B W' ao' cap' n' (l ++ m) → BK B W W' → wpList Tryz.prog ops Q rest (a.put o.dst (.slice ao' n' cap')) W') : wpList Tryz.prog ops Q (o :: rest) a W := by
  obtain ⟨i0, hi, hz0, hz1, hz2⟩ := info_parts Tryz.info5
  have hn := hown.1
  have hs0 : (⟨m.toArray⟩ : ByteArray).size = m.length := by simp [ByteArray.size]
  refine Lib.wpList_append_own_stringF _ hgd s x 114 9 ho B 5 i0 Tryz.underlying114 Tryz.underlying9 hi hz0 hz1 hz2 _ _ _ hs hown.2 ⟨m.toArray⟩ hx (by unfold maxLen; omega) (by omega) hB ?_
  intro v' w' h2 h3 _
  replace h2 : w'.ownsRowF B 5 1 v' (n + (⟨m.toArray⟩ : ByteArray).size) (Lib.byteCells l ++ Lib.byteCells m) := h2
  rw [hs0] at h2
  obtain ⟨ao', cap', rfl, h5⟩ := BR.made (by rw [hn]) h2
  exact h ao' cap' _ w' h5 (bk_grown hown hB h3)

theorem new_bytes (W : World) (m : List UInt8) (cs : Array Value) (t : TypeId) (e : cs.toList = Lib.byteCells m) : ∀ j u, (Lib.byteCells m)[j]? = some u → (W.alloc (.cells cs t)).cell? ((⟨W.heap.size, 0, none⟩ : Addr).add j) = some u := by
  intro j u h
  rw [← e, Array.getElem?_toList] at h
  rw [addr_add, Nat.zero_add]
  have hb := heap_new W (.cells cs t)
  rw [Lib.cell_of_heap hb]
  exact h

theorem BR.start (B : Nat) (W : World) : BR B W none 0 0 [] := ⟨rfl, rfl, .inl ⟨rfl, rfl⟩⟩

/-- What stands in the row, as text. -/
theorem BR.text {B : Nat} {W : World} {ao : Option Addr} {cap n : Nat} {l : List UInt8} (h : BR B W ao cap n l) : (convert 114 9 (.slice ao n cap)).run Tryz.prog W = .ok (.string ⟨l.toArray⟩) W := by
  obtain ⟨rfl, h1, h2⟩ := h
  rcases h2 with ⟨h2, h3⟩ | ⟨g, cap', cur, fz, e, hg, hb, _, _, _, _, ht⟩
  · obtain rfl := List.length_eq_zero_iff.1 h3
    rw [h2, run_convert_bytes_string (P := Tryz.prog) W 114 9 5 none 0 0 Tryz.underlying114 Tryz.underlying5 Tryz.underlying9]
    rfl
  · simp only [Value.slice.injEq] at e
    obtain ⟨rfl, -, rfl⟩ := e
    refine run_convert_bytes_back (P := Tryz.prog) W 114 9 5 ⟨g, 0, none⟩ cap l Tryz.underlying114 Tryz.underlying5 Tryz.underlying9 (fun j hj => ?_)
    rw [addr_add, Nat.zero_add, Lib.cell_of_heap hb]
    have : cur.toList[j]? = some (.int .u8 (l[j].toNat : Int)) := by
      have e : (cur.toList.take (l.length * 1))[j]? = (Lib.byteCells l)[j]? := by rw [ht]
      rw [List.getElem?_take, if_pos (by omega)] at e
      rw [e]
      simp [Lib.byteCells, hj]
    rwa [Array.getElem?_toList] at this

/-! Rows of tokens. -/

def TR (B : Nat) (W : World) (ao : Option Addr) (cap n : Nat) (T : List To) : Prop := n = T.length ∧ W.ownsRow B 65 4 (.slice ao n cap) n (T.flatMap To.cells)

theorem TR.start (B : Nat) (W : World) : TR B W none 0 0 [] := ⟨rfl, rfl, .inl ⟨rfl, rfl⟩⟩
theorem TR.alloc {B : Nat} {W : World} {ao : Option Addr} {cap n : Nat} {T : List To} (h : TR B W ao cap n T) (o : Obj) : TR B (W.alloc o) ao cap n T := ⟨h.1, World.ownsRow.alloc h.2 o⟩
theorem TR.drewN {B : Nat} {W : World} {ao : Option Addr} {cap n : Nat} {T : List To} (h : TR B W ao cap n T) (q : Nat) : TR B (W.drewN q) ao cap n T := h

theorem flat_len : ∀ T : List To, (T.flatMap To.cells).length = T.length * 4
  | [] => rfl
  | t :: T => by rw [List.flatMap_cons, List.length_append, flat_len T]; simp only [To.cells, List.length_cons, List.length_nil]; omega

theorem cells_one (t : To) : ∀ u ∈ t.cells, u.oneCell' = true := by
  intro u hu
  simp only [To.cells, List.mem_cons, List.not_mem_nil, or_false] at hu
  rcases hu with rfl | rfl | rfl | rfl <;> rfl

theorem TR.made {B : Nat} {W : World} {v : Value} {n : Nat} {T : List To} {t : To} (hn : n = T.length) (h : W.ownsRow B 65 4 v (n + 1) (T.flatMap To.cells ++ t.cells)) : ∃ ao cap, v = .slice ao (n + 1) cap ∧ TR B W ao cap (n + 1) (T ++ [t]) := by
  have e : T.flatMap To.cells ++ t.cells = (T ++ [t]).flatMap To.cells := by simp
  rw [e] at h
  rcases h.2 with ⟨rfl, h0⟩ | ⟨g, cap, cur, rfl, h'⟩
  · omega
  · exact ⟨_, cap, rfl, by simp [hn], h⟩

/-- What a call that turns the row of ao and block b alone leaves. -/
theorem run_tok (B : Nat) (W : World) (ao : Option Addr) (cap n : Nat) (T : List To) (t : To) (ad : Addr) (ty : TypeId) (hB : B ≤ W.heap.size) (hown : TR B W ao cap n T) (hnews : ∀ j u, t.cells[j]? = some u → W.cell? (ad.add j) = some u)
    (hl : T.length ≤ 1048576) : ∃ ao' cap' W', (Builtin.append_ #[109, 109] ty #[.slice ao n cap, .slice (some ad) 1 1]).run Tryz.prog W = .ok (.slice ao' (n + 1) cap') W' ∧ TR B W' ao' cap' (n + 1) (T ++ [t]) ∧ W.grownBy W' (Value.slice ao n cap).ownBlock := by
  obtain ⟨i0, hi, hz0, hz1, hz2⟩ := info_parts Tryz.info65
  have hn := hown.1
  obtain ⟨v', w', hr, h2, h3, h4, h5⟩ := run_append_own_at (P := Tryz.prog) W B 109 ty 65 i0 (.agg #[.int .i64 0, .string ⟨#[]⟩, .int .i64 0, .int .i64 0]) 4 40 Tryz.underlying109 hi hz0 hz1 hz2 rfl (by decide) _ n _ hown.2 ad 1 1 t.cells rfl hnews
    (cells_one t) (by unfold maxLen; omega) (by omega) hB
  obtain ⟨ao', cap', rfl, h6⟩ := TR.made hn h2
  exact ⟨ao', cap', w', hr, h6, h3⟩

theorem tok_draw {ops : Array Oper} {o : Oper} {a : Act} {K : Act → World → Prop} {Q : Exit → Act → World → Prop} {E : Prop} (hgd : o.guard = none) (s x : Operand)
    (ho : o.op = .call { callee := .builtin .append, args := #[s, x], argTypes := #[109, 109] })
    (B : Nat) (W : World) (ao : Option Addr) (cap n : Nat) (T : List To) (t : To) (ad : Addr) (hs : a.eval s = .slice ao n cap) (hx : a.eval x = .slice (some ad) 1 1) (hB : B ≤ W.heap.size) (hown : TR B W ao cap n T)
    (hnews : ∀ j u, t.cells[j]? = some u → W.cell? (ad.add j) = some u) (hl : T.length ≤ 1048576)
    (h : ∀ ao' cap' W', TR B W' ao' cap' (n + 1) (T ++ [t]) → W.grownBy W' (Value.slice ao n cap).ownBlock → K (a.put o.dst (.slice ao' (n + 1) cap')) W') :
    if Region.wanted o (yielded ops a.tmps) = true then Oper.wp Tryz.prog o a W K Q else E := by
  have hw : Region.wanted o (yielded ops a.tmps) = true := by simp [Region.wanted, hgd]
  rw [if_pos hw]
  obtain ⟨ao', cap', w', hr, h2, h3⟩ := run_tok B W ao cap n T t ad o.type hB hown hnews hl
  unfold Oper.wp execOp
  simp only [ho, resolve, invoke, builtin, Sem.run_bind, Sem.run_pure, Result.andThen_ok, List.map_toArray, List.map_cons, List.map_nil, hs, hx, hr]
  exact h ao' cap' w' h2 h3

theorem new_cells (W : World) (L : List Value) (cs : Array Value) (t : TypeId) (e : cs.toList = L) : ∀ j u, L[j]? = some u → (W.alloc (.cells cs t)).cell? ((⟨W.heap.size, 0, none⟩ : Addr).add j) = some u := by
  intro j u h
  rw [← e, Array.getElem?_toList] at h
  rw [addr_add, Nat.zero_add]
  have hb := heap_new W (.cells cs t)
  rw [Lib.cell_of_heap hb]
  exact h

theorem Only.grown {g : Nat} {w w' : World} (h : Only g w w') : w.grownBy w' (some g) := ⟨h.os, h.tape, h.output, by rw [h.size]; exact Nat.le_refl _, fun k _ hk => h.block k (fun e => hk (by rw [e]))⟩
theorem Only.below {g B : Nat} {w w' : World} (h : Only g w w') (hB : B ≤ g) : Below B w w' := ⟨h.os, h.tape, h.output, by have := h.size; omega, fun k hk => h.block k (by omega)⟩

theorem TR.only {B b : Nat} {W W' : World} {ao : Option Addr} {cap n : Nat} {T : List To} (h : TR B W ao cap n T) (k : Only b W W') (hb : b < B) : TR B W' ao cap n T := by
  refine ⟨h.1, World.ownsRow.kept h.2 k.grown ?_⟩
  right
  intro e
  have := (World.ownsRow.lt h.2 b e).1
  omega

theorem Lx.kept {w w' b s a ln cl x4 x5 x6 x7} (h : Lx w b s a ln cl x4 x5 x6 x7) (hb : w'.heap[b]? = w.heap[b]?) (hz : w.heap.size ≤ w'.heap.size) : Lx w' b s a ln cl x4 x5 x6 x7 := by
  have hc : ∀ o, w'.cell? ⟨b, o, none⟩ = w.cell? ⟨b, o, none⟩ := fun o => World.cell?_of_block hb
  have hf : ∀ o, w'.frozen? ⟨b, o, none⟩ = w.frozen? ⟨b, o, none⟩ := fun o => World.frozen?_of_block hb
  exact ⟨(hc 0).trans h.c0, (hc 1).trans h.c1, (hc 2).trans h.c2, (hc 3).trans h.c3, (hc 4).trans h.c4, (hc 5).trans h.c5, (hc 6).trans h.c6, (hc 7).trans h.c7, fun o => (hf o).trans (h.fr o), Nat.lt_of_lt_of_le h.lt hz⟩

theorem Lx.set7 {w b s a ln cl x4 x5 x6 x7} (h : Lx w b s a ln cl x4 x5 x6 x7) (v : Value) : Lx (w.setCell ⟨b, 7, none⟩ v) b s a ln cl x4 x5 x6 v := by
  obtain ⟨c0, c1, c2, c3, c4, c5, c6, c7, fr, lt⟩ := h
  exact ⟨by simp [go_sem, c0], by simp [go_sem, c1], by simp [go_sem, c2], by simp [go_sem, c3], by simp [go_sem, c4], by simp [go_sem, c5], by simp [go_sem, c6], by simp [go_sem, c7], fun o => by simpa [go_sem] using fr o, by simpa using lt⟩

end Go.Proofs.YtjfoagmenehapaaGreatDoor

namespace Go.Proofs.YtjfoagmenehapaaGreatDoor
open Go.RowKit Go.Joins

set_option maxHeartbeats 1000000 in
set_option maxRecDepth 100000 in
theorem mPut (b : Nat) (s : ByteArray) (a m : Nat) (x4 x5 x6 : Value) (ao : Option Addr) (cap n : Nat) (T : List To) (k : Nat) (t : ByteArray) (w : World) (h : Lx w b s a (pl s a) (pc s a) x4 x5 x6 (.slice ao n cap)) (hT : TR (b + 1) w ao cap n T)
    (hl : T.length ≤ 1048576) (hs : s.size ≤ 1048576) (ha : a + m ≤ s.size) :
    Calls Tryz.prog 135 #[.pointer (some ⟨b, 0, none⟩), .int .i64 k, .string t, .int .i64 m] w fun e w' => e = .returned (.tuple #[]) ∧
      (∃ ao' cap', Lx w' b s (a + m) (pl s (a + m)) (pc s (a + m)) x4 x5 x6 (.slice ao' (n + 1) cap') ∧ TR (b + 1) w' ao' cap' (n + 1) (T ++ [⟨k, t, pl s a, pc s a⟩])) ∧ Below b w w' := by
  obtain ⟨c0, c1, c2, c3, c4, c5, c6, c7, fr, lt⟩ := id h
  have lt' : b + 1 ≤ w.heap.size := lt
  have hka : ∀ o, (w.alloc o).drew.cell? ⟨b, 2, none⟩ = some (.int .i64 (pl s a)) ∧ (w.alloc o).drew.cell? ⟨b, 3, none⟩ = some (.int .i64 (pc s a)) := fun o =>
    ⟨((below_alloc1 w o).cell (p := ⟨b, 2, none⟩) lt).trans c2, ((below_alloc1 w o).cell (p := ⟨b, 3, none⟩) lt).trans c3⟩
  have c7a : ∀ o, (w.alloc o).drew.cell? ⟨b, 7, none⟩ = some (.slice ao n cap) := fun o => ((below_alloc1 w o).cell (p := ⟨b, 7, none⟩) lt).trans c7
  go_enter Tryz.func135, Tryz.ntmps135
  go_upto_region 0 with fail
  go_cut [] (fun wx => ∃ ao' cap', Lx wx b s a (pl s a) (pc s a) x4 x5 x6 (.slice ao' (n + 1) cap') ∧ TR (b + 1) wx ao' cap' (n + 1) (T ++ [⟨k, t, pl s a, pc s a⟩]) ∧ Below b w wx)
  case first =>
    refine wp_region_held_drew (S := (fun w' => w'.cell? ⟨b, 2, none⟩ = some (.int .i64 (pl s a)) ∧ w'.cell? ⟨b, 3, none⟩ = some (.int .i64 (pc s a)))) (by kernel_rfl) ⟨c2, c3⟩ (fun hHeld => ?_)
    refine' wpAnyH_take (i := 0) (oi := { dst := some 8, op := Op.move (Operand.tmp 0), type := 143, pos := "l2_lex.go:143", after := #[], guard := none }) (v := _) rfl (by kernel_rfl) (by kernel_rfl) (by kernel_rfl) (fun _ _ _ h => h) (Or.inl ⟨by rfl, ?y1⟩) (by assumption) ?r1
    case y1 => (intro w hSw; (try dsimp only at hSw); go_simp; (try with_reducible rfl))
    try simp only [Act.put, List.setIfInBounds_toArray, List.set_cons_succ]
    refine' wpAnyH_take (i := 1) (oi := { dst := some 9, op := Op.move (Operand.tmp 0), type := 143, pos := "l2_lex.go:143", after := #[], guard := none }) (v := _) rfl (by kernel_rfl) (by kernel_rfl) (by kernel_rfl) (fun _ _ _ h => h) (Or.inl ⟨by rfl, ?y2⟩) (by assumption) ?r2
    case y2 => (intro w hSw; (try dsimp only at hSw); go_simp; (try with_reducible rfl))
    try simp only [Act.put, List.setIfInBounds_toArray, List.set_cons_succ]
    refine' wpAnyH_take (i := 2) (oi := { dst := some 10, op := Op.nilCheck (Operand.tmp 9), type := 0, pos := "l2_lex.go:143", after := #[{ on := 1, ground := Ground.data }], guard := none }) (v := _) rfl (by kernel_rfl) (by kernel_rfl) (by kernel_rfl) (fun _ _ _ h => h) (Or.inl ⟨by rfl, ?y3⟩) (by assumption) ?r3
    case y3 => (intro w hSw; (try dsimp only at hSw); go_simp; (try with_reducible rfl))
    try simp only [Act.put, List.setIfInBounds_toArray, List.set_cons_succ]
    refine' wpAnyH_take (i := 3) (oi := { dst := some 11, op := Op.fieldAddr 145 (Operand.tmp 10) 4, type := 0, pos := "l2_lex.go:143", after := #[{ on := 2, ground := Ground.data }], guard := none }) (v := _) rfl (by kernel_rfl) (by kernel_rfl) (by kernel_rfl) (fun _ _ _ h => h) (Or.inl ⟨by rfl, ?y4⟩) (by assumption) ?r4
    case y4 => (intro w hSw; (try dsimp only at hSw); go_simp; (try with_reducible rfl))
    try simp only [Act.put, List.setIfInBounds_toArray, List.set_cons_succ]
    refine' wpAnyH_take (i := 4) (oi := { dst := some 12, op := Op.fieldAddr 111 (Operand.tmp 11) 3, type := 0, pos := "l2_lex.go:143", after := #[{ on := 3, ground := Ground.data }], guard := none }) (v := _) rfl (by kernel_rfl) (by kernel_rfl) (by kernel_rfl) (fun _ _ _ h => h) (Or.inl ⟨by rfl, ?y5⟩) (by assumption) ?r5
    case y5 => (intro w hSw; (try dsimp only at hSw); go_simp; (try with_reducible rfl))
    try simp only [Act.put, List.setIfInBounds_toArray, List.set_cons_succ]
    refine' wpAnyH_take (i := 6) (oi := { dst := some 14, op := Op.move (Operand.tmp 1), type := 2, pos := "l2_lex.go:143", after := #[], guard := none }) (v := _) rfl (by kernel_rfl) (by kernel_rfl) (by kernel_rfl) (fun _ _ _ h => h) (Or.inl ⟨by rfl, ?y6⟩) (by assumption) ?r6
    case y6 => (intro w hSw; (try dsimp only at hSw); go_simp; (try with_reducible rfl))
    try simp only [Act.put, List.setIfInBounds_toArray, List.set_cons_succ]
    refine' wpAnyH_take (i := 7) (oi := { dst := some 15, op := Op.move (Operand.tmp 2), type := 9, pos := "l2_lex.go:143", after := #[], guard := none }) (v := _) rfl (by kernel_rfl) (by kernel_rfl) (by kernel_rfl) (fun _ _ _ h => h) (Or.inl ⟨by rfl, ?y7⟩) (by assumption) ?r7
    case y7 => (intro w hSw; (try dsimp only at hSw); go_simp; (try with_reducible rfl))
    try simp only [Act.put, List.setIfInBounds_toArray, List.set_cons_succ]
    refine' wpAnyH_take (i := 8) (oi := { dst := some 16, op := Op.move (Operand.tmp 0), type := 143, pos := "l2_lex.go:143", after := #[], guard := none }) (v := _) rfl (by kernel_rfl) (by kernel_rfl) (by kernel_rfl) (fun _ _ _ h => h) (Or.inl ⟨by rfl, ?y8⟩) (by assumption) ?r8
    case y8 => (intro w hSw; (try dsimp only at hSw); go_simp; (try with_reducible rfl))
    try simp only [Act.put, List.setIfInBounds_toArray, List.set_cons_succ]
    refine' wpAnyH_take (i := 9) (oi := { dst := some 17, op := Op.nilCheck (Operand.tmp 16), type := 0, pos := "l2_lex.go:143", after := #[{ on := 8, ground := Ground.data }], guard := none }) (v := _) rfl (by kernel_rfl) (by kernel_rfl) (by kernel_rfl) (fun _ _ _ h => h) (Or.inl ⟨by rfl, ?y9⟩) (by assumption) ?r9
    case y9 => (intro w hSw; (try dsimp only at hSw); go_simp; (try with_reducible rfl))
    try simp only [Act.put, List.setIfInBounds_toArray, List.set_cons_succ]
    refine' wpAnyH_take (i := 10) (oi := { dst := some 18, op := Op.fieldAddr 145 (Operand.tmp 17) 2, type := 0, pos := "l2_lex.go:143", after := #[{ on := 9, ground := Ground.data }], guard := none }) (v := _) rfl (by kernel_rfl) (by kernel_rfl) (by kernel_rfl) (fun _ _ _ h => h) (Or.inl ⟨by rfl, ?y10⟩) (by assumption) ?r10
    case y10 => (intro w hSw; (try dsimp only at hSw); go_simp; (try with_reducible rfl))
    try simp only [Act.put, List.setIfInBounds_toArray, List.set_cons_succ]
    refine' wpAnyH_take (i := 11) (oi := { dst := some 19, op := Op.load 2 (Operand.tmp 18), type := 2, pos := "l2_lex.go:143", after := #[{ on := 10, ground := Ground.data }], guard := none }) (v := _) rfl (by kernel_rfl) (by kernel_rfl) (by kernel_rfl) (fun _ _ _ h => h) (Or.inl ⟨by rfl, ?y11⟩) (by assumption) ?r11
    case y11 => (intro w hSw; (try dsimp only at hSw); go_simp; (try with_reducible rfl))
    try simp only [Act.put, List.setIfInBounds_toArray, List.set_cons_succ]
    refine' wpAnyH_take (i := 12) (oi := { dst := some 20, op := Op.move (Operand.tmp 0), type := 143, pos := "l2_lex.go:143", after := #[], guard := none }) (v := _) rfl (by kernel_rfl) (by kernel_rfl) (by kernel_rfl) (fun _ _ _ h => h) (Or.inl ⟨by rfl, ?y12⟩) (by assumption) ?r12
    case y12 => (intro w hSw; (try dsimp only at hSw); go_simp; (try with_reducible rfl))
    try simp only [Act.put, List.setIfInBounds_toArray, List.set_cons_succ]
    refine' wpAnyH_take (i := 13) (oi := { dst := some 21, op := Op.nilCheck (Operand.tmp 20), type := 0, pos := "l2_lex.go:143", after := #[{ on := 12, ground := Ground.data }], guard := none }) (v := _) rfl (by kernel_rfl) (by kernel_rfl) (by kernel_rfl) (fun _ _ _ h => h) (Or.inl ⟨by rfl, ?y13⟩) (by assumption) ?r13
    case y13 => (intro w hSw; (try dsimp only at hSw); go_simp; (try with_reducible rfl))
    try simp only [Act.put, List.setIfInBounds_toArray, List.set_cons_succ]
    refine' wpAnyH_take (i := 14) (oi := { dst := some 22, op := Op.fieldAddr 145 (Operand.tmp 21) 3, type := 0, pos := "l2_lex.go:143", after := #[{ on := 13, ground := Ground.data }], guard := none }) (v := _) rfl (by kernel_rfl) (by kernel_rfl) (by kernel_rfl) (fun _ _ _ h => h) (Or.inl ⟨by rfl, ?y14⟩) (by assumption) ?r14
    case y14 => (intro w hSw; (try dsimp only at hSw); go_simp; (try with_reducible rfl))
    try simp only [Act.put, List.setIfInBounds_toArray, List.set_cons_succ]
    refine' wpAnyH_take (i := 15) (oi := { dst := some 23, op := Op.load 2 (Operand.tmp 22), type := 2, pos := "l2_lex.go:143", after := #[{ on := 14, ground := Ground.data }], guard := none }) (v := _) rfl (by kernel_rfl) (by kernel_rfl) (by kernel_rfl) (fun _ _ _ h => h) (Or.inl ⟨by rfl, ?y15⟩) (by assumption) ?r15
    case y15 => (intro w hSw; (try dsimp only at hSw); go_simp; (try with_reducible rfl))
    try simp only [Act.put, List.setIfInBounds_toArray, List.set_cons_succ]
    refine' wpAnyH_take (i := 16) (oi := { dst := some 24, op := Op.build 65 #[(0, Operand.tmp 14), (1, Operand.tmp 15), (2, Operand.tmp 19), (3, Operand.tmp 23)], type := 65, pos := "l2_lex.go:143", after := #[{ on := 6, ground := Ground.data }, { on := 7, ground := Ground.data }, { on := 11, ground := Ground.data }, { on := 15, ground := Ground.data }], guard := none }) (v := _) rfl (by kernel_rfl) (by kernel_rfl) (by kernel_rfl) (fun _ _ _ h => h) (Or.inl ⟨by rfl, ?y16⟩) (by assumption) ?r16
    case y16 => (intro w hSw; (try dsimp only at hSw); go_simp; (try with_reducible rfl))
    try simp only [Act.put, List.setIfInBounds_toArray, List.set_cons_succ]
    refine wpAnyH_ready (rs := [5, 17]) (by kernel_rfl) (by simp) ?_
    refine AllReadyH.cons (o := { dst := some 13, op := Op.load 109 (Operand.tmp 12), type := 109, pos := "l2_lex.go:143", after := #[{ on := 4, ground := Ground.data }], guard := none }) rfl (fun K hK => ?_) ?_
    · go_simp
      refine hK.out _ _ hHeld (fun hHeld1 => ?_)
      clear hK K
      try simp only [Act.put, List.setIfInBounds_toArray, List.set_cons_succ]
      refine wpAnyH_ready (rs := [17]) (by kernel_rfl) (by simp) ?_
      refine AllReadyH.cons (o := { dst := some 25, op := Op.buildSlice 109 1 #[(0, Operand.tmp 24)], type := 109, pos := "l2_lex.go:143", after := #[{ on := 16, ground := Ground.data }], guard := none }) rfl (fun K hK => ?_) AllReadyH.nil
      go_simp
      refine hK.out _ _ (hka _) (fun hHeld2 => ?_)
      clear hK K
      try simp only [Act.put, List.setIfInBounds_toArray, List.set_cons_succ]
      refine wpAnyH_ready (rs := [18]) (by kernel_rfl) (by simp) ?_
      refine AllReadyH.cons (o := { dst := some 26, op := Op.call { callee := Callee.builtin Builtin.append, args := #[Operand.tmp 13, Operand.tmp 25], argTypes := #[109, 109] }, type := 109, pos := "l2_lex.go:143", after := #[{ on := 5, ground := Ground.data }, { on := 17, ground := Ground.data }], guard := none }) rfl (fun K hK => ?_) AllReadyH.nil
      refine tok_draw rfl _ _ rfl (b + 1) _ ao cap n T ⟨k, t, pl s a, pc s a⟩ ⟨w.heap.size, 0, none⟩ rfl rfl (by simp; omega) ((hT.alloc _).drewN 1) (new_cells w _ _ 65 rfl) hl ?_
      intro ao6 cp6 W6 hT6 hg6
      have hb6 : W6.heap[b]? = w.heap[b]? := (hg6.block b (by simp; omega) (fun e => by have := (World.ownsRow.lt hT.2 b e.symm).1; omega)).trans (Below.heap_alloc w _ b lt)
      have h6 := h.kept hb6 (by have := hg6.size; simp at this; omega)
      have f7 := h6.fr 7
      have g7 := h6.c7
      refine hK.out _ _ ⟨h6.c2, h6.c3⟩ (fun hHeld3 => ?_)
      clear hK K
      try simp only [Act.put, List.setIfInBounds_toArray, List.set_cons_succ]
      refine' wpAnyH_take (i := 19) (oi := { dst := some 27, op := Op.nilCheck (Operand.tmp 8), type := 0, pos := "l2_lex.go:143", after := #[{ on := 0, ground := Ground.data }, { on := 0, ground := Ground.phase }, { on := 1, ground := Ground.phase }, { on := 2, ground := Ground.phase }, { on := 3, ground := Ground.phase }, { on := 4, ground := Ground.phase }, { on := 5, ground := Ground.phase }, { on := 6, ground := Ground.phase }, { on := 7, ground := Ground.phase }, { on := 8, ground := Ground.phase }, { on := 9, ground := Ground.phase }, { on := 10, ground := Ground.phase }, { on := 11, ground := Ground.phase }, { on := 12, ground := Ground.phase }, { on := 13, ground := Ground.phase }, { on := 14, ground := Ground.phase }, { on := 15, ground := Ground.phase }, { on := 16, ground := Ground.phase }, { on := 17, ground := Ground.phase }, { on := 18, ground := Ground.phase }], guard := none }) (v := _) rfl (by kernel_rfl) (by kernel_rfl) (by kernel_rfl) (fun _ _ _ h => h) (Or.inl ⟨by rfl, ?y17⟩) (by assumption) ?r17
      case y17 => (intro w hSw; (try dsimp only at hSw); go_simp; (try with_reducible rfl))
      try simp only [Act.put, List.setIfInBounds_toArray, List.set_cons_succ]
      refine' wpAnyH_take (i := 20) (oi := { dst := some 28, op := Op.fieldAddr 145 (Operand.tmp 27) 4, type := 0, pos := "l2_lex.go:143", after := #[{ on := 19, ground := Ground.data }, { on := 0, ground := Ground.phase }, { on := 1, ground := Ground.phase }, { on := 2, ground := Ground.phase }, { on := 3, ground := Ground.phase }, { on := 4, ground := Ground.phase }, { on := 5, ground := Ground.phase }, { on := 6, ground := Ground.phase }, { on := 7, ground := Ground.phase }, { on := 8, ground := Ground.phase }, { on := 9, ground := Ground.phase }, { on := 10, ground := Ground.phase }, { on := 11, ground := Ground.phase }, { on := 12, ground := Ground.phase }, { on := 13, ground := Ground.phase }, { on := 14, ground := Ground.phase }, { on := 15, ground := Ground.phase }, { on := 16, ground := Ground.phase }, { on := 17, ground := Ground.phase }, { on := 18, ground := Ground.phase }], guard := none }) (v := _) rfl (by kernel_rfl) (by kernel_rfl) (by kernel_rfl) (fun _ _ _ h => h) (Or.inl ⟨by rfl, ?y18⟩) (by assumption) ?r18
      case y18 => (intro w hSw; (try dsimp only at hSw); go_simp; (try with_reducible rfl))
      try simp only [Act.put, List.setIfInBounds_toArray, List.set_cons_succ]
      refine' wpAnyH_take (i := 21) (oi := { dst := some 29, op := Op.fieldAddr 111 (Operand.tmp 28) 3, type := 0, pos := "l2_lex.go:143", after := #[{ on := 20, ground := Ground.data }, { on := 0, ground := Ground.phase }, { on := 1, ground := Ground.phase }, { on := 2, ground := Ground.phase }, { on := 3, ground := Ground.phase }, { on := 4, ground := Ground.phase }, { on := 5, ground := Ground.phase }, { on := 6, ground := Ground.phase }, { on := 7, ground := Ground.phase }, { on := 8, ground := Ground.phase }, { on := 9, ground := Ground.phase }, { on := 10, ground := Ground.phase }, { on := 11, ground := Ground.phase }, { on := 12, ground := Ground.phase }, { on := 13, ground := Ground.phase }, { on := 14, ground := Ground.phase }, { on := 15, ground := Ground.phase }, { on := 16, ground := Ground.phase }, { on := 17, ground := Ground.phase }, { on := 18, ground := Ground.phase }], guard := none }) (v := _) rfl (by kernel_rfl) (by kernel_rfl) (by kernel_rfl) (fun _ _ _ h => h) (Or.inl ⟨by rfl, ?y19⟩) (by assumption) ?r19
      case y19 => (intro w hSw; (try dsimp only at hSw); go_simp; (try with_reducible rfl))
      try simp only [Act.put, List.setIfInBounds_toArray, List.set_cons_succ]
      refine wpAnyH_ready (rs := [22]) (by kernel_rfl) (by simp) ?_
      refine AllReadyH.cons (o := { dst := none, op := Op.store 109 (Operand.tmp 29) (Operand.tmp 26), type := 0, pos := "l2_lex.go:143", after := #[{ on := 21, ground := Ground.data }, { on := 18, ground := Ground.data }, { on := 18, ground := Ground.chain }, { on := 0, ground := Ground.phase }, { on := 1, ground := Ground.phase }, { on := 2, ground := Ground.phase }, { on := 3, ground := Ground.phase }, { on := 4, ground := Ground.phase }, { on := 5, ground := Ground.phase }, { on := 6, ground := Ground.phase }, { on := 7, ground := Ground.phase }, { on := 8, ground := Ground.phase }, { on := 9, ground := Ground.phase }, { on := 10, ground := Ground.phase }, { on := 11, ground := Ground.phase }, { on := 12, ground := Ground.phase }, { on := 13, ground := Ground.phase }, { on := 14, ground := Ground.phase }, { on := 15, ground := Ground.phase }, { on := 16, ground := Ground.phase }, { on := 17, ground := Ground.phase }, { on := 18, ground := Ground.phase }], guard := none }) rfl (fun K hK => ?_) AllReadyH.nil
      go_simp
      refine hK.out _ _ ⟨(h6.set7 _).c2, (h6.set7 _).c3⟩ (fun hHeld4 => ?_)
      clear hK K
      try simp only [Act.put]
      refine wpAnyH_done (by kernel_rfl) ?_ _
      go_wp2_with fail
      go_meet
      case rel =>
        refine ⟨ao6, cp6, h6.set7 _, ?_, ?_⟩
        · exact hT6.only (Only.setCell W6 ⟨b, 7, none⟩ _) (Nat.lt_succ_self b)
        · exact (((Below.refl b w).alloc (by omega) _).drew.grown hg6 (by simp; omega) (fun j hj => by have := (World.ownsRow.lt hT.2 j hj).1; omega)).setCell (p := ⟨b, 7, none⟩) (Nat.le_refl b) _
    · refine AllReadyH.cons (o := { dst := some 25, op := Op.buildSlice 109 1 #[(0, Operand.tmp 24)], type := 109, pos := "l2_lex.go:143", after := #[{ on := 16, ground := Ground.data }], guard := none }) rfl (fun K hK => ?_) AllReadyH.nil
      go_simp
      refine hK.out _ _ (hka _) (fun hHeld1 => ?_)
      clear hK K
      try simp only [Act.put, List.setIfInBounds_toArray, List.set_cons_succ]
      refine wpAnyH_ready (rs := [5]) (by kernel_rfl) (by simp) ?_
      refine AllReadyH.cons (o := { dst := some 13, op := Op.load 109 (Operand.tmp 12), type := 109, pos := "l2_lex.go:143", after := #[{ on := 4, ground := Ground.data }], guard := none }) rfl (fun K hK => ?_) AllReadyH.nil
      go_simp
      refine hK.out _ _ (hka _) (fun hHeld2 => ?_)
      clear hK K
      try simp only [Act.put, List.setIfInBounds_toArray, List.set_cons_succ]
      refine wpAnyH_ready (rs := [18]) (by kernel_rfl) (by simp) ?_
      refine AllReadyH.cons (o := { dst := some 26, op := Op.call { callee := Callee.builtin Builtin.append, args := #[Operand.tmp 13, Operand.tmp 25], argTypes := #[109, 109] }, type := 109, pos := "l2_lex.go:143", after := #[{ on := 5, ground := Ground.data }, { on := 17, ground := Ground.data }], guard := none }) rfl (fun K hK => ?_) AllReadyH.nil
      refine tok_draw rfl _ _ rfl (b + 1) _ ao cap n T ⟨k, t, pl s a, pc s a⟩ ⟨w.heap.size, 0, none⟩ rfl rfl (by simp; omega) ((hT.alloc _).drewN 1) (new_cells w _ _ 65 rfl) hl ?_
      intro ao6 cp6 W6 hT6 hg6
      have hb6 : W6.heap[b]? = w.heap[b]? := (hg6.block b (by simp; omega) (fun e => by have := (World.ownsRow.lt hT.2 b e.symm).1; omega)).trans (Below.heap_alloc w _ b lt)
      have h6 := h.kept hb6 (by have := hg6.size; simp at this; omega)
      have f7 := h6.fr 7
      have g7 := h6.c7
      refine hK.out _ _ ⟨h6.c2, h6.c3⟩ (fun hHeld3 => ?_)
      clear hK K
      try simp only [Act.put, List.setIfInBounds_toArray, List.set_cons_succ]
      refine' wpAnyH_take (i := 19) (oi := { dst := some 27, op := Op.nilCheck (Operand.tmp 8), type := 0, pos := "l2_lex.go:143", after := #[{ on := 0, ground := Ground.data }, { on := 0, ground := Ground.phase }, { on := 1, ground := Ground.phase }, { on := 2, ground := Ground.phase }, { on := 3, ground := Ground.phase }, { on := 4, ground := Ground.phase }, { on := 5, ground := Ground.phase }, { on := 6, ground := Ground.phase }, { on := 7, ground := Ground.phase }, { on := 8, ground := Ground.phase }, { on := 9, ground := Ground.phase }, { on := 10, ground := Ground.phase }, { on := 11, ground := Ground.phase }, { on := 12, ground := Ground.phase }, { on := 13, ground := Ground.phase }, { on := 14, ground := Ground.phase }, { on := 15, ground := Ground.phase }, { on := 16, ground := Ground.phase }, { on := 17, ground := Ground.phase }, { on := 18, ground := Ground.phase }], guard := none }) (v := _) rfl (by kernel_rfl) (by kernel_rfl) (by kernel_rfl) (fun _ _ _ h => h) (Or.inl ⟨by rfl, ?y20⟩) (by assumption) ?r20
      case y20 => (intro w hSw; (try dsimp only at hSw); go_simp; (try with_reducible rfl))
      try simp only [Act.put, List.setIfInBounds_toArray, List.set_cons_succ]
      refine' wpAnyH_take (i := 20) (oi := { dst := some 28, op := Op.fieldAddr 145 (Operand.tmp 27) 4, type := 0, pos := "l2_lex.go:143", after := #[{ on := 19, ground := Ground.data }, { on := 0, ground := Ground.phase }, { on := 1, ground := Ground.phase }, { on := 2, ground := Ground.phase }, { on := 3, ground := Ground.phase }, { on := 4, ground := Ground.phase }, { on := 5, ground := Ground.phase }, { on := 6, ground := Ground.phase }, { on := 7, ground := Ground.phase }, { on := 8, ground := Ground.phase }, { on := 9, ground := Ground.phase }, { on := 10, ground := Ground.phase }, { on := 11, ground := Ground.phase }, { on := 12, ground := Ground.phase }, { on := 13, ground := Ground.phase }, { on := 14, ground := Ground.phase }, { on := 15, ground := Ground.phase }, { on := 16, ground := Ground.phase }, { on := 17, ground := Ground.phase }, { on := 18, ground := Ground.phase }], guard := none }) (v := _) rfl (by kernel_rfl) (by kernel_rfl) (by kernel_rfl) (fun _ _ _ h => h) (Or.inl ⟨by rfl, ?y21⟩) (by assumption) ?r21
      case y21 => (intro w hSw; (try dsimp only at hSw); go_simp; (try with_reducible rfl))
      try simp only [Act.put, List.setIfInBounds_toArray, List.set_cons_succ]
      refine' wpAnyH_take (i := 21) (oi := { dst := some 29, op := Op.fieldAddr 111 (Operand.tmp 28) 3, type := 0, pos := "l2_lex.go:143", after := #[{ on := 20, ground := Ground.data }, { on := 0, ground := Ground.phase }, { on := 1, ground := Ground.phase }, { on := 2, ground := Ground.phase }, { on := 3, ground := Ground.phase }, { on := 4, ground := Ground.phase }, { on := 5, ground := Ground.phase }, { on := 6, ground := Ground.phase }, { on := 7, ground := Ground.phase }, { on := 8, ground := Ground.phase }, { on := 9, ground := Ground.phase }, { on := 10, ground := Ground.phase }, { on := 11, ground := Ground.phase }, { on := 12, ground := Ground.phase }, { on := 13, ground := Ground.phase }, { on := 14, ground := Ground.phase }, { on := 15, ground := Ground.phase }, { on := 16, ground := Ground.phase }, { on := 17, ground := Ground.phase }, { on := 18, ground := Ground.phase }], guard := none }) (v := _) rfl (by kernel_rfl) (by kernel_rfl) (by kernel_rfl) (fun _ _ _ h => h) (Or.inl ⟨by rfl, ?y22⟩) (by assumption) ?r22
      case y22 => (intro w hSw; (try dsimp only at hSw); go_simp; (try with_reducible rfl))
      try simp only [Act.put, List.setIfInBounds_toArray, List.set_cons_succ]
      refine wpAnyH_ready (rs := [22]) (by kernel_rfl) (by simp) ?_
      refine AllReadyH.cons (o := { dst := none, op := Op.store 109 (Operand.tmp 29) (Operand.tmp 26), type := 0, pos := "l2_lex.go:143", after := #[{ on := 21, ground := Ground.data }, { on := 18, ground := Ground.data }, { on := 18, ground := Ground.chain }, { on := 0, ground := Ground.phase }, { on := 1, ground := Ground.phase }, { on := 2, ground := Ground.phase }, { on := 3, ground := Ground.phase }, { on := 4, ground := Ground.phase }, { on := 5, ground := Ground.phase }, { on := 6, ground := Ground.phase }, { on := 7, ground := Ground.phase }, { on := 8, ground := Ground.phase }, { on := 9, ground := Ground.phase }, { on := 10, ground := Ground.phase }, { on := 11, ground := Ground.phase }, { on := 12, ground := Ground.phase }, { on := 13, ground := Ground.phase }, { on := 14, ground := Ground.phase }, { on := 15, ground := Ground.phase }, { on := 16, ground := Ground.phase }, { on := 17, ground := Ground.phase }, { on := 18, ground := Ground.phase }], guard := none }) rfl (fun K hK => ?_) AllReadyH.nil
      go_simp
      refine hK.out _ _ ⟨(h6.set7 _).c2, (h6.set7 _).c3⟩ (fun hHeld4 => ?_)
      clear hK K
      try simp only [Act.put]
      refine wpAnyH_done (by kernel_rfl) ?_ _
      go_wp2_with fail
      go_meet
      case rel =>
        refine ⟨ao6, cp6, h6.set7 _, ?_, ?_⟩
        · exact hT6.only (Only.setCell W6 ⟨b, 7, none⟩ _) (Nat.lt_succ_self b)
        · exact (((Below.refl b w).alloc (by omega) _).drew.grown hg6 (by simp; omega) (fun j hj => by have := (World.ownsRow.lt hT.2 j hj).1; omega)).setCell (p := ⟨b, 7, none⟩) (Nat.le_refl b) _
  case rest =>
    obtain ⟨ao', cap', h1, hT1, b1⟩ := hcut
    go_wp2_with fail
    refine (mSkip b s a m x4 x5 x6 _ _ h1 hs ha).mono ?_
    rintro e w1 ⟨rfl, h2, o2⟩
    go_wp2_with fail
    go_end0
    exact ⟨rfl, ⟨ao', cap', h2, hT1.only o2 (Nat.lt_succ_self b)⟩, b1.trans (o2.below (Nat.le_refl b))⟩

end Go.Proofs.YtjfoagmenehapaaGreatDoor

