import Derived.Test.YtpcnmolncoaddaaBigs
import Derived.Laws.CopyOwn
import Derived.Laws.Tables
import Derived.Laws.Rows
namespace Go.Proofs.Ytpcnmolncoaddaa
open Go.RowKit Go.Joins

theorem Try.size63 : (Try.prog.info? 63).map (·.size) = some 81 := by kernel_rfl
theorem Try.size60 : (Try.prog.info? 60).map (·.size) = some 1 := by kernel_rfl

/-- The 81 cells of a magnitude: 80 limbs, the count. -/
structure MagC (cs : Array Value) (n : Nat) (f : Nat → Nat) : Prop where
  size : cs.size = 81
  limb : ∀ i, i < 80 → cs[i]? = some (.int .u32 (f i))
  count : cs[80]? = some (.int .i64 n)

theorem MagC.one {cs n f} (h : MagC cs n f) : cs.all (·.oneCell') = true := by
  rw [Array.all_eq_true]
  intro i hi
  have hs := h.size
  by_cases e : i < 80
  · have := h.limb i e
    rw [Array.getElem?_eq_getElem hi] at this
    rw [Option.some.inj this]; rfl
  · have e' : i = 80 := by omega
    subst e'
    have := h.count
    rw [Array.getElem?_eq_getElem hi] at this
    rw [Option.some.inj this]; rfl

/-- A block that holds a magnitude. -/
def MagAt (w : World) (b n : Nat) (f : Nat → Nat) : Prop := ∃ cs, w.heap[b]? = some (.cells cs 63 (0, 0)) ∧ MagC cs n f

def zero63 : Array Value := (Array.replicate 80 (.int .u32 0)).push (.int .i64 0)
theorem zero63_mag : MagC zero63 0 (fun _ => 0) := by
  refine ⟨by decide, fun i hi => ?_, rfl⟩
  unfold zero63
  rw [Array.getElem?_push, if_neg (by simp; omega), Array.getElem?_replicate, if_pos hi]
  rfl

theorem run_zero63 (w : World) : (zeroValue 63).run Try.prog w = .ok (.agg zero63) w := by kernel_rfl

/-- Nothing but block g has turned. -/
structure Only (g : Nat) (w w' : World) : Prop where
  os : w'.os = w.os
  tape : w'.tape = w.tape
  output : w'.output = w.output
  size : w'.heap.size = w.heap.size
  block : ∀ k, k ≠ g → w'.heap[k]? = w.heap[k]?

theorem Only.below {g B w w'} (h : Only g w w') (hB : B ≤ g) : Below B w w' := ⟨h.os, h.tape, h.output, by have := h.size; omega, fun k hk => h.block k (by omega)⟩
theorem Only.refl (g w) : Only g w w := ⟨rfl, rfl, rfl, rfl, fun _ _ => rfl⟩
theorem Only.trans {g a b c} (h : Only g a b) (k : Only g b c) : Only g a c := ⟨k.os.trans h.os, k.tape.trans h.tape, k.output.trans h.output, k.size.trans h.size, fun i hi => (k.block i hi).trans (h.block i hi)⟩
theorem Only.setRow (g w) (cs : Array Value) : Only g w (w.setRow g cs) := ⟨rfl, rfl, rfl, by simp [World.setRow], fun k hk => setRow_other w g k cs (by omega)⟩
theorem Only.setCell (w : World) (p : Addr) (u : Value) : Only p.block w (w.setCell p u) := ⟨rfl, rfl, rfl, by simp [World.setCell], fun k hk => Below.heap_setCell _ _ _ _ hk⟩
theorem Only.drewN {g w w'} (h : Only g w w') (q : Nat) : Only g w (w'.drewN q) := ⟨h.os, h.tape, h.output, h.size, h.block⟩
theorem Only.cell {g w w'} (h : Only g w w') (b o : Nat) (hb : b ≠ g) : w'.cell? ⟨b, o, none⟩ = w.cell? ⟨b, o, none⟩ := by simp only [World.cell?]; rw [h.block b hb]
theorem Only.frozen {g w w'} (h : Only g w w') (b o : Nat) (hb : b ≠ g) : w'.frozen? ⟨b, o, none⟩ = w.frozen? ⟨b, o, none⟩ := by simp only [World.frozen?]; rw [h.block b hb]

theorem MagAt.only {g w w' b n f} (h : MagAt w b n f) (ho : Only g w w') (hb : b ≠ g) : MagAt w' b n f := by
  obtain ⟨cs, h1, h2⟩ := h
  exact ⟨cs, (ho.block b hb).trans h1, h2⟩
theorem MagAt.below {B w w' b n f} (h : MagAt w b n f) (ho : Below B w w') (hb : b < B) : MagAt w' b n f := by
  obtain ⟨cs, h1, h2⟩ := h
  exact ⟨cs, (ho.block b hb).trans h1, h2⟩
theorem MagAt.limb {w b n f} (h : MagAt w b n f) (i : Nat) (hi : i < 80) : w.cell? ⟨b, i, none⟩ = some (.int .u32 (f i)) := by
  obtain ⟨cs, h1, h2⟩ := h
  rw [cell_of_block h1]; exact h2.limb i hi
theorem MagAt.count {w b n f} (h : MagAt w b n f) : w.cell? ⟨b, 80, none⟩ = some (.int .i64 n) := by
  obtain ⟨cs, h1, h2⟩ := h
  rw [cell_of_block h1]; exact h2.count
theorem MagAt.frozen {w b n f} (h : MagAt w b n f) (i : Nat) : w.frozen? ⟨b, i, none⟩ = false := by
  obtain ⟨cs, h1, h2⟩ := h
  exact unfrozen_of_block h1 _
theorem MagAt.lt {w b n f} (h : MagAt w b n f) : b < w.heap.size := block_lt_of_cell h.count
theorem MagAt.setCount {w b n f} (h : MagAt w b n f) (k : Nat) : MagAt (w.setCell ⟨b, 80, none⟩ (.int .i64 k)) b k f := by
  obtain ⟨cs, h1, h2⟩ := h
  refine ⟨_, block_setCell h1 _, by simp [h2.size], fun i hi => ?_, ?_⟩
  · rw [Array.getElem?_setIfInBounds_ne (by omega)]; exact h2.limb i hi
  · simp [h2.size]
def upd (f : Nat → Nat) (i x : Nat) : Nat → Nat := fun j => if j = i then x else f j
theorem MagAt.setLimb {w b n f} (h : MagAt w b n f) (i x : Nat) (hi : i < 80) : MagAt (w.setCell ⟨b, i, none⟩ (.int .u32 x)) b n (upd f i x) := by
  obtain ⟨cs, h1, h2⟩ := h
  refine ⟨_, block_setCell h1 _, by simp [h2.size], fun j hj => ?_, ?_⟩
  · by_cases e : j = i
    · subst e; rw [Array.getElem?_setIfInBounds_self_of_lt (by rw [h2.size]; omega)]; simp [upd]
    · rw [Array.getElem?_setIfInBounds_ne (by omega)]; simp only [upd, if_neg e]; exact h2.limb j hj
  · rw [Array.getElem?_setIfInBounds_ne (by omega)]; exact h2.count

theorem wpList_alloc63 {ops : Array Oper} {rest : List Oper} {o : Oper} {a : Act} {w : World} {Q : Exit → Act → World → Prop} (d : Nat) (hd : o.dst = some d) (hg : o.guard = none) (ho : o.op = .alloc 63)
    (h : ∀ w', w'.heap.size = w.heap.size + 1 → MagAt w' w.heap.size 0 (fun _ => 0) → Below w.heap.size w w' → wpList Try.prog ops Q rest (a.put (some d) (.pointer (some ⟨w.heap.size, 0, none⟩))) w') : wpList Try.prog ops Q (o :: rest) a w := by
  subst_vars
  refine wpList_plain hg fun K hK => ?_
  unfold Oper.wp
  simp only [execOp, ho, Instr.alloc, Sem.run_bind, run_zero63, Result.andThen]
  refine hK _ _ ?_
  rw [hd]
  exact h (w.alloc (.cells zero63 63)) (by simp) ⟨zero63, heap_alloc_new _ _, zero63_mag⟩ (below_alloc1 _ _)

/-- copy(m.limbs[:], limbs) -/
theorem wpList_copyIn {ops : Array Oper} {rest : List Oper} {o : Oper} {a : Act} {w : World} {Q : Exit → Act → World → Prop} (d s : Operand) (g n k : Nat) (sv : Value) (f f0 : Nat → Nat)
    (hL : Lim w sv n f) (hn : n ≤ 80) (hm : MagAt w g k f0) (hgd : o.guard = none) (ho : o.op = .call { callee := .builtin .copy, args := #[d, s], argTypes := #[23, 23] })
    (hd : a.eval d = .slice (some ⟨g, 0, none⟩) 80 80) (hs : a.eval s = sv)
    (h : ∀ w', MagAt w' g k (fun i => if i < n then f i else f0 i) → Only g w w' → wpList Try.prog ops Q rest (a.put o.dst (.int .i64 n)) w') : wpList Try.prog ops Q (o :: rest) a w := by
  obtain ⟨sp, sc, rfl, h1, h2, h3, h4⟩ := hL
  obtain ⟨cur, hc1, hc2⟩ := hm
  rcases Nat.eq_zero_or_pos n with rfl | hp
  · refine wpList_copy_nothing hgd d s 23 23 ho 60 Try.underlying23 Try.size60 _ _ _ _ _ _ hd hs (by simp) ?_
    exact h w ⟨cur, hc1, by simpa using hc2⟩ (Only.refl _ _)
  · obtain ⟨b, off, rfl, h5⟩ := h4 hp
    have hlen : ((List.range n).map fun i => Value.int .u32 (f i)).length = n := by simp
    refine wpList_copy_own hgd d s 23 23 ho 60 Try.underlying23 Try.size60 g 0 80 80 ⟨b, off, none⟩ n sc hd hs cur 63 hc1 ((List.range n).map fun i => Value.int .u32 (f i)) (by rw [hlen]; exact (Nat.min_eq_left hn).symm) ?_ (by rw [hlen, hc2.size]; omega) ?_ ?_
    · intro j v hj
      have hjn : j < n := by have := (List.getElem?_eq_some_iff.1 hj).1; simpa using this
      have hv : v = Value.int .u32 (f j) := by simpa [hjn] using hj.symm
      rw [hv, ← h5 j hjn]
      congr 1
      unfold Addr.add; split <;> simp_all
    · intro v hv
      simp only [List.mem_map] at hv
      obtain ⟨i, _, rfl⟩ := hv
      rfl
    · rw [hlen]
      refine h _ ⟨_, setRow_heap w g _ _ _ _ hc1, ?_, fun i hi => ?_, ?_⟩ (Only.setRow _ _ _)
      · simp [hc2.size]; omega
      · simp only [List.take_zero, List.nil_append, List.getElem?_toArray, Nat.zero_add]
        by_cases e : i < n
        · rw [List.getElem?_append_left (by rw [hlen]; exact e)]; simp [e]
        · rw [List.getElem?_append_right (by rw [hlen]; omega), hlen, List.getElem?_drop, show n + (i - n) = i by omega]
          simp only [if_neg e, Array.getElem?_toList]; exact hc2.limb i hi
      · simp only [List.take_zero, List.nil_append, List.getElem?_toArray, Nat.zero_add]
        rw [List.getElem?_append_right (by rw [hlen]; omega), hlen, List.getElem?_drop, show n + (80 - n) = 80 by omega]
        simp only [Array.getElem?_toList]; exact hc2.count

/-- A magnitude by value out of its block. -/
theorem wpList_load63 {ops : Array Oper} {rest : List Oper} {o : Oper} {a : Act} {w : World} {Q : Exit → Act → World → Prop} (x : Operand) (g n : Nat) (f : Nat → Nat)
    (hm : MagAt w g n f) (hgd : o.guard = none) (ho : o.op = .load 63 x) (hx : a.eval x = .pointer (some ⟨g, 0, none⟩))
    (h : ∀ cs, MagC cs n f → wpList Try.prog ops Q rest (a.put o.dst (.agg cs)) w) : wpList Try.prog ops Q (o :: rest) a w := by
  obtain ⟨cs, h1, h2⟩ := hm
  exact wpList_load_row hgd 63 x ho g hx 63 cs (0, 0) _ h1 Try.underlying63 rfl (by rw [h2.size]; exact Try.size63) (h cs h2)

/-- .. and into one. -/
theorem wpList_store63 {ops : Array Oper} {rest : List Oper} {o : Oper} {a : Act} {w : World} {Q : Exit → Act → World → Prop} (x y : Operand) (g n k : Nat) (f f0 : Nat → Nat) (cs : Array Value)
    (hc : MagC cs n f) (hm : MagAt w g k f0) (hgd : o.guard = none) (ho : o.op = .store 63 x y) (hx : a.eval x = .pointer (some ⟨g, 0, none⟩)) (hy : a.eval y = .agg cs)
    (h : ∀ w', MagAt w' g n f → Only g w w' → wpList Try.prog ops Q rest (a.put o.dst undef) w') : wpList Try.prog ops Q (o :: rest) a w := by
  obtain ⟨old, h1, h2⟩ := hm
  refine wpList_store_row hgd 63 x y ho g cs hx hy 63 old h1 (by rw [hc.size]; exact Try.size63) (by rw [h2.size, hc.size]) hc.one ?_
  exact h _ ⟨cs, setRow_heap w g _ _ _ _ h1, hc⟩ (Only.setRow _ _ _)

theorem results63 {fn : Func} {p : Tmp} (h : fn.results = #[.cell p 63]) (tmps : Array Value) (w : World) (g n : Nat) (f : Nat → Nat) (cs : Array Value)
    (hp : tmps.getD p undef = .pointer (some ⟨g, 0, none⟩)) (h1 : w.heap[g]? = some (.cells cs 63 (0, 0))) (h2 : MagC cs n f) : (results fn tmps).run Try.prog w = .ok (.agg cs) w :=
  results_cell_row h tmps w g 63 cs (0, 0) _ hp h1 Try.underlying63 rfl (by rw [h2.size]; exact Try.size63)

end Go.Proofs.Ytpcnmolncoaddaa
