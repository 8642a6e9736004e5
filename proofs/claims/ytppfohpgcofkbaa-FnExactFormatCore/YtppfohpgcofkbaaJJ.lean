import Derived.Test.YtppfohpgcofkbaaJP
import Derived.Maps.AppendAt
import Derived.Shelf.Strings.BuilderK
import Derived.Test.YtppfohpgcofkbaaJL
namespace Go.Proofs.Ytppfohpgcofkbaa
open Go.RowKit Go.Joins

theorem Try.size53 : (Try.prog.info? 53).map (·.size) = some 2 := by kernel_rfl
theorem Try.lies53 : liesAt Try.prog Try.prog.depth 53 (2 / Try.prog.cellsOf 53) 0 53 1 = true := by kernel_rfl

/-- What a write leaves: the builder with more in it; all else but rows of bytes as it was. -/
def Wrote53 (B b : Nat) (bs : List Value) (w w' : World) : Prop :=
  Lib.BuilderAtF 53 5 B b (.pointer (some ⟨b, 0, none⟩)) bs w' ∧ Below B w w' ∧ Lib.OthersKept 5 (some b) w w'

set_option maxHeartbeats 1000000 in
set_option maxRecDepth 100000 in
theorem copyCheck53 (B b : Nat) (bs : List Value) (w : World) (h : Lib.IsBuilderF 53 5 B b bs w) :
    Calls Try.prog 72 #[.pointer (some ⟨b, 0, none⟩)] w fun e w' => e = .returned (.tuple #[]) ∧ Wrote53 B b bs w w' := by
  obtain ⟨j, hj, hjs⟩ := Option.map_eq_some_iff.1 Try.size53
  rcases h with h | h
  · have c0 := h.cell0
    have f0 := h.frozen0
    have r1 := Lib.run_to_unsafe w ⟨b, 0, none⟩ Try.underlying51 Try.underlying134 hj (by rw [hjs]; decide) h.shape (Nat.zero_lt_succ 1)
    have r2 := Lib.run_from_unsafe w ⟨b, 0, none⟩ Try.underlying134 Try.underlying51 hj h.shape Try.lies53
    have r3 : (callFunc 73 #[.pointer (some ⟨b, 0, none⟩)]).run Try.prog w = .ok (.value (.pointer (some ⟨b, 0, none⟩))) w := by
      rw [run_callFunc_extern Try.func73 (by kernel_rfl) (by kernel_rfl) (by kernel_rfl) (e := Extern.AbiNoEscape.same) (by kernel_rfl)]
      rfl
    go_enter Try.func72, Try.ntmps72
    go_wp2_with fail
    go_end0
    exact ⟨rfl, h.used _, (Below.refl B w).setCell (p := ⟨b, 0, none⟩) h.1 _, (Lib.OthersKept.refl _ _ w).setCell ⟨b, 0, none⟩ rfl _⟩
  · have c0 := h.cell0
    have r1 := Lib.run_neq_ptr_same w ⟨b, 0, none⟩ Try.underlying51 hj
    go_enter Try.func72, Try.ntmps72
    go_wp2_with fail
    go_end0
    exact ⟨rfl, h, Below.refl B _, Lib.OthersKept.refl _ _ _⟩

set_option maxHeartbeats 1000000 in
set_option maxRecDepth 100000 in
theorem writeByte53 (B b : Nat) (bs : List Value) (c : Int) (w : World) (h : Lib.IsBuilderF 53 5 B b bs w) (hlen : bs.length + 1 ≤ 140737488355328) (hBw : B ≤ w.heap.size) :
    Calls Try.prog 89 #[.pointer (some ⟨b, 0, none⟩), .int .u8 c] w fun e w' => e = .returned .nilIface ∧ Wrote53 B b (bs ++ [.int .u8 c]) w w' := by
  obtain ⟨i0, hi, hz0, hz1, hz2⟩ := info_parts Try.info5
  go_enter Try.func89, Try.ntmps89
  go_wp2_with fail
  refine (copyCheck53 B b bs w h).mono ?_
  rintro e w1 ⟨rfl, h1, hb1, hk1⟩
  have hlt := h1.lt
  obtain ⟨hB, v, hbk, hown, hne⟩ := h1
  have z1 := hb1.size
  have c1 : w1.cell? ⟨b, 1, none⟩ = some v := by rw [Lib.cell_of_heap hbk]; rfl
  go_wp2_with (at_builtin; refine wpList_append_ownF _ rfl _ _ 45 rfl B 5 i0 (.int .u8 0) 1 1 Try.underlying45 hi hz0 hz1 hz2 rfl (by decide) _ _ _ rfl (hown.alloc _) ⟨w1.heap.size, 0, none⟩ 1 1 [.int .u8 c] rfl rfl (cell_one_new _ _ _) (by simp [Value.oneCell']) (by unfold maxLen; omega) (by omega) (by simp; omega) ?_)
  intro v' w2 hown' hgrow _
  have hb2 : w2.heap[b]? = some (.cells #[.pointer (some ⟨b, 0, none⟩), v] 53 (0, 0)) := by
    rw [hgrow.block b (by simp; omega) (fun e => hne e.symm)]
    exact (Below.heap_alloc w1 _ b hlt).trans hbk
  have d1 : w2.cell? ⟨b, 1, none⟩ = some v := by rw [Lib.cell_of_heap hb2]; rfl
  have f1 : w2.frozen? ⟨b, 1, none⟩ = false := Lib.frozen_of_heap hb2 1
  obtain ⟨g, cap, rfl⟩ : ∃ g cap, v' = .slice (some ⟨g, 0, none⟩) (bs.length + 1) cap := by
    rcases hown'.2 with ⟨_, h0⟩ | ⟨g, cap, cur, fz, hv, _⟩
    · omega
    · exact ⟨g, cap, hv⟩
  go_wp2_with fail
  go_ret
  refine ⟨rfl, ?_, ?_, ((hk1.alloc _).grown hgrow (Lib.ownsRowF_kind (hown.alloc _))).setCell ⟨b, 1, none⟩ rfl _⟩
  · exact Lib.BuilderAtF.put hB hb2 (bs' := bs ++ [.int .u8 c]) (by simpa using hown') (by decide)
  · exact ((hb1.alloc (by omega) _).grown hgrow (by simp; omega) (fun k hk => (hown.lt k hk).1)).setCell (p := ⟨b, 1, none⟩) hB _

set_option maxHeartbeats 1000000 in
set_option maxRecDepth 100000 in
theorem writeString53 (B b : Nat) (bs : List Value) (s : ByteArray) (w : World) (h : Lib.IsBuilderF 53 5 B b bs w) (hlen : bs.length + s.size ≤ 140737488355328) (hBw : B ≤ w.heap.size) :
    Calls Try.prog 71 #[.pointer (some ⟨b, 0, none⟩), .string s] w fun e w' => e = .returned (.tuple #[.int .i64 s.size, .nilIface]) ∧ Wrote53 B b (bs ++ Lib.strCells s) w w' := by
  obtain ⟨i0, hi, hz0, hz1, hz2⟩ := info_parts Try.info5
  go_enter Try.func71, Try.ntmps71
  go_wp2_with fail
  refine (copyCheck53 B b bs w h).mono ?_
  rintro e w1 ⟨rfl, h1, hb1, hk1⟩
  have hlt := h1.lt
  obtain ⟨hB, v, hbk, hown, hne⟩ := h1
  have z1 := hb1.size
  have c1 : w1.cell? ⟨b, 1, none⟩ = some v := by rw [Lib.cell_of_heap hbk]; rfl
  go_wp2_with (at_builtin; refine Lib.wpList_append_own_stringF _ rfl _ _ 45 9 rfl B 5 i0 Try.underlying45 Try.underlying9 hi hz0 hz1 hz2 _ _ _ rfl hown s rfl (by unfold maxLen; omega) (by omega) (by omega) ?_)
  intro v' w2 hown' hgrow _
  have hb2 : w2.heap[b]? = some (.cells #[.pointer (some ⟨b, 0, none⟩), v] 53 (0, 0)) := by
    rw [hgrow.block b hlt (fun e => hne e.symm)]
    exact hbk
  have d1 : w2.cell? ⟨b, 1, none⟩ = some v := by rw [Lib.cell_of_heap hb2]; rfl
  have f1 : w2.frozen? ⟨b, 1, none⟩ = false := Lib.frozen_of_heap hb2 1
  obtain ⟨ao, n', cap, rfl⟩ : ∃ ao n' cap, v' = .slice ao n' cap := by
    rcases hown'.2 with ⟨hv, _⟩ | ⟨g, cap, cur, fz, hv, _⟩
    · exact ⟨_, _, _, hv⟩
    · exact ⟨_, _, _, hv⟩
  go_wp2_with fail
  go_ret2
  refine ⟨rfl, ?_, ?_, (hk1.grown hgrow (Lib.ownsRowF_kind hown)).setCell ⟨b, 1, none⟩ rfl _⟩
  · exact Lib.BuilderAtF.put hB hb2 (bs' := bs ++ Lib.strCells s) (by simpa [Lib.strCells_length] using hown') (by decide)
  · exact (hb1.grown hgrow (by omega) (fun k hk => (hown.lt k hk).1)).setCell (p := ⟨b, 1, none⟩) hB _

theorem Wrote53.trans {B b : Nat} {bs cs : List Value} {w w1 w2 : World} (h : Wrote53 B b bs w w1) (k : Wrote53 B b cs w1 w2) : Wrote53 B b cs w w2 := ⟨k.1, h.2.1.trans k.2.1, h.2.2.trans k.2.2⟩
theorem Wrote53.is {B b : Nat} {bs : List Value} {w w1 : World} (h : Wrote53 B b bs w w1) : Lib.IsBuilderF 53 5 B b bs w1 := .inr h.1

theorem Try.size55 : (Try.prog.info? 55).map (·.size) = some 2 := by kernel_rfl
theorem Try.lies55 : liesAt Try.prog Try.prog.depth 55 (2 / Try.prog.cellsOf 55) 0 53 1 = true := by kernel_rfl

/-- What a write leaves: the builder with more in it; all else but rows of bytes as it was. -/
def Wrote55 (B b : Nat) (bs : List Value) (w w' : World) : Prop :=
  Lib.BuilderAtF 55 5 B b (.pointer (some ⟨b, 0, none⟩)) bs w' ∧ Below B w w' ∧ Lib.OthersKept 5 (some b) w w'

set_option maxHeartbeats 1000000 in
set_option maxRecDepth 100000 in
theorem copyCheck55 (B b : Nat) (bs : List Value) (w : World) (h : Lib.IsBuilderF 55 5 B b bs w) :
    Calls Try.prog 72 #[.pointer (some ⟨b, 0, none⟩)] w fun e w' => e = .returned (.tuple #[]) ∧ Wrote55 B b bs w w' := by
  obtain ⟨j, hj, hjs⟩ := Option.map_eq_some_iff.1 Try.size53
  rcases h with h | h
  · have c0 := h.cell0
    have f0 := h.frozen0
    have r1 := Lib.run_to_unsafe w ⟨b, 0, none⟩ Try.underlying51 Try.underlying134 hj (by rw [hjs]; decide) h.shape (Nat.zero_lt_succ 1)
    have r2 := Lib.run_from_unsafe w ⟨b, 0, none⟩ Try.underlying134 Try.underlying51 hj h.shape Try.lies55
    have r3 : (callFunc 73 #[.pointer (some ⟨b, 0, none⟩)]).run Try.prog w = .ok (.value (.pointer (some ⟨b, 0, none⟩))) w := by
      rw [run_callFunc_extern Try.func73 (by kernel_rfl) (by kernel_rfl) (by kernel_rfl) (e := Extern.AbiNoEscape.same) (by kernel_rfl)]
      rfl
    go_enter Try.func72, Try.ntmps72
    go_wp2_with fail
    go_end0
    exact ⟨rfl, h.used _, (Below.refl B w).setCell (p := ⟨b, 0, none⟩) h.1 _, (Lib.OthersKept.refl _ _ w).setCell ⟨b, 0, none⟩ rfl _⟩
  · have c0 := h.cell0
    have r1 := Lib.run_neq_ptr_same w ⟨b, 0, none⟩ Try.underlying51 hj
    go_enter Try.func72, Try.ntmps72
    go_wp2_with fail
    go_end0
    exact ⟨rfl, h, Below.refl B _, Lib.OthersKept.refl _ _ _⟩

set_option maxHeartbeats 1000000 in
set_option maxRecDepth 100000 in
theorem writeString55 (B b : Nat) (bs : List Value) (s : ByteArray) (w : World) (h : Lib.IsBuilderF 55 5 B b bs w) (hlen : bs.length + s.size ≤ 140737488355328) (hBw : B ≤ w.heap.size) :
    Calls Try.prog 71 #[.pointer (some ⟨b, 0, none⟩), .string s] w fun e w' => e = .returned (.tuple #[.int .i64 s.size, .nilIface]) ∧ Wrote55 B b (bs ++ Lib.strCells s) w w' := by
  obtain ⟨i0, hi, hz0, hz1, hz2⟩ := info_parts Try.info5
  go_enter Try.func71, Try.ntmps71
  go_wp2_with fail
  refine (copyCheck55 B b bs w h).mono ?_
  rintro e w1 ⟨rfl, h1, hb1, hk1⟩
  have hlt := h1.lt
  obtain ⟨hB, v, hbk, hown, hne⟩ := h1
  have z1 := hb1.size
  have c1 : w1.cell? ⟨b, 1, none⟩ = some v := by rw [Lib.cell_of_heap hbk]; rfl
  go_wp2_with (at_builtin; refine Lib.wpList_append_own_stringF _ rfl _ _ 45 9 rfl B 5 i0 Try.underlying45 Try.underlying9 hi hz0 hz1 hz2 _ _ _ rfl hown s rfl (by unfold maxLen; omega) (by omega) (by omega) ?_)
  intro v' w2 hown' hgrow _
  have hb2 : w2.heap[b]? = some (.cells #[.pointer (some ⟨b, 0, none⟩), v] 55 (0, 0)) := by
    rw [hgrow.block b hlt (fun e => hne e.symm)]
    exact hbk
  have d1 : w2.cell? ⟨b, 1, none⟩ = some v := by rw [Lib.cell_of_heap hb2]; rfl
  have f1 : w2.frozen? ⟨b, 1, none⟩ = false := Lib.frozen_of_heap hb2 1
  obtain ⟨ao, n', cap, rfl⟩ : ∃ ao n' cap, v' = .slice ao n' cap := by
    rcases hown'.2 with ⟨hv, _⟩ | ⟨g, cap, cur, fz, hv, _⟩
    · exact ⟨_, _, _, hv⟩
    · exact ⟨_, _, _, hv⟩
  go_wp2_with fail
  go_ret2
  refine ⟨rfl, ?_, ?_, (hk1.grown hgrow (Lib.ownsRowF_kind hown)).setCell ⟨b, 1, none⟩ rfl _⟩
  · exact Lib.BuilderAtF.put hB hb2 (bs' := bs ++ Lib.strCells s) (by simpa [Lib.strCells_length] using hown') (by decide)
  · exact (hb1.grown hgrow (by omega) (fun k hk => (hown.lt k hk).1)).setCell (p := ⟨b, 1, none⟩) hB _

theorem Wrote55.trans {B b : Nat} {bs cs : List Value} {w w1 w2 : World} (h : Wrote55 B b bs w w1) (k : Wrote55 B b cs w1 w2) : Wrote55 B b cs w w2 := ⟨k.1, h.2.1.trans k.2.1, h.2.2.trans k.2.2⟩
theorem Wrote55.is {B b : Nat} {bs : List Value} {w w1 : World} (h : Wrote55 B b bs w w1) : Lib.IsBuilderF 55 5 B b bs w1 := .inr h.1

end Go.Proofs.Ytppfohpgcofkbaa

namespace Go.Proofs.Ytppfohpgcofkbaa
open Go.RowKit Go.Joins

theorem mixedTry : Try.prog.follows Departure.mixedOrders = true := by kernel_rfl
theorem cells5 : Try.prog.cellsOf 5 = 1 := by kernel_rfl

set_option maxHeartbeats 2000000 in
set_option maxRecDepth 100000 in
/-- Builder.String of a block of either kind: what its row holds. -/
theorem str_at (T : TypeId) (B b : Nat) (p v : Value) (l : List UInt8) (w : World) (hbk : w.heap[b]? = some (.cells #[p, v] T (0, 0))) (hown : w.ownsRowF B 5 1 v l.length (Lib.byteCells l)) (hBw : B ≤ w.heap.size) :
    Calls Try.prog 21 #[.pointer (some ⟨b, 0, none⟩)] w fun e w' => e = .returned (.string ⟨l.toArray⟩) ∧ Below B w w' := by
  have mixed := mixedTry
  have hbd : w.drew.heap[b]? = some (.cells #[p, v] T (0, 0)) := hbk
  have c1 : w.drew.cell? ⟨b, 1, none⟩ = some v := by rw [Lib.cell_of_heap hbd]; rfl
  by_cases h0 : l = []
  · subst h0
    simp only [List.length_nil] at hown
    have hUS : ∀ (W : World) (q : Option Addr), (Builtin.unsafeString_ #[86, 3] 9 #[.pointer q, .int .i64 0]).run Try.prog W = .ok (.string .empty) W := fun W q => Lib.run_unsafeString_none W _ _ _ q
    rcases hown.2 with ⟨rfl, _⟩ | ⟨g, cap, cur, fz, rfl, hbg, hg, _, _, _, _, _⟩
    · have hSD : (Builtin.unsafeSliceData_ #[45] 86 #[.slice none 0 0]).run Try.prog w.drew = .ok (.pointer none) w.drew := rfl
      go_enter Try.func21, Try.ntmps21
      go_wp2_with fail
      go_region_o
      all_goals (go_wp2_with fail; go_ret; exact ⟨rfl, Below.drew (Below.refl B w)⟩)
    · by_cases hc0 : cap = 0
      · subst hc0
        have hlt : b < w.heap.size := by
          rcases Nat.lt_or_ge b w.heap.size with h' | h'
          · exact h'
          · simp [Array.getElem?_eq_none h'] at hbk
        have hgd : w.drew.heap[g]? = some (.cells cur 5 fz) := hg
        have hSD : (Builtin.unsafeSliceData_ #[45] 86 #[.slice (some ⟨g, 0, none⟩) 0 0]).run Try.prog w.drew = .ok (.pointer (some ⟨w.drew.heap.size, 0, none⟩)) (w.drew.alloc (.view ⟨g, 0, none⟩ 5)) :=
          Lib.run_unsafeSliceData_zero w.drew _ _ 5 Try.underlying86 ⟨g, 0, none⟩ 0 (5, cur.size) (by simp [World.shape?, hgd])
        have c2 : (w.drew.alloc (.view ⟨g, 0, none⟩ 5)).cell? ⟨b, 1, none⟩ = some (.slice (some ⟨g, 0, none⟩) 0 0) := by
          have : (w.drew.alloc (.view ⟨g, 0, none⟩ 5)).heap[b]? = _ := (Lib.alloc_old w.drew _ b hlt).trans hbk
          rw [Lib.cell_of_heap this]; rfl
        have c3 : (w.alloc (.view ⟨g, 0, none⟩ 5)).drew.cell? ⟨b, 1, none⟩ = some (.slice (some ⟨g, 0, none⟩) 0 0) := c2
        have c0 : w.cell? ⟨b, 1, none⟩ = some (.slice (some ⟨g, 0, none⟩) 0 0) := c1
        go_enter Try.func21, Try.ntmps21
        go_wp2_with fail
        go_region_o
        all_goals (go_wp2_with fail; go_ret; exact ⟨rfl, (Below.drew (Below.refl B w)).alloc hBw _⟩)
      · have hSD : (Builtin.unsafeSliceData_ #[45] 86 #[.slice (some ⟨g, 0, none⟩) 0 cap]).run Try.prog w.drew = .ok (.pointer (some ⟨g, 0, none⟩)) w.drew := Lib.run_unsafeSliceData_row _ _ _ _ _ _ hc0
        clear hc0
        go_enter Try.func21, Try.ntmps21
        go_wp2_with fail
        go_region_o
        all_goals (go_wp2_with fail; go_ret; exact ⟨rfl, Below.drew (Below.refl B w)⟩)
  · have hl0 : l.length ≠ 0 := by simpa using h0
    rcases hown.2 with ⟨_, hz⟩ | ⟨g, cap, cur, fz, rfl, hbg, hg, hfz, hnc, hcm, hcs, htake⟩
    · exact absurd hz hl0
    · have hgd : w.drew.heap[g]? = some (.cells cur 5 fz) := hg
      have hSD : (Builtin.unsafeSliceData_ #[45] 86 #[.slice (some ⟨g, 0, none⟩) l.length cap]).run Try.prog w.drew = .ok (.pointer (some ⟨g, 0, none⟩)) w.drew := Lib.run_unsafeSliceData_row _ _ _ _ _ _ (by omega)
      have hUS : (Builtin.unsafeString_ #[86, 3] 9 #[.pointer (some ⟨g, 0, none⟩), .int .i64 l.length]).run Try.prog w.drew = .ok (.string ⟨l.toArray⟩) (w.drew.freeze ⟨g, 0, none⟩ l.length) :=
        Lib.run_unsafeString_row w.drew 86 3 9 5 Try.underlying86 cells5 g cur.size (by simp [World.shape?, hgd]) l h0 (by omega) (by unfold maxLen at hcm; omega) fun j x hx => hown.cells (g := g) rfl j (.int .u8 x.toNat) (by simp [Lib.byteCells, hx])
      clear hown htake hcs hcm hnc hfz
      go_enter Try.func21, Try.ntmps21
      go_wp2_with fail
      go_region_o
      all_goals (go_wp2_with fail; go_ret; exact ⟨rfl, Lib.below_freeze (Below.drew (Below.refl B w)) (p := ⟨g, 0, none⟩) hbg _⟩)

theorem str_of (T : TypeId) (B b : Nat) (l : List UInt8) (w : World) (h : Lib.IsBuilderF T 5 B b (Lib.byteCells l) w) (hBw : B ≤ w.heap.size) :
    Calls Try.prog 21 #[.pointer (some ⟨b, 0, none⟩)] w fun e w' => e = .returned (.string ⟨l.toArray⟩) ∧ Below B w w' := by
  rcases h with ⟨hB, v, hbk, hown, hne⟩ | ⟨hB, v, hbk, hown, hne⟩
  · exact str_at T B b _ v l w hbk (by rwa [Lib.byteCells_length] at hown) hBw
  · exact str_at T B b _ v l w hbk (by rwa [Lib.byteCells_length] at hown) hBw

end Go.Proofs.Ytppfohpgcofkbaa

namespace Go.Proofs.Ytppfohpgcofkbaa
open Go.RowKit Go.Joins

theorem put_byte (B b : Nat) (l : List UInt8) (c : UInt8) (w : World) (h : Lib.IsBuilderF 53 5 B b (Lib.byteCells l) w) (hl : l.length + 1 ≤ 70368744177664) (hBw : B ≤ w.heap.size) :
    Calls Try.prog 89 #[.pointer (some ⟨b, 0, none⟩), .int .u8 (c.toNat : Int)] w fun e w' => e = .returned .nilIface ∧ Lib.IsBuilderF 53 5 B b (Lib.byteCells (l ++ [c])) w' ∧ Below B w w' ∧ Lib.OthersKept 5 (some b) w w' := by
  refine (writeByte53 B b _ (c.toNat : Int) w h (by rw [Lib.byteCells_length]; omega) hBw).mono ?_
  rintro e w' ⟨rfl, hw⟩
  refine ⟨rfl, ?_, hw.2⟩
  rw [Lib.byteCells_append]
  exact .inr hw.1

set_option maxHeartbeats 1000000 in
set_option maxRecDepth 100000 in
theorem writeRune_low (B b : Nat) (bs : List Value) (c : Nat) (hc : c < 128) (w : World) (h : Lib.IsBuilderF 53 5 B b bs w) (hlen : bs.length + 1 ≤ 4194304) (hBw : B ≤ w.heap.size) :
    Calls Try.prog 88 #[.pointer (some ⟨b, 0, none⟩), .int .i32 c] w fun e w' => e = .returned (.tuple #[.int .i64 1, .nilIface]) ∧ Wrote53 B b (bs ++ [.int .u8 c]) w w' := by
  obtain ⟨i0, hi, hz0, hz1, hz2⟩ := info_parts Try.info5
  have hc1 : (c : Int) ≤ 127 := by omega
  go_enter Try.func88, Try.ntmps88
  go_wp2_with fail
  refine (copyCheck53 B b bs w h).mono ?_
  rintro e w1 ⟨rfl, h1, hb1, hk1⟩
  have hlt := h1.lt
  obtain ⟨hB, v, hbk, hown, hne⟩ := h1
  have z1 := hb1.size
  have c1 : w1.cell? ⟨b, 1, none⟩ = some v := by rw [Lib.cell_of_heap hbk]; rfl
  have hAp : Calls Try.prog 90 #[v, .int .i32 c] w1 fun e w2 => ∃ v' wa, wa = w1.alloc (.cells #[.int .u8 c] 5) ∧ e = .returned v' ∧ w2.ownsRowF B 5 1 v' (bs.length + 1) (bs ++ [.int .u8 c]) ∧ wa.grownBy w2 v.ownBlock := by
    go_enter Try.func90, Try.ntmps90
    go_wp2_with (at_builtin; refine wpList_append_ownF _ rfl _ _ 45 rfl B 5 i0 (.int .u8 0) 1 1 Try.underlying45 hi hz0 hz1 hz2 rfl (by decide) _ _ _ rfl (hown.alloc _) ⟨w1.heap.size, 0, none⟩ 1 1 [.int .u8 c] rfl rfl (cell_one_new _ _ _) (by simp [Value.oneCell']) (by unfold maxLen; omega) (by omega) (by simp; omega) ?_)
    intro v' w2 hown' hgrow _
    go_wp2_with fail
    go_ret
    exact ⟨v', _, rfl, rfl, by simpa using hown', hgrow⟩
  have HAp := hide hAp
  clear hAp
  obtain ⟨av, cv, rfl⟩ : ∃ av cv, v = .slice av bs.length cv := by
    rcases hown.2 with ⟨rfl, h0⟩ | ⟨g, cap, cur, fz, hv, _⟩
    · exact ⟨none, 0, by rw [h0]⟩
    · exact ⟨_, cap, hv⟩
  have hl63 : (bs.length : Int) ≤ 4194304 := by omega
  go_wp2_with fail
  refine HAp.out.mono ?_
  rintro e w2 ⟨v', wa, rfl, rfl, hown', hgrow⟩
  have hb2 : w2.heap[b]? = some (.cells #[.pointer (some ⟨b, 0, none⟩), .slice av bs.length cv] 53 (0, 0)) := by
    rw [hgrow.block b (by simp; omega) (fun e => hne e.symm)]
    exact (Below.heap_alloc w1 _ b hlt).trans hbk
  have d1 : w2.cell? ⟨b, 1, none⟩ = some (.slice av bs.length cv) := by rw [Lib.cell_of_heap hb2]; rfl
  have f1 : w2.frozen? ⟨b, 1, none⟩ = false := Lib.frozen_of_heap hb2 1
  obtain ⟨g, cap, rfl⟩ : ∃ g cap, v' = .slice (some ⟨g, 0, none⟩) (bs.length + 1) cap := by
    rcases hown'.2 with ⟨_, h0⟩ | ⟨g, cap, cur, fz, hv, _⟩
    · omega
    · exact ⟨g, cap, hv⟩
  have hfin : Wrote53 B b (bs ++ [.int .u8 c]) w (w2.setCell ⟨b, 1, none⟩ (.slice (some ⟨g, 0, none⟩) (bs.length + 1) cap)) := by
    refine ⟨?_, ?_, ((hk1.alloc _).grown hgrow (Lib.ownsRowF_kind (hown.alloc _))).setCell ⟨b, 1, none⟩ rfl _⟩
    · exact Lib.BuilderAtF.put hB hb2 (bs' := bs ++ [.int .u8 c]) (by simpa using hown') (by decide)
    · exact ((hb1.alloc (by omega) _).grown hgrow (by simp; omega) (fun k hk => (hown.lt k hk).1)).setCell (p := ⟨b, 1, none⟩) hB _
  have HF := hide hfin
  clear hfin hown hown' hgrow
  generalize bs.length = L at *
  go_wp2_with fail
  go_ret2
  exact ⟨by congr 3; go_num, HF.out⟩

theorem put_rune (B b : Nat) (l : List UInt8) (c : UInt8) (hc : c.toNat < 128) (w : World) (h : Lib.IsBuilderF 53 5 B b (Lib.byteCells l) w) (hl : l.length + 1 ≤ 1048576 * 4) (hBw : B ≤ w.heap.size) :
    Calls Try.prog 88 #[.pointer (some ⟨b, 0, none⟩), .int .i32 (c.toNat : Int)] w fun e w' => (∃ x y, e = .returned (.tuple #[x, y])) ∧ Lib.IsBuilderF 53 5 B b (Lib.byteCells (l ++ [c])) w' ∧ Below B w w' := by
  refine (writeRune_low B b _ c.toNat hc w h (by rw [Lib.byteCells_length]; omega) hBw).mono ?_
  rintro e w' ⟨rfl, hw⟩
  refine ⟨⟨_, _, rfl⟩, ?_, hw.2.1⟩
  rw [Lib.byteCells_append]
  exact .inr hw.1

theorem put_two (B b : Nat) (l : List UInt8) (w : World) (h : Lib.IsBuilderF 53 5 B b (Lib.byteCells l) w) (hl : l.length + 2 ≤ 70368744177664) (hBw : B ≤ w.heap.size) :
    Calls Try.prog 71 #[.pointer (some ⟨b, 0, none⟩), .string ⟨#[92, 110]⟩] w fun e w' => (∃ x y, e = .returned (.tuple #[x, y])) ∧ Lib.IsBuilderF 53 5 B b (Lib.byteCells (l ++ [92, 110])) w' ∧ Below B w w' := by
  refine (writeString53 B b _ ⟨#[92, 110]⟩ w h (by rw [Lib.byteCells_length]; show l.length + 2 ≤ _; omega) hBw).mono ?_
  rintro e w' ⟨he, hw⟩
  refine ⟨⟨_, _, he⟩, ?_, hw.2.1⟩
  rw [Lib.byteCells_append]
  exact .inr hw.1

set_option maxHeartbeats 2000000 in
set_option maxRecDepth 100000 in
theorem iQuote (s : ByteArray) (m : UInt8) (hm : m.toNat < 128) (w : World) (hs : s.size ≤ 1048576) : Calls Try.prog 86 #[.string s, .int .i32 m.toNat] w fun e w' => e = .returned (.string ⟨(escT m s).toArray⟩) ∧ Below w.heap.size w w' := by
  have hm' : (m.toNat : Int) < 128 := by omega
  have H0 := hide (put_rune w.heap.size w.heap.size [] m hm (w.alloc (.cells #[.pointer none, .slice none 0 0] 53)) (Lib.IsBuilderF.of (Lib.fresh_isBuilder 53 5 w)) (by simp) (by simp))
  go_enter Try.func86, Try.ntmps86
  go_wp2_with fail
  refine H0.out.mono ?_
  rintro e w0 ⟨⟨x0, y0, rfl⟩, hI0, b0⟩
  have hb0 : Below w.heap.size w w0 := (below_alloc1 w _).trans b0
  clear H0 b0
  go_wp2_with fail
  go_loopw [6, 7, 12, 21, 24] (fun _ _ i _ _ wr => ∃ (j : Nat) (acc : List UInt8), i = .int .i64 j ∧ j ≤ s.size ∧ acc.length ≤ 2 * j + 1 ∧ Hid (acc ++ (s.data.toList.drop j).flatMap (escB m) ++ [m] = escT m s) ∧ Hid (Lib.IsBuilderF 53 5 w.heap.size w.heap.size (Lib.byteCells acc) wr) ∧ Below w.heap.size w wr) (fun _ _ i _ _ _ => s.size - (intOf i).toNat)
  case atStart => exact ⟨0, [m], rfl, Nat.zero_le _, by simp, by unfold Hid escT; simp, hI0, hb0⟩
  case round =>
    obtain ⟨j, acc, rfl, hj, hal, hq, HIw, hb⟩ := hrel
    have hzw := hb.size
    by_cases hlt : j < s.size
    · have hlt' : (j : Int) < s.size := by omega
      have hQ := hq.out
      rw [drop_at hlt, List.flatMap_cons, ← List.append_assoc] at hQ
      by_cases e1 : s[j].toNat = 10
      · have hE : escB m s[j] = [92, 110] := by unfold escB; rw [if_pos e1]
        rw [hE] at hQ
        have HQ := hide hQ
        have HP := hide (put_two w.heap.size w.heap.size acc wr HIw.out (by omega) hzw)
        clear hQ hE
        go_wp2_with fail
        refine HP.out.mono ?_
        rintro e w2 ⟨⟨x2, y2, rfl⟩, hI2, b2⟩
        have HI2 := hide hI2
        clear hI2
        go_wp2_with fail
        go_roundw
        case rel => exact ⟨j + 1, acc ++ [92, 110], by go_num, by omega, by simp; omega, HQ, HI2, hb.trans b2⟩
        case measure => simp [intOf]; omega
      · have z1 : ((s[j].toNat : Int) == 10) = false := by simp; omega
        by_cases e2 : s[j].toNat = 92 ∨ s[j] = m
        · have hE : escB m s[j] = [92] ++ [s[j]] := by unfold escB; rw [if_neg e1, if_pos e2]; rfl
          rw [hE, ← List.append_assoc] at hQ
          have HQ := hide hQ
          have HP := hide (put_byte w.heap.size w.heap.size acc 92 wr HIw.out (by omega) hzw)
          have HP2 : Hid (∀ w2, Lib.IsBuilderF 53 5 w.heap.size w.heap.size (Lib.byteCells (acc ++ [92])) w2 → w.heap.size ≤ w2.heap.size → _) := fun w2 h2 z2 => put_byte w.heap.size w.heap.size (acc ++ [92]) s[j] w2 h2 (by simp; omega) z2
          have HAL : Hid ((acc ++ [92] ++ [s[j]]).length ≤ 2 * (j + 1) + 1) := by unfold Hid; simp; omega
          clear hQ hE
          by_cases e3 : s[j].toNat = 92
          · have z2 : ((s[j].toNat : Int) == 92) = true := by rw [e3]; rfl
            clear e1 e2 e3
            go_wp2_with fail
            refine HP.out.mono ?_
            rintro e w2 ⟨rfl, hI2, b2, -⟩
            have hz2 := (hb.trans b2).size
            have HI2 := hide hI2
            clear hI2
            go_wp2_with fail
            refine (HP2.out w2 HI2.out hz2).mono ?_
            rintro e w3 ⟨rfl, hI3, b3, -⟩
            have HI3 := hide hI3
            clear hI3
            go_wp2_with fail
            go_roundw
            case rel => exact ⟨j + 1, acc ++ [92] ++ [s[j]], by go_num, by omega, HAL.out, HQ, HI3, (hb.trans b2).trans b3⟩
            case measure => simp [intOf]; omega
          · have z2 : ((s[j].toNat : Int) == 92) = false := by simp; omega
            have e4 : s[j] = m := by rcases e2 with h | h; exact absurd h e3; exact h
            have z3 : ((s[j].toNat : Int) == (m.toNat : Int)) = true := by rw [e4]; simp
            clear e1 e2 e3 e4
            go_wp2_with fail
            refine HP.out.mono ?_
            rintro e w2 ⟨rfl, hI2, b2, -⟩
            have hz2 := (hb.trans b2).size
            have HI2 := hide hI2
            clear hI2
            go_wp2_with fail
            refine (HP2.out w2 HI2.out hz2).mono ?_
            rintro e w3 ⟨rfl, hI3, b3, -⟩
            have HI3 := hide hI3
            clear hI3
            go_wp2_with fail
            go_roundw
            case rel => exact ⟨j + 1, acc ++ [92] ++ [s[j]], by go_num, by omega, HAL.out, HQ, HI3, (hb.trans b2).trans b3⟩
            case measure => simp [intOf]; omega
        · have hE : escB m s[j] = [s[j]] := by unfold escB; rw [if_neg e1, if_neg e2]
          rw [hE] at hQ
          have HQ := hide hQ
          have z2 : ((s[j].toNat : Int) == 92) = false := by simp; omega
          have z3 : ((s[j].toNat : Int) == (m.toNat : Int)) = false := by
            simp
            intro h
            exact e2 (.inr (UInt8.toNat_inj.1 (by omega)))
          have HP := hide (put_byte w.heap.size w.heap.size acc s[j] wr HIw.out (by omega) hzw)
          clear hQ hE e1 e2
          go_wp2_with fail
          refine HP.out.mono ?_
          rintro e w2 ⟨rfl, hI2, b2, -⟩
          have HI2 := hide hI2
          clear hI2
          go_wp2_with fail
          go_roundw
          case rel => exact ⟨j + 1, acc ++ [s[j]], by go_num, by omega, by simp; omega, HQ, HI2, hb.trans b2⟩
          case measure => simp [intOf]; omega
    · have hlt' : ¬ (j : Int) < s.size := by omega
      have hE : acc ++ [m] = escT m s := by
        have := hq.out
        rwa [List.drop_eq_nil_of_le (by simp; show s.size ≤ j; omega), List.flatMap_nil, List.append_nil] at this
      have HE := hide hE
      clear hE
      have HP := hide (put_rune w.heap.size w.heap.size acc m hm wr HIw.out (by omega) hzw)
      go_wp2_with fail
      refine HP.out.mono ?_
      rintro e w2 ⟨⟨x2, y2, rfl⟩, hI2, b2⟩
      have hz2 := (hb.trans b2).size
      have HS := hide (str_of 53 w.heap.size w.heap.size (acc ++ [m]) w2 hI2 hz2)
      clear hI2
      go_wp2_with fail
      refine HS.out.mono ?_
      rintro e w3 ⟨rfl, b3⟩
      go_wp2_with fail
      go_ret
      exact ⟨by rw [← HE.out]; rfl, (hb.trans b2).trans b3⟩

end Go.Proofs.Ytppfohpgcofkbaa
