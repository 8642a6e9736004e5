import Derived.Test.YtojobdjmdncgdaaDoorA
import Derived.ProofKit
namespace Go.Proofs.YtojobdjmdncgdaaDoor
open Go.RowKit Go.Joins

def Tab (w : World) : Prop := Lib.TabIs Tryd.prog w "strings.asciiSpace" .u8 Lib.asciiSpaceTab
def TabB (B : Nat) (w : World) : Prop := ∀ w', Below B w w' → Tab w'

theorem heap_new (W : World) (o : Obj) : (W.alloc o).heap[W.heap.size]? = some o := (MapKept.heap_alloc W o).1

def bl : List ByteArray := [⟨#[112, 114, 105, 109, 65, 100, 100]⟩, ⟨#[112, 114, 105, 109, 83, 117, 98]⟩, ⟨#[112, 114, 105, 109, 77, 117, 108]⟩, ⟨#[112, 114, 105, 109, 68, 105, 118]⟩, ⟨#[112, 114, 105, 109, 77, 111, 100]⟩, ⟨#[112, 114, 105, 109, 69, 113]⟩, ⟨#[112, 114, 105, 109, 76, 101, 115, 115]⟩, ⟨#[112, 114, 105, 109, 79, 114, 100]⟩, ⟨#[112, 114, 105, 109, 67, 104, 114]⟩, ⟨#[112, 114, 105, 109, 83, 104, 111, 119]⟩, ⟨#[112, 114, 105, 109, 65, 112, 112, 101, 110, 100]⟩, ⟨#[112, 114, 105, 109, 83, 101, 113]⟩, ⟨#[112, 114, 105, 109, 69, 114, 114, 111, 114]⟩, ⟨#[110, 101, 103, 97, 116, 101]⟩]
def bn (i : Nat) : ByteArray := bl.getD i ⟨#[]⟩
def bCells : Array Value := #[.string ⟨#[112, 114, 105, 109, 65, 100, 100]⟩, .string ⟨#[112, 114, 105, 109, 83, 117, 98]⟩, .string ⟨#[112, 114, 105, 109, 77, 117, 108]⟩, .string ⟨#[112, 114, 105, 109, 68, 105, 118]⟩, .string ⟨#[112, 114, 105, 109, 77, 111, 100]⟩, .string ⟨#[112, 114, 105, 109, 69, 113]⟩, .string ⟨#[112, 114, 105, 109, 76, 101, 115, 115]⟩, .string ⟨#[112, 114, 105, 109, 79, 114, 100]⟩, .string ⟨#[112, 114, 105, 109, 67, 104, 114]⟩, .string ⟨#[112, 114, 105, 109, 83, 104, 111, 119]⟩, .string ⟨#[112, 114, 105, 109, 65, 112, 112, 101, 110, 100]⟩, .string ⟨#[112, 114, 105, 109, 83, 101, 113]⟩, .string ⟨#[112, 114, 105, 109, 69, 114, 114, 111, 114]⟩, .string ⟨#[110, 101, 103, 97, 116, 101]⟩]

theorem f_names : Lib.fields [112, 114, 105, 109, 65, 100, 100, 32, 112, 114, 105, 109, 83, 117, 98, 32, 112, 114, 105, 109, 77, 117, 108, 32, 112, 114, 105, 109, 68, 105, 118, 32, 112, 114, 105, 109, 77, 111, 100, 32, 112, 114, 105, 109, 69, 113, 32, 112, 114, 105, 109, 76, 101, 115, 115, 32, 112, 114, 105, 109, 79, 114, 100, 32, 112, 114, 105, 109, 67, 104, 114, 32, 112, 114, 105, 109, 83, 104, 111, 119, 32, 112, 114, 105, 109, 65, 112, 112, 101, 110, 100, 32, 112, 114, 105, 109, 83, 101, 113, 32, 112, 114, 105, 109, 69, 114, 114, 111, 114, 32, 110, 101, 103, 97, 116, 101] = bl.map (fun b => b.data.toList) := by decide
theorem cells_names : ((bl.map (fun b => b.data.toList)).map fun l => Value.string ⟨l.toArray⟩).toArray = bCells := by rfl

theorem SR.new (w : World) : SR (w.alloc (.cells bCells 9)) w.heap.size 14 bn := fun i hi => by
  rw [Lib.cell_of_heap (heap_new w _)]
  have key : ∀ i : Fin 14, bCells[i.val]? = some (.string (bn i.val)) := by
    intro i
    match i with
    | ⟨0, _⟩ => rfl
    | ⟨1, _⟩ => rfl
    | ⟨2, _⟩ => rfl
    | ⟨3, _⟩ => rfl
    | ⟨4, _⟩ => rfl
    | ⟨5, _⟩ => rfl
    | ⟨6, _⟩ => rfl
    | ⟨7, _⟩ => rfl
    | ⟨8, _⟩ => rfl
    | ⟨9, _⟩ => rfl
    | ⟨10, _⟩ => rfl
    | ⟨11, _⟩ => rfl
    | ⟨12, _⟩ => rfl
    | ⟨13, _⟩ => rfl
  exact key ⟨i, hi⟩

theorem fr_new (w : World) (o : Nat) : (w.alloc (.cells bCells 9)).frozen? ⟨w.heap.size, o, none⟩ = false := by
  have h := heap_new w (.cells bCells 9)
  unfold World.frozen?
  rw [h]
  simp

theorem iNames (w : World) (ht : Tab w) : Calls Tryd.prog 5 #[] w fun e w' => e = .returned (.slice (some ⟨w.heap.size, 0, none⟩) 14 14) ∧ w' = w.alloc (.cells bCells 9) := by
  have HF : Hid (Calls Tryd.prog 9 #[.string ⟨#[112, 114, 105, 109, 65, 100, 100, 32, 112, 114, 105, 109, 83, 117, 98, 32, 112, 114, 105, 109, 77, 117, 108, 32, 112, 114, 105, 109, 68, 105, 118, 32, 112, 114, 105, 109, 77, 111, 100, 32, 112, 114, 105, 109, 69, 113, 32, 112, 114, 105, 109, 76, 101, 115, 115, 32, 112, 114, 105, 109, 79, 114, 100, 32, 112, 114, 105, 109, 67, 104, 114, 32, 112, 114, 105, 109, 83, 104, 111, 119, 32, 112, 114, 105, 109, 65, 112, 112, 101, 110, 100, 32, 112, 114, 105, 109, 83, 101, 113, 32, 112, 114, 105, 109, 69, 114, 114, 111, 114, 32, 110, 101, 103, 97, 116, 101]⟩] w fun e w' => e = .returned (.slice (some ⟨w.heap.size, 0, none⟩) 14 14) ∧ w' = w.alloc (.cells bCells 9)) := by
    refine (Tryd.strings_Fields _ w (by decide) ?_ ht).mono ?_
    · intro j b hj
      have hall : ∀ b ∈ ([112, 114, 105, 109, 65, 100, 100, 32, 112, 114, 105, 109, 83, 117, 98, 32, 112, 114, 105, 109, 77, 117, 108, 32, 112, 114, 105, 109, 68, 105, 118, 32, 112, 114, 105, 109, 77, 111, 100, 32, 112, 114, 105, 109, 69, 113, 32, 112, 114, 105, 109, 76, 101, 115, 115, 32, 112, 114, 105, 109, 79, 114, 100, 32, 112, 114, 105, 109, 67, 104, 114, 32, 112, 114, 105, 109, 83, 104, 111, 119, 32, 112, 114, 105, 109, 65, 112, 112, 101, 110, 100, 32, 112, 114, 105, 109, 83, 101, 113, 32, 112, 114, 105, 109, 69, 114, 114, 111, 114, 32, 110, 101, 103, 97, 116, 101] : List UInt8), b.toNat < 128 := by decide
      exact hall b (List.mem_of_getElem? hj)
    · rintro e w' ⟨rfl, rfl⟩
      simp only [f_names, cells_names]
      exact ⟨rfl, trivial⟩
  go_enter Tryd.func5, Tryd.ntmps5
  go_wp2_with fail
  refine HF.out.mono ?_
  rintro e w1 ⟨rfl, rfl⟩
  go_wp2_with fail
  go_ret
  exact ⟨rfl, rfl⟩

theorem sNames (w : World) : Calls Tryd.prog 4 #[] w fun e w' => e = .returned (.slice (some ⟨w.heap.size, 0, none⟩) 14 14) ∧ w' = w.alloc (.cells bCells 9) := by
  go_enter Tryd.func4, Tryd.ntmps4
  go_wp2_with fail
  go_ret
  exact ⟨rfl, rfl⟩

set_option maxHeartbeats 1000000 in
set_option maxRecDepth 100000 in
theorem lawNames (W : World) (ht : TabB W.heap.size W) : Calls Tryd.prog 3 #[] W fun e W' => e = .returned (.bool true) ∧ Below W.heap.size W W' := by
  have HT := hide ht
  clear ht
  have HN := hide SR.new
  have HZ := hide fr_new
  obtain ⟨M, hM⟩ : ∃ M : Nat, M = 1 + 14 := ⟨_, rfl⟩
  have HM := hide hM
  have hM0 : ¬ (M : Int) < 0 := by omega
  clear hM
  go_enter Tryd.func3, Tryd.ntmps3
  go_wp2_with fail
  refine (sNames W).mono ?_
  rintro e w1 ⟨rfl, e1⟩
  have b1 : Below W.heap.size W w1 := by rw [e1]; exact below_alloc1 W _
  have z1 : w1.heap.size = W.heap.size + 1 := by rw [e1]; simp
  have r1 : Hid (SR w1 W.heap.size 14 bn) := by rw [e1]; exact HN.out W
  clear e1
  go_wp2_with fail
  refine (iNames w1 (HT.out w1 b1)).mono ?_
  rintro e w2 ⟨rfl, e2⟩
  have b2 : Below w1.heap.size w1 w2 := by rw [e2]; exact below_alloc1 w1 _
  have z2 : w2.heap.size = w1.heap.size + 1 := by rw [e2]; simp
  have r2 : Hid (SR w2 (W.heap.size + 1) 14 bn) := by rw [e2, ← z1]; exact HN.out w1
  have f2 : Hid (∀ o, w2.frozen? ⟨W.heap.size + 1, o, none⟩ = false) := by rw [e2, ← z1]; exact HZ.out w1
  clear e2
  replace r1 : Hid (SR w2 W.heap.size 14 bn) := r1.out.below b2 (by omega)
  have B2 := b1.trans (b2.mono (by omega))
  go_wp2_with fail
  refine (eq_strs (W.heap.size + 1) W.heap.size 14 14 14 bn w2 (by omega) r2.out r1.out).mono ?_
  rintro e w3 ⟨rfl, b3⟩
  have z3 := b3.size
  replace r1 : Hid (SR w3 W.heap.size 14 bn) := r1.out.below b3 (by omega)
  replace r2 : Hid (SR w3 (W.heap.size + 1) 14 bn) := r2.out.below b3 (by omega)
  have l3 : W.heap.size + 1 < w2.heap.size := by omega
  have f3 : Hid (∀ o, w3.frozen? ⟨W.heap.size + 1, o, none⟩ = false) := fun o => (b3.frozen (p := ⟨W.heap.size + 1, o, none⟩) l3).trans (f2.out o)
  have B3 := B2.trans (b3.mono (by omega))
  clear f2 b2 b3 b1
  go_wp2_with fail
  refine (mark_strs M (W.heap.size + 1) 14 14 HM.out bn w3 (by omega) (by omega) r2.out f3.out).mono ?_
  rintro e w4 ⟨rfl, r4, g4⟩
  have z4 := g4.size
  replace r1 : Hid (SR w4 W.heap.size 14 bn) := fun i hi => (World.cell?_of_block (w := w3) (g4.block W.heap.size (by omega) (by simp))).trans (r1.out i hi)
  have R4 := hide r4
  have B4 := B3.grown g4 (by omega) (fun k hk => by cases hk; omega)
  clear f3 g4 r2 r4
  go_wp2_with fail
  refine (held_strs M (W.heap.size + 1) 14 14 HM.out w4 (by omega) (by omega) R4.out).mono ?_
  rintro e w5 ⟨rfl, b5⟩
  have z5 := b5.size
  replace r1 : Hid (SR w5 W.heap.size 14 bn) := r1.out.below b5 (by omega)
  have R5 : Hid (SR w5 (W.heap.size + 1) 14 mk) := R4.out.below b5 (by omega)
  have B5 := B4.trans (b5.mono (by omega))
  clear R4 b5
  go_wp2_with fail
  refine (iNames w5 (HT.out w5 B5)).mono ?_
  rintro e w6 ⟨rfl, e6⟩
  have b6 : Below w5.heap.size w5 w6 := by rw [e6]; exact below_alloc1 w5 _
  have z6 : w6.heap.size = w5.heap.size + 1 := by rw [e6]; simp
  have r6 : Hid (SR w6 w5.heap.size 14 bn) := by rw [e6]; exact HN.out w5
  clear e6
  replace r1 : Hid (SR w6 W.heap.size 14 bn) := r1.out.below b6 (by omega)
  replace R5 : Hid (SR w6 (W.heap.size + 1) 14 mk) := R5.out.below b6 (by omega)
  have B6 := B5.trans (b6.mono (by omega))
  clear b6
  go_wp2_with fail
  refine (eq_strs w5.heap.size W.heap.size 14 14 14 bn w6 (by omega) r6.out r1.out).mono ?_
  rintro e w7 ⟨rfl, b7⟩
  have z7 := b7.size
  replace R5 : Hid (SR w7 (W.heap.size + 1) 14 mk) := R5.out.below b7 (by omega)
  have B7 := B6.trans (b7.mono (by omega))
  clear b7
  go_wp2_with fail
  refine (held_strs M (W.heap.size + 1) 14 14 HM.out w7 (by omega) (by omega) R5.out).mono ?_
  rintro e w8 ⟨rfl, b8⟩
  have B8 := B7.trans (b8.mono (by omega))
  go_wp2_with fail
  go_ret
  exact ⟨rfl, B8⟩

end Go.Proofs.YtojobdjmdncgdaaDoor
