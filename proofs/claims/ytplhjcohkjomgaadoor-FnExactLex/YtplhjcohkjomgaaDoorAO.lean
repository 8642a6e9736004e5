import Derived.Test.YtplhjcohkjomgaaDoorAM
import Derived.Test.YtplhjcohkjomgaaDoorAN
import Derived.Deep.RegionHeld3
namespace Go.Proofs.YtplhjcohkjomgaaDoor
open Go.RowKit Go.Joins

theorem cs {w : World} {g o o' : Nat} {u v : Value} (h : w.cell? ⟨g, o', none⟩ = some u) : (w.setCell ⟨g, o, none⟩ v).cell? ⟨g, o', none⟩ = some (if o' = o then v else u) := by
  by_cases e : o' = o
  · subst e; rw [if_pos rfl]; exact World.cell?_setCell_same _ _ _ h
  · rw [if_neg e]; exact (World.cell?_setCell_other _ _ _ _ (fun hh => e (congrArg Addr.off hh).symm)).trans h

theorem Row.set {w W2 : World} {g n : Nat} {f : Nat → Tq} (h : Row w g n f) (j : Nat) (k l c : Int) (t : ByteArray) (hg : g < w.heap.size) (b2 : Below w.heap.size (w.setCell ⟨g, j * 4, none⟩ (.int .i64 k)) W2) :
    Row (((W2.setCell ⟨g, j * 4 + 1, none⟩ (.string t)).setCell ⟨g, j * 4 + 2, none⟩ (.int .i64 l)).setCell ⟨g, j * 4 + 3, none⟩ (.int .i64 c)) g n (fun i => if i = j then ⟨k, t, l, c⟩ else f i) := fun i hi => by
  obtain ⟨h0, h1, h2, h3⟩ := h i hi
  have go : ∀ o' u, w.cell? ⟨g, o', none⟩ = some u → (((W2.setCell ⟨g, j * 4 + 1, none⟩ (.string t)).setCell ⟨g, j * 4 + 2, none⟩ (.int .i64 l)).setCell ⟨g, j * 4 + 3, none⟩ (.int .i64 c)).cell? ⟨g, o', none⟩ = some (if o' = j * 4 + 3 then .int .i64 c else if o' = j * 4 + 2 then .int .i64 l else if o' = j * 4 + 1 then .string t else if o' = j * 4 then .int .i64 k else u) := fun o' u hu => by
    have a0 := cs (o := j * 4) (v := .int .i64 k) hu
    have a1 := (b2.cell (p := ⟨g, o', none⟩) hg).trans a0
    exact cs (cs (cs a1))
  show _ = some (Value.int .i64 (if i = j then (⟨k, t, l, c⟩ : Tq) else f i).k) ∧ _ = some (Value.string (if i = j then (⟨k, t, l, c⟩ : Tq) else f i).t) ∧ _ = some (Value.int .i64 (if i = j then (⟨k, t, l, c⟩ : Tq) else f i).l) ∧ _ = some (Value.int .i64 (if i = j then (⟨k, t, l, c⟩ : Tq) else f i).c)
  rw [go _ _ h0, go _ _ h1, go _ _ h2, go _ _ h3]
  by_cases e : i = j
  · subst e
    refine ⟨?_, ?_, ?_, ?_⟩
    · rw [if_neg (by omega), if_neg (by omega), if_neg (by omega), if_pos rfl, if_pos rfl]
    · rw [if_neg (by omega), if_neg (by omega), if_pos rfl, if_pos rfl]
    · rw [if_neg (by omega), if_pos rfl, if_pos rfl]
    · rw [if_pos rfl, if_pos rfl]
  · refine ⟨?_, ?_, ?_, ?_⟩ <;> rw [if_neg (by omega), if_neg (by omega), if_neg (by omega), if_neg (by omega), if_neg e]

theorem Row.congr {w : World} {g n : Nat} {f f' : Nat → Tq} (h : Row w g n f) (he : ∀ i, i < n → f i = f' i) : Row w g n f' := fun i hi => by rw [← he i hi]; exact h i hi

theorem grows_of {w w' : World} (h : Below w.heap.size w w') (row : Option Nat) : w.grownBy w' row := ⟨h.os, h.tape, h.output, h.size, fun k hk _ => h.block k hk⟩

/-- The marks from 1 on. -/
def mk (i : Nat) : Tq := ⟨((1 + i * 4 : Nat) : Int), mt (1 + i * 4 + 1), ((1 + i * 4 + 2 : Nat) : Int), ((1 + i * 4 + 3 : Nat) : Int)⟩

set_option maxHeartbeats 1000000 in
set_option maxRecDepth 100000 in
theorem markToks (g n cp : Nat) (f : Nat → Tq) (w : World) (hn : n ≤ 1048576) (hg : g < w.heap.size) (hR : Row w g n f) (hF : ∀ o, w.frozen? ⟨g, o, none⟩ = false) :
    Calls Tryd.prog 27 #[.slice (some ⟨g, 0, none⟩) n cp, .int .i64 1] w fun e w' => e = .returned (.int .i64 ((1 + n * 4 : Nat) : Int)) ∧ Row w' g n mk ∧ w.grownBy w' (some g) := by
  have HR := hide hR
  clear hR
  go_enter Tryd.func27, Tryd.ntmps27
  go_wp2_with fail
  go_loopw [1, 5] (fun k i wr => ∃ (j K : Nat), j ≤ n ∧ Hid (K = 1 + j * 4) ∧ i = .int .i64 j ∧ k = .int .i64 K ∧ Hid (Row wr g n (fun i => if i < j then mk i else f i)) ∧ Hid (∀ o, wr.frozen? ⟨g, o, none⟩ = false) ∧ w.grownBy wr (some g)) (fun _ i _ => n - (intOf i).toNat)
  case atStart => exact ⟨0, 1, Nat.zero_le _, rfl, rfl, rfl, (by unfold Hid; simpa using HR.out), hF, (Only.refl g w).grown⟩
  case round =>
    obtain ⟨j, K, hj, hK, rfl, rfl, HRj, HF, hG⟩ := hrel
    have hKb : K ≤ 4194305 := by have := hK.out; omega
    by_cases hlt : j < n
    · have hlt' : (j : Int) < n := by omega
      have hgr : g < wr.heap.size := Nat.lt_of_lt_of_le hg hG.size
      have hx := HRj.out j hlt
      simp only [Nat.lt_irrefl, if_false] at hx
      generalize f j = fj at hx
      obtain ⟨y0, y1, y2, y3⟩ := fj
      obtain ⟨x0, x1, x2, x3⟩ := hx
      simp only at x0 x1 x2 x3
      have g0 := HF.out (j * 4)
      have g1 := HF.out (j * 4 + 1)
      have g2 := HF.out (j * 4 + 2)
      have g3 := HF.out (j * 4 + 3)
      have HM : Hid (∀ w1, Calls Tryd.prog 54 #[.int .i64 ((K : Int) + 1)] w1 fun e w' => e = .returned (.string (mt (K + 1))) ∧ Below w1.heap.size w1 w') := fun w1 => markText (K + 1) w1 (by omega) (by omega)
      clear hF
      go_wp2_with fail
      refine (HM.out _).mono ?_
      rintro e w2 ⟨rfl, b2⟩
      have hgs : g < (wr.setCell ⟨g, j * 4, none⟩ (.int .i64 K)).heap.size := by simpa using hgr
      have z1 : w2.cell? ⟨g, j * 4 + 1, none⟩ = some (.string y1) := (b2.cell (p := ⟨g, j * 4 + 1, none⟩) hgs).trans (by rw [cs x1, if_neg (by omega)])
      have z2 : w2.cell? ⟨g, j * 4 + 2, none⟩ = some (.int .i64 y2) := (b2.cell (p := ⟨g, j * 4 + 2, none⟩) hgs).trans (by rw [cs x2, if_neg (by omega)])
      have z3 : w2.cell? ⟨g, j * 4 + 3, none⟩ = some (.int .i64 y3) := (b2.cell (p := ⟨g, j * 4 + 3, none⟩) hgs).trans (by rw [cs x3, if_neg (by omega)])
      have HF2 : Hid (∀ o, w2.frozen? ⟨g, o, none⟩ = false) := fun o => (b2.frozen (p := ⟨g, o, none⟩) hgs).trans (by rw [World.frozen?_setCell]; exact HF.out o)
      have f1 := HF2.out (j * 4 + 1)
      have f2 := HF2.out (j * 4 + 2)
      have f3 := HF2.out (j * 4 + 3)
      have b2' : Below wr.heap.size (wr.setCell ⟨g, j * 4, none⟩ (.int .i64 K)) w2 := b2.mono (by simp)
      have HS := hide (Row.set HRj.out j K ((K : Int) + 1 + 1) ((K : Int) + 1 + 1 + 1) (mt (K + 1)) hgr b2')
      have HG2 : Hid (w.grownBy (((w2.setCell ⟨g, j * 4 + 1, none⟩ (.string (mt (K + 1)))).setCell ⟨g, j * 4 + 2, none⟩ (.int .i64 ((K : Int) + 1 + 1))).setCell ⟨g, j * 4 + 3, none⟩ (.int .i64 ((K : Int) + 1 + 1 + 1))) (some g)) :=
        ((((hG.trans (Only.setCell wr ⟨g, j * 4, none⟩ _).grown).trans (grows_of b2 _)).trans (Only.setCell w2 ⟨g, j * 4 + 1, none⟩ _).grown).trans (Only.setCell _ ⟨g, j * 4 + 2, none⟩ _).grown).trans (Only.setCell _ ⟨g, j * 4 + 3, none⟩ _).grown
      clear x0 x1 x2 x3 g0 g1 g2 g3 hgs b2 b2'
      go_wp2_with fail
      go_roundw
      case rel =>
        have hK := hK.out
        refine ⟨j + 1, K + 4, by omega, by unfold Hid; omega, by go_num, by go_num, ?_, fun o => by simp only [World.frozen?_setCell]; exact HF2.out o, HG2.out⟩
        refine HS.out.congr (fun i hi => ?_)
        by_cases e : i = j
        · subst e
          rw [if_pos rfl, if_pos (by omega)]
          unfold mk
          rw [← hK]
          rfl
        · rw [if_neg e]
          by_cases e2 : i < j
          · rw [if_pos e2, if_pos (by omega)]
          · rw [if_neg e2, if_neg (by omega)]
      case measure => simp [intOf]; omega
    · have hlt' : ¬ (j : Int) < n := by omega
      obtain rfl : j = n := by omega
      go_wp2_with fail
      go_ret
      exact ⟨congrArg (fun z => Ending.returned (.int .i64 z)) (show (K : Int) = 1 + (j : Int) * 4 by have := hK.out; omega), fun i hi => by have := HRj.out i hi; simp only [hi, if_true] at this; exact this, hG⟩

end Go.Proofs.YtplhjcohkjomgaaDoor
