import Derived.Test.YtpcnmolncoaddaaDigits
import Derived.Test.YtpcnmolncoaddaaFault
namespace Go.Proofs.Ytpcnmolncoaddaa
open Go.RowKit Go.Joins

theorem Lim.ext' {w v n f} (h : Lim w v n f) : Lim w v n (ext n f) := by
  obtain ⟨a, c, rfl, h1, h2, h3, h4⟩ := h
  refine ⟨a, c, rfl, h1, h2, fun i hi => by simp [ext, hi, h3 i hi], fun hn => ?_⟩
  obtain ⟨b, off, rfl, h5⟩ := h4 hn
  exact ⟨b, off, rfl, fun i hi => by rw [h5 i hi]; simp [ext, hi]⟩

theorem fault_top {m n f} (h : faultB m n f = false) (hn : 0 < n) : ext n f (n - 1) ≠ 0 := by
  unfold faultB at h
  rw [if_neg (by omega)] at h
  simp at h
  simp only [ext]
  rw [if_pos (by omega)]
  exact h.2
theorem fault_zero {m f} (h : faultB m 0 f = false) : m = false := by simpa [faultB] using h

def textOf (m : Bool) (n : Nat) (f : Nat → Nat) : List UInt8 :=
  if faultB m n f = true then [] else if n = 0 then [48] else if m = true then 45 :: dec 386 (val (ext n f) n) else dec 386 (val (ext n f) n)

theorem dec_len (K N : Nat) : (dec K N).length ≤ K := by
  induction K generalizing N with
  | zero => simp [dec]
  | succ K ih =>
    unfold dec
    split
    · simp
    · simp; have := ih (N / 10); omega

theorem at2_start (w : World) (x0 x1 : Value) (t : TypeId) (w1 : World) (hb : Below (w.alloc (.cells #[x0, x1] t)).heap.size (w.alloc (.cells #[x0, x1] t)) w1) : w1.cell? ⟨w.heap.size, 0, none⟩ = some x0 ∧ w1.cell? ⟨w.heap.size, 1, none⟩ = some x1 :=
  ⟨(hb.cell (p := ⟨w.heap.size, 0, none⟩) (by simp)).trans (by simp), (hb.cell (p := ⟨w.heap.size, 1, none⟩) (by simp)).trans (by simp)⟩
theorem faultB_le' {m n f} (h : faultB m n f = false) : n ≤ 40 := by
  unfold faultB at h
  by_cases hz : n = 0
  · omega
  · simp [hz] at h; omega

set_option maxHeartbeats 400000 in
theorem sDigits_zero (a : Option Addr) (n c : Nat) (w : World) (hz : n ≤ 0) :
    Calls Try.prog 80 #[.slice a n c] w fun e w' => e = .returned (.string ⟨#[48]⟩) ∧ w = w' := by
  have hn0 : ((n : Int) == 0) = true := by simp; omega
  go_enter Try.func80, Try.ntmps80
  go_wp2_with fail
  go_ret
  exact ⟨rfl, rfl⟩

set_option maxHeartbeats 1000000 in
set_option maxRecDepth 100000 in
theorem sText_any (m : Bool) (v : Value) (n : Nat) (f : Nat → Nat) (w : World) (hL : Lim w v n f) :
    Calls Try.prog 39 #[.agg #[.bool m, v]] w fun e w' => e = .returned (.string ⟨(textOf m n f).toArray⟩) ∧ Below w.heap.size w w' := by
  obtain ⟨a, c, rfl, -⟩ := id hL
  by_cases hf : faultB m n f = true
  · have HT : Hid (textOf m n f = []) := if_pos hf
    go_enter Try.func39, Try.ntmps39
    go_wp2_with fail
    refine (sFault_any m _ n f _ (hL.below (below_alloc1 _ _))).mono ?_
    rintro e w1 ⟨rfl, hb1⟩
    rw [hf]
    have bel1 := (below_alloc1 w _).trans (hb1.mono (by simp))
    clear hb1 hf
    go_wp2_with fail
    go_ret
    exact ⟨by rw [HT.out]; rfl, bel1⟩
  · have hf := Bool.eq_false_iff.2 hf
    have hn40 := faultB_le' hf
    rcases Nat.eq_zero_or_pos n with h0 | hp
    · have hm : m = false := fault_zero (f := f) (by rw [h0] at hf; exact hf)
      subst hm
      have HT : Hid (textOf false n f = [48]) := by unfold Hid textOf; rw [hf, if_neg (by simp), if_pos h0]
      have hz : n ≤ 0 := by omega
      clear h0
      go_enter Try.func39, Try.ntmps39
      go_wp2_with fail
      refine (sFault_any _ _ n f _ (hL.below (below_alloc1 _ _))).mono ?_
      rintro e w1 ⟨rfl, hb1⟩
      rw [hf]
      have t1 := (at2_start w (.bool false) (.slice a n c) 25 w1 hb1)
      have bel1 := (below_alloc1 w _).trans (hb1.mono (by simp))
      obtain ⟨c0, c1⟩ := t1
      clear hb1 hf
      go_wp2_with fail
      refine (sDigits_zero a n c _ (by omega)).mono ?_
      rintro e w2 ⟨rfl, rfl⟩
      go_wp2_with fail
      go_ret
      exact ⟨by rw [HT.out]; rfl, bel1⟩
    · have htop := fault_top hf hp
      have HE := hL.ext'
      have Hlt : Hid (∀ i, ext n f i < 4294967296) := extLt hL
      have hdl := dec_len 386 (val (ext n f) n)
      have hdl2 : ((dec 386 (val (ext n f) n)).length : Int) ≤ 8388608 := by omega
      cases m
      · have HT : Hid (textOf false n f = dec 386 (val (ext n f) n)) := by unfold Hid textOf; rw [hf, if_neg (by simp), if_neg (by omega), if_neg (by simp)]
        have HC : Hid (∀ w, Lim w (.slice a n c) n f → Calls Try.prog 80 #[.slice a n c] w fun e w' => e = .returned (.string ⟨(dec 386 (val (ext n f) n)).toArray⟩) ∧ Below w.heap.size w w') := fun w h => sDigits_pos _ n (ext n f) w h.ext' Hlt.out hp hn40 (fun _ => htop)
        generalize dec 386 (val (ext n f) n) = T at *
        go_enter Try.func39, Try.ntmps39
        go_wp2_with fail
        refine (sFault_any _ _ n f _ (hL.below (below_alloc1 _ _))).mono ?_
        rintro e w1 ⟨rfl, hb1⟩
        rw [hf]
        have t1 := (at2_start w (.bool false) (.slice a n c) 25 w1 hb1)
        have bel1 := (below_alloc1 w _).trans (hb1.mono (by simp))
        have z1 := bel1.size
        obtain ⟨c0, c1⟩ := t1
        clear hb1 hf
        go_wp2_with fail
        refine (HC.out _ (hL.below bel1)).mono ?_
        rintro e w2 ⟨rfl, hb2⟩
        have bel2 := bel1.trans (hb2.mono z1)
        go_wp2_with fail
        go_ret
        exact ⟨by rw [HT.out]; rfl, bel2⟩
      · have HT : Hid (textOf true n f = 45 :: dec 386 (val (ext n f) n)) := by unfold Hid textOf; rw [hf, if_neg (by simp), if_neg (by omega), if_pos rfl]
        have HC : Hid (∀ w, Lim w (.slice a n c) n f → Calls Try.prog 80 #[.slice a n c] w fun e w' => e = .returned (.string ⟨(dec 386 (val (ext n f) n)).toArray⟩) ∧ Below w.heap.size w w') := fun w h => sDigits_pos _ n (ext n f) w h.ext' Hlt.out hp hn40 (fun _ => htop)
        generalize dec 386 (val (ext n f) n) = T at *
        go_enter Try.func39, Try.ntmps39
        go_wp2_with fail
        refine (sFault_any _ _ n f _ (hL.below (below_alloc1 _ _))).mono ?_
        rintro e w1 ⟨rfl, hb1⟩
        rw [hf]
        have t1 := (at2_start w (.bool true) (.slice a n c) 25 w1 hb1)
        have bel1 := (below_alloc1 w _).trans (hb1.mono (by simp))
        have z1 := bel1.size
        obtain ⟨c0, c1⟩ := t1
        clear hb1 hf
        go_wp2_with fail
        refine (HC.out _ (hL.below bel1)).mono ?_
        rintro e w2 ⟨rfl, hb2⟩
        have bel2 := bel1.trans (hb2.mono z1)
        go_wp2_with fail
        go_ret
        exact ⟨by rw [HT.out]; exact congrArg (fun s => Ending.returned (Value.string s)) (ByteArray.mk_append_mk [45] T), bel2⟩

set_option maxHeartbeats 1000000 in
set_option maxRecDepth 100000 in
theorem iText_any (m : Bool) (v : Value) (n : Nat) (f : Nat → Nat) (w : World) (hL : Lim w v n f) :
    Calls Try.prog 26 #[.agg #[.bool m, v]] w fun e w' => e = .returned (.string ⟨(textOf m n f).toArray⟩) ∧ Below w.heap.size w w' := by
  obtain ⟨a, c, rfl, -⟩ := id hL
  by_cases hf : faultB m n f = true
  · have HT : Hid (textOf m n f = []) := if_pos hf
    go_enter Try.func26, Try.ntmps26
    go_wp2_with fail
    refine (iFault_any m _ n f _ (hL.below (below_alloc1 _ _))).mono ?_
    rintro e w1 ⟨rfl, hb1⟩
    rw [hf]
    have bel1 := (below_alloc1 w _).trans (hb1.mono (by simp))
    clear hb1 hf
    go_wp2_with fail
    go_ret
    exact ⟨by rw [HT.out]; rfl, bel1⟩
  · have hf := Bool.eq_false_iff.2 hf
    have hn40 := faultB_le' hf
    rcases Nat.eq_zero_or_pos n with h0 | hp
    · have hm : m = false := fault_zero (f := f) (by rw [h0] at hf; exact hf)
      subst hm
      have HT : Hid (textOf false n f = [48]) := by unfold Hid textOf; rw [hf, if_neg (by simp), if_pos h0]
      have hz : n ≤ 0 := by omega
      clear h0
      go_enter Try.func26, Try.ntmps26
      go_wp2_with fail
      refine (iFault_any _ _ n f _ (hL.below (below_alloc1 _ _))).mono ?_
      rintro e w1 ⟨rfl, hb1⟩
      rw [hf]
      have t1 := (at2_start w (.bool false) (.slice a n c) 25 w1 hb1)
      have bel1 := (below_alloc1 w _).trans (hb1.mono (by simp))
      obtain ⟨c0, c1⟩ := t1
      have hn0 : ((n : Int) == 0) = true := by simp; omega
      clear hb1 hf
      go_wp2_with fail
      go_ret
      exact ⟨by rw [HT.out]; rfl, bel1⟩
    · have htop := fault_top hf hp
      have Hlt : Hid (∀ i, ext n f i < 4294967296) := extLt hL
      have hdl := dec_len 386 (val (ext n f) n)
      have hdl2 : ((dec 386 (val (ext n f) n)).length : Int) ≤ 8388608 := by omega
      have hn0 : ((n : Int) == 0) = false := by simp; omega
      cases m
      · have HT : Hid (textOf false n f = dec 386 (val (ext n f) n)) := by unfold Hid textOf; rw [hf, if_neg (by simp), if_neg (by omega), if_neg (by simp)]
        have HC : Hid (∀ (cs : Array Value) (w : World), MagC cs n (ext n f) → Calls Try.prog 66 #[.agg cs] w fun e w' => e = .returned (.string ⟨(dec 386 (val (ext n f) n)).toArray⟩) ∧ Below w.heap.size w w') := fun cs w h => iDigits_any cs n (ext n f) w h Hlt.out (ext_ge n f) hn40 (fun _ => htop)
        generalize dec 386 (val (ext n f) n) = T at *
        go_enter Try.func26, Try.ntmps26
        go_wp2_with fail
        refine (iFault_any _ _ n f _ (hL.below (below_alloc1 _ _))).mono ?_
        rintro e w1 ⟨rfl, hb1⟩
        rw [hf]
        have t1 := (at2_start w (.bool false) (.slice a n c) 25 w1 hb1)
        have bel1 := (below_alloc1 w _).trans (hb1.mono (by simp))
        have z1 := bel1.size
        have z0 : w.heap.size < w1.heap.size := by have := hb1.size; simp at this; omega
        obtain ⟨c0, c1⟩ := t1
        clear hb1 hf
        go_wp2_with fail
        refine (magOf_any _ n f _ (hL.below bel1) (by omega)).mono ?_
        rintro e w3 ⟨cs3, rfl, hc3, hb3⟩
        have bel3 := bel1.trans (hb3.mono z1)
        have c30 := (hb3.cell (p := ⟨w.heap.size, 0, none⟩) z0).trans c0
        have z3 := bel3.size
        have z03 : w.heap.size < w3.heap.size := by have := hb3.size; omega
        clear c0 c1 hb3
        go_wp2_with fail
        refine (HC.out cs3 _ hc3).mono ?_
        rintro e w2 ⟨rfl, hb2⟩
        have bel2 := bel3.trans (hb2.mono z3)
        have c20 := (hb2.cell (p := ⟨w.heap.size, 0, none⟩) (by show w.heap.size < w3.heap.size; omega)).trans c30
        clear c30
        go_wp2_with fail
        go_ret
        exact ⟨by rw [HT.out]; rfl, bel2⟩
      · have HT : Hid (textOf true n f = 45 :: dec 386 (val (ext n f) n)) := by unfold Hid textOf; rw [hf, if_neg (by simp), if_neg (by omega), if_pos rfl]
        have HC : Hid (∀ (cs : Array Value) (w : World), MagC cs n (ext n f) → Calls Try.prog 66 #[.agg cs] w fun e w' => e = .returned (.string ⟨(dec 386 (val (ext n f) n)).toArray⟩) ∧ Below w.heap.size w w') := fun cs w h => iDigits_any cs n (ext n f) w h Hlt.out (ext_ge n f) hn40 (fun _ => htop)
        generalize dec 386 (val (ext n f) n) = T at *
        go_enter Try.func26, Try.ntmps26
        go_wp2_with fail
        refine (iFault_any _ _ n f _ (hL.below (below_alloc1 _ _))).mono ?_
        rintro e w1 ⟨rfl, hb1⟩
        rw [hf]
        have t1 := (at2_start w (.bool true) (.slice a n c) 25 w1 hb1)
        have bel1 := (below_alloc1 w _).trans (hb1.mono (by simp))
        have z1 := bel1.size
        have z0 : w.heap.size < w1.heap.size := by have := hb1.size; simp at this; omega
        obtain ⟨c0, c1⟩ := t1
        clear hb1 hf
        go_wp2_with fail
        refine (magOf_any _ n f _ (hL.below bel1) (by omega)).mono ?_
        rintro e w3 ⟨cs3, rfl, hc3, hb3⟩
        have bel3 := bel1.trans (hb3.mono z1)
        have c30 := (hb3.cell (p := ⟨w.heap.size, 0, none⟩) z0).trans c0
        have z3 := bel3.size
        have z03 : w.heap.size < w3.heap.size := by have := hb3.size; omega
        clear c0 c1 hb3
        go_wp2_with fail
        refine (HC.out cs3 _ hc3).mono ?_
        rintro e w2 ⟨rfl, hb2⟩
        have bel2 := bel3.trans (hb2.mono z3)
        have c20 := (hb2.cell (p := ⟨w.heap.size, 0, none⟩) (by show w.heap.size < w3.heap.size; omega)).trans c30
        clear c30
        go_wp2_with fail
        go_ret
        exact ⟨by rw [HT.out]; exact congrArg (fun s => Ending.returned (Value.string s)) (ByteArray.mk_append_mk [45] T), bel2⟩

end Go.Proofs.Ytpcnmolncoaddaa
