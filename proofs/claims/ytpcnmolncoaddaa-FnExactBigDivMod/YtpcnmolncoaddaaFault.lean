import Derived.Test.YtpcnmolncoaddaaBigs
namespace Go.Proofs.Ytpcnmolncoaddaa
open Go.RowKit Go.Joins

def faultB (m : Bool) (n : Nat) (f : Nat → Nat) : Bool := if n = 0 then m else decide (40 < n) || (f (n - 1) == 0)

theorem ret_bool {a b : Bool} (h : a = b) : Ending.returned (.bool a) = .returned (.bool b) := by rw [h]

set_option maxHeartbeats 400000 in
theorem iFault_any (m : Bool) (v : Value) (n : Nat) (f : Nat → Nat) (w : World) (hL : Lim w v n f) :
    Calls Try.prog 19 #[.agg #[.bool m, v]] w fun e w' => e = .returned (.bool (faultB m n f)) ∧ Below w.heap.size w w' := by
  obtain ⟨a, c, rfl, h1, h2, h3, h4⟩ := id hL
  unfold maxLen at h2
  by_cases hz : n = 0
  · have e : faultB m n f = m := by simp [faultB, hz]
    rw [e]
    clear hL h3 h4 e
    go_enter Try.func19, Try.ntmps19
    go_wp2
    go_ret
    exact ⟨rfl, below_alloc1 _ _⟩
  · by_cases hg : 40 < n
    · have e : faultB m n f = true := by simp [faultB, hz, hg]
      rw [e]
      clear hL h3 h4 e
      go_enter Try.func19, Try.ntmps19
      go_wp2
      go_ret
      exact ⟨rfl, below_alloc1 _ _⟩
    · obtain ⟨k, rfl⟩ : ∃ k, n = k + 1 := ⟨n - 1, by omega⟩
      obtain ⟨b, off, rfl, h5⟩ := h4 (by omega)
      have g := (hL.below (below_alloc1 w (.cells #[.bool m, .slice (some ⟨b, off, none⟩) (k + 1) c] 25)))
      have hbl := block_lt_of_cell (h5 k (by omega))
      have g1 : w.cell? ⟨b, off + k, none⟩ = some (.int .u32 (f k)) := h5 k (by omega)
      have e : faultB m (k + 1) f = (f k == 0) := by simp [faultB]; omega
      rw [e]
      clear hL h3 h4 e g
      go_enter Try.func19, Try.ntmps19
      go_wp2
      go_ret
      exact ⟨ret_bool (by rw [Bool.eq_iff_iff]; simp; omega), below_alloc1 _ _⟩

set_option maxHeartbeats 400000 in
theorem sFault_any (m : Bool) (v : Value) (n : Nat) (f : Nat → Nat) (w : World) (hL : Lim w v n f) :
    Calls Try.prog 24 #[.agg #[.bool m, v]] w fun e w' => e = .returned (.bool (faultB m n f)) ∧ Below w.heap.size w w' := by
  obtain ⟨a, c, rfl, h1, h2, h3, h4⟩ := id hL
  unfold maxLen at h2
  by_cases hz : n = 0
  · have e : faultB m n f = m := by simp [faultB, hz]
    rw [e]
    clear hL h3 h4 e
    go_enter Try.func24, Try.ntmps24
    go_wp2
    go_ret
    exact ⟨ret_bool (by simp), below_alloc1 _ _⟩
  · by_cases hg : 40 < n
    · have e : faultB m n f = true := by simp [faultB, hz, hg]
      rw [e]
      clear hL h3 h4 e
      go_enter Try.func24, Try.ntmps24
      go_wp2
      go_ret
      exact ⟨ret_bool (by simp), below_alloc1 _ _⟩
    · obtain ⟨k, rfl⟩ : ∃ k, n = k + 1 := ⟨n - 1, by omega⟩
      obtain ⟨b, off, rfl, h5⟩ := h4 (by omega)
      have hbl := block_lt_of_cell (h5 k (by omega))
      have g1 : w.cell? ⟨b, off + k, none⟩ = some (.int .u32 (f k)) := h5 k (by omega)
      have e : faultB m (k + 1) f = (f k == 0) := by simp [faultB]; omega
      rw [e]
      clear hL h3 h4 e
      go_enter Try.func24, Try.ntmps24
      go_wp2
      all_goals
        go_ret
        exact ⟨ret_bool (by first | (rw [Bool.eq_iff_iff]; done) | (rw [Bool.eq_iff_iff]; simp; done) | (rw [Bool.eq_iff_iff]; simp; omega)), below_alloc1 _ _⟩

set_option maxHeartbeats 400000 in
theorem lawFault (m : Bool) (v : Value) (n : Nat) (f : Nat → Nat) (w : World) (hL : Lim w v n f) :
    Calls Try.prog 6 #[.agg #[.bool m, v]] w fun e w' => e = .returned (.bool true) ∧ Below w.heap.size w w' := by
  obtain ⟨a, c, rfl, h1, h2, h3, h4⟩ := id hL
  unfold maxLen at h2
  by_cases hn : 1048576 < n
  · go_enter Try.func6, Try.ntmps6
    go_wp2_with fail
    refine (szBig_any m a n c 1048576 _ (by omega) (by omega) (by omega)).mono ?_
    rintro e w1 ⟨rfl, hb1⟩
    rw [if_pos (by omega)]
    go_wp2_with fail
    go_ret
    exact ⟨rfl, (below_alloc1 _ _).trans (hb1.mono (by simp))⟩
  · go_enter Try.func6, Try.ntmps6
    go_wp2_with fail
    refine (szBig_any m a n c 1048576 _ (by omega) (by omega) (by omega)).mono ?_
    rintro e w1 ⟨rfl, hb1⟩
    rw [if_neg (by omega)]
    have c10 : w1.cell? ⟨w.heap.size, 0, none⟩ = some (.bool m) := (hb1.cell (by simp)).trans (by simp)
    have c11 : w1.cell? ⟨w.heap.size, 1, none⟩ = some (.slice a n c) := (hb1.cell (by simp)).trans (by simp)
    have z1 : w.heap.size < w1.heap.size := by have := hb1.size; simp at this; omega
    have bw1 := (below_alloc1 w _).trans (hb1.mono (by simp))
    clear hb1 h4
    go_wp2_with fail
    refine (toBig_any m _ n f _ (hL.below bw1) (by omega)).mono ?_
    rintro e w2 ⟨v2, rfl, ho2, hb2⟩
    have c20 := (hb2.cell (p := ⟨w.heap.size, 0, none⟩) z1).trans c10
    have c21 := (hb2.cell (p := ⟨w.heap.size, 1, none⟩) z1).trans c11
    have z2 : w.heap.size < w2.heap.size := by have := hb2.size; omega
    have bw2 := bw1.trans (hb2.mono (by omega))
    clear hb2 c10 c11
    go_wp2_with fail
    refine (sFault_any m _ n f _ ho2.lim).mono ?_
    rintro e w3 ⟨rfl, hb3⟩
    have c30 := (hb3.cell (p := ⟨w.heap.size, 0, none⟩) z2).trans c20
    have c31 := (hb3.cell (p := ⟨w.heap.size, 1, none⟩) z2).trans c21
    have z3 : w.heap.size < w3.heap.size := by have := hb3.size; omega
    have bw3 := bw2.trans (hb3.mono (by omega))
    clear hb3 c20 c21 ho2
    go_wp2_with fail
    refine (toBig_any m _ n f _ (hL.below bw3) (by omega)).mono ?_
    rintro e w4 ⟨v4, rfl, ho4, hb4⟩
    have c40 := (hb4.cell (p := ⟨w.heap.size, 0, none⟩) z3).trans c30
    have c41 := (hb4.cell (p := ⟨w.heap.size, 1, none⟩) z3).trans c31
    have z4 : w.heap.size < w4.heap.size := by have := hb4.size; omega
    have bw4 := bw3.trans (hb4.mono (by omega))
    clear hb4 c30 c31
    obtain ⟨a4, k4, rfl, -⟩ := id ho4
    go_wp2_with fail
    refine (iFault_any m _ n f _ (ho4.lim.below (below_alloc1 _ _))).mono ?_
    rintro e w5 ⟨rfl, hb5⟩
    have c50 : w5.cell? ⟨w.heap.size, 0, none⟩ = some (.bool m) := (hb5.cell (p := ⟨w.heap.size, 0, none⟩) (by simp; omega)).trans (((below_alloc1 _ _).cell (p := ⟨w.heap.size, 0, none⟩) z4).trans c40)
    have c51 : w5.cell? ⟨w.heap.size, 1, none⟩ = some (.slice a n c) := (hb5.cell (p := ⟨w.heap.size, 1, none⟩) (by simp; omega)).trans (((below_alloc1 _ _).cell (p := ⟨w.heap.size, 1, none⟩) z4).trans c41)
    have x50 : w5.cell? ⟨w4.heap.size, 0, none⟩ = some (.bool m) := (hb5.cell (by simp)).trans (by simp)
    have x51 : w5.cell? ⟨w4.heap.size, 1, none⟩ = some (.slice a4 n k4) := (hb5.cell (by simp)).trans (by simp)
    have z5 : w4.heap.size < w5.heap.size := by have := hb5.size; simp at this; omega
    have bw5 := (bw4.alloc (by omega) _).trans (hb5.mono (by simp; omega))
    have l5 := (ho4.lim.below (below_alloc1 _ _)).below hb5
    clear hb5 c40 c41 ho4
    go_wp2_with fail
    go_region_with (first
      | (go_at_call 33; refine (toBig_any m _ n f _ ?_ ?_).mono ?_; exact hL.below bw5.drew; omega; rintro e w6 ⟨v6, rfl, ho6, hb6⟩; have c60 := (hb6.cell (p := ⟨w4.heap.size, 0, none⟩) z5).trans x50; have c61 := (hb6.cell (p := ⟨w4.heap.size, 1, none⟩) z5).trans x51; have l6 := l5.below ((Below.refl _ _).drew.trans hb6); have bw6 := bw5.drew.trans (hb6.mono (by simp; omega)))
      | (go_at_call 34; refine (eqBig_any m _ _ n f f _ l6 ho6.lim ?_ ?_).mono ?_; omega; intro i hi; rfl; rintro e w7 ⟨rfl, hb7⟩))
    all_goals
      go_wp2_with fail
      go_ret
      exact ⟨rfl, bw6.trans (hb7.mono (by have := bw6.size; omega))⟩

end Go.Proofs.Ytpcnmolncoaddaa
