import Derived.Test.YtcmelghjoapglaaFH
namespace Go.Proofs.Ytcmelghjoapglaa
open Go.RowKit Go.Joins

theorem FSl.new {W' : World} {b : Nat} {L : List Fx} (hr : FRow W' L b 0) (hb : b < W'.heap.size) (hok : ∀ x ∈ L, x.Ok) (hl : L.length ≤ 1048576) : FSl W' W'.heap.size (some ⟨b, 0, none⟩) L.length L :=
  ⟨Nat.le_refl _, by unfold maxLen; omega, hok, fun _ => ⟨b, 0, rfl, hb, hr⟩⟩

set_option maxHeartbeats 2000000 in
set_option maxRecDepth 100000 in
theorem lawOf (L : List Fx) (t : ByteArray) (W : World) (a : Option Addr) (cap : Nat) (ht : t.size ≤ maxLen) (hs : FSl W W.heap.size a cap L) :
    Calls Try.prog 3 #[.slice a L.length cap, .string t] W fun e W' => e = .returned (.bool true) ∧ Below W.heap.size W W' := by
  have htm : t.size ≤ 9223372036854775807 := by simp only [maxLen] at ht; omega
  by_cases h0 : (1048576 : Int) < t.size
  · go_enter Try.func3, Try.ntmps3
    go_wp2_with fail
    go_ret
    exact ⟨rfl, Below.refl _ _⟩
  · by_cases h1 : (1048576 : Int) < (ft L : Int)
    · go_enter Try.func3, Try.ntmps3
      go_wp2_with fail
      refine (sz_all L 1048576 W a cap (by omega) (by omega) hs).mono ?_
      rintro e w1 ⟨rfl, b1⟩
      rw [szV_lt h1]
      go_wp2_with fail
      go_ret
      exact ⟨rfl, b1⟩
    · have hl : L.length ≤ 1048576 := by unfold ft at h1; omega
      have H1 := hide h1
      go_enter Try.func3, Try.ntmps3
      go_wp2_with fail
      refine (sz_all L 1048576 W a cap (by omega) (by omega) hs).mono ?_
      rintro e w1 ⟨rfl, b1⟩
      rw [szV_ge (Int.not_lt.2 H1.out)]
      replace h1 := H1.out
      have hg : ¬ (1048576 - (ft L : Int)) < 0 := by omega
      have z1 := b1.size
      have s1 := (hs.below b1 (Nat.le_refl _)).mono z1
      go_wp2_with fail
      refine (to_all L w1 a cap (by omega) s1).mono ?_
      rintro e w2 ⟨rfl, b2, r2, l2⟩
      have z2 := b2.size
      have B2 := b1.trans (b2.mono z1)
      go_wp2_with fail
      refine (spec_of L t w2 _ _ (FSl.new r2 l2 hs.ok hl)).mono ?_
      rintro e w3 ⟨rfl, b3⟩
      have z3 := b3.size
      have B3 := B2.trans (b3.mono (by omega))
      clear r2
      obtain ⟨x, hx⟩ : ∃ x, fxOf L t = x := ⟨_, rfl⟩
      rw [hx]
      unfold fv
      go_wp2_with fail
      have q3 := Box3.new w3 (.string x.nm) (.int .i64 x.sd) (.int .i64 x.lv) 25
      have ba := below_alloc1 w3 (.cells #[.string x.nm, .int .i64 x.sd, .int .i64 x.lv] 25)
      have za : (w3.alloc (.cells #[.string x.nm, .int .i64 x.sd, .int .i64 x.lv] 25)).heap.size = w3.heap.size + 1 := by simp
      generalize w3.alloc (.cells #[.string x.nm, .int .i64 x.sd, .int .i64 x.lv] 25) = w4 at *
      have B4 := B3.trans (ba.mono (by omega))
      have s4 := (hs.below B4 (Nat.le_refl _)).mono B4.size
      refine (to_all L w4 a cap (by omega) s4).mono ?_
      rintro e w5 ⟨rfl, b5, r5, l5⟩
      have z5 := b5.size
      have B5 := B4.trans (b5.mono (by omega))
      replace q3 := q3.below b5 (by omega)
      go_wp2_with fail
      rw [za] at r5 l5
      have s5 := FSl.new r5 l5 hs.ok hl
      refine (iOf L t w5 _ _ (by omega) (by omega) s5).mono ?_
      rintro e w6 ⟨rfl, b6⟩
      rw [hx]
      unfold fv
      have z6 := b6.size
      have B6 := B5.trans (b6.mono (by omega))
      replace q3 := q3.below b6 (by omega)
      have s6 := s5.below b6 (Nat.le_refl _)
      clear s5 r5 b6 b5
      replace q3 := q3.alloc (.cells #[.string x.nm, .int .i64 x.sd, .int .i64 x.lv] 25)
      obtain ⟨-, x0, x1, x2, -, -, -⟩ := id q3
      have b7 := below_alloc1 w6 (.cells #[.string x.nm, .int .i64 x.sd, .int .i64 x.lv] 25)
      have z7 : (w6.alloc (.cells #[.string x.nm, .int .i64 x.sd, .int .i64 x.lv] 25)).heap.size = w6.heap.size + 1 := by simp
      have HE := hide (eq_one x (w6.alloc (.cells #[.string x.nm, .int .i64 x.sd, .int .i64 x.lv] 25)))
      unfold fv at HE
      go_wp2_with fail
      generalize w6.alloc (.cells #[.string x.nm, .int .i64 x.sd, .int .i64 x.lv] 25) = w7 at *
      have B7 := B6.trans (b7.mono (by omega))
      have s7 := (s6.below b7 (by omega)).mono (n := w7.heap.size) (by omega)
      clear s6
      refine HE.out.mono ?_
      rintro e w8 ⟨rfl, b8⟩
      have z8 := b8.size
      have B8 := B7.trans (b8.mono (by omega))
      have s8 := (s7.below b8 (Nat.le_refl _)).mono z8
      have t8 := (hs.below B8 (Nat.le_refl _)).mono B8.size
      clear s7 HE x0 x1 x2
      go_wp2_with fail
      refine (to_all L w8 a cap (by omega) t8).mono ?_
      rintro e w9 ⟨rfl, b9, r9, l9⟩
      have z9 := b9.size
      have B9 := B8.trans (b9.mono (by omega))
      go_wp2_with fail
      refine (eq_all L w9 _ _ _ _ ((s8.below b9 (Nat.le_refl _)).mono z9) (FSl.new r9 l9 hs.ok hl)).mono ?_
      rintro e w10 ⟨rfl, b10⟩
      go_wp2_with fail
      go_ret
      exact ⟨rfl, B9.trans (b10.mono (by omega))⟩

end Go.Proofs.Ytcmelghjoapglaa
