import Derived.Test.YtpcnmolncoaddaaLong1
namespace Go.Proofs.Ytpcnmolncoaddaa
open Go.RowKit Go.Joins

theorem wrap_quo (W v : Nat) (h : W < 18446744073709551616) : IntKind.u64.wrap ((W : Int) / (v : Int)) = ((W / v : Nat) : Int) := by
  rw [IntKind.wrap_u64]
  have h1 : W / v ≤ W := Nat.div_le_self _ _
  have e : (W : Int) / (v : Int) = ((W / v : Nat) : Int) := rfl
  rw [e]
  generalize W / v = Q at *
  omega

set_option maxHeartbeats 2000000 in
set_option maxRecDepth 100000 in
theorem guess_core (br bd N a J1 J2 I1 I2 u2 u1 u0 v1 v0 : Nat) (w : World) (c80 : w.cell? ⟨bd, 80, none⟩ = some (.int .i64 N)) (hn : a + N ≤ 79)
    (hJ1 : (a : Int) + (N : Int) - 1 = (J1 : Int)) (hJ2 : (a : Int) + (N : Int) - 2 = (J2 : Int)) (hI1 : (N : Int) - 1 = (I1 : Int)) (hI2 : (N : Int) - 2 = (I2 : Int))
    (g2 : w.cell? ⟨br, a + N, none⟩ = some (.int .u32 u2)) (g1 : w.cell? ⟨br, J1, none⟩ = some (.int .u32 u1)) (g0 : w.cell? ⟨br, J2, none⟩ = some (.int .u32 u0))
    (k1 : w.cell? ⟨bd, I1, none⟩ = some (.int .u32 v1)) (k0 : w.cell? ⟨bd, I2, none⟩ = some (.int .u32 v0))
    (_l1 : J1 < 80) (_l2 : J2 < 80) (_l3 : I1 < 80) (_l4 : I2 < 80)
    (b2 : u2 < 4294967296) (b1 : u1 < 4294967296) (b0 : u0 < 4294967296) (d1 : v1 < 4294967296) (d0 : v0 < 4294967296) (hv : 2147483648 ≤ v1) (hu : u2 ≤ v1) :
    Calls Try.prog 97 #[.pointer (some ⟨br, 0, none⟩), .pointer (some ⟨bd, 0, none⟩), .int .i64 a] w fun e w' => e = .returned (.int .u32 (guessG ((u2 * 4294967296 + u1) * 4294967296 + u0) (v1 * 4294967296 + v0))) ∧ ∃ q, w' = w.drewN q := by
  have EW := show Hid _ from or_hi u1 u2 b1 b2
  go_enter Try.func97, Try.ntmps97
  go_wp2_with fail
  go_region
  all_goals
    rw [EW.out]
    go_wp2_with fail
    go_region
  go_wp2_with fail
  have bW : u2 * 4294967296 + u1 < 18446744073709551616 := by omega
  have HW := show Hid _ from (rfl : u2 * 4294967296 + u1 = u2 * 4294967296 + u1)
  generalize hWW : u2 * 4294967296 + u1 = W at *
  have HWW := show Hid _ from hWW
  clear hWW HW EW
  have hv1 : ((v1 : Int) == 0) = false := by simp; omega
  go_region
  go_wp2_with fail
  have hi0 := guess_init (v1 := v1) (v0 := v0) (u := u0) (W := W) (by omega) b0
  have hdm : W / v1 * v1 + W % v1 = W := by rw [Nat.mul_comm]; exact Nat.div_add_mod W v1
  have hml : W % v1 < v1 := Nat.mod_lt _ (by omega)
  have HI := show Hid _ from hi0
  have HDM := show Hid _ from hdm
  clear hi0 hdm
  go_loop [11, 12] (fun s11 s12 => ∃ g left : Nat, s11 = .int .u64 g ∧ s12 = .int .u64 left ∧ Hid (g * v1 + left = W) ∧ Hid (guessG (W * 4294967296 + u0) (v1 * 4294967296 + v0) ≤ g) ∧ left < 8589934592) (fun _ s12 => 8589934592 - (intOf s12).toNat)
  case atStart => exact ⟨W / v1, W % v1, by rw [wrap_quo W v1 bW], rfl, HDM, HI, by omega⟩
  case round =>
    obtain ⟨g, left, rfl, rfl, hgl, hG, hll⟩ := hrel
    clear HI HDM hml
    have hgW : g < 18446744073709551616 := by
      have h1 := hgl.out
      have h2 : g * 1 ≤ g * v1 := Nat.mul_le_mul_left _ (by omega)
      generalize g * v1 = X at *
      omega
    by_cases hl : left < 4294967296
    · have t1 : ((left : Int) / 4294967296 == 0) = true := by simp; omega
      by_cases hg : 4294967296 ≤ g
      · have t2 : ((g : Int) / 4294967296 != 0) = true := by simp; omega
        have hs := guess_step (v0 := v0) (u := u0) hgl.out (Or.inl hg) hG.out
        have HS := show Hid _ from hs
        have HE : Hid ((g - 1) * v1 + (left + v1) = W) := by
          have h1 := hgl.out
          obtain ⟨j, rfl⟩ : ∃ j, g = j + 1 := ⟨g - 1, by omega⟩
          show (j + 1 - 1) * v1 + (left + v1) = W
          rw [Nat.add_mul] at h1
          rw [Nat.add_sub_cancel]
          omega
        clear hs
        go_wp2_with fail
        go_round
        case rel => exact ⟨g - 1, left + v1, by go_num, by go_num, HE, HS, by omega⟩
        case measure => simp [intOf]; omega
      · have t2 : ((g : Int) / 4294967296 != 0) = false := by simp; omega
        have hgm : g * v0 < 18446744073709551616 := by
          have : g * v0 ≤ 4294967295 * 4294967295 := Nat.mul_le_mul (by omega) (by omega)
          omega
        have eo := or_hi u0 left b0 hl
        have em : IntKind.u64.wrap ((g : Int) * (v0 : Int)) = ((g * v0 : Nat) : Int) := by
          rw [IntKind.wrap_u64, ← Int.natCast_mul]
          generalize g * v0 = X at *
          omega
        by_cases hc : left * 4294967296 + u0 < g * v0
        · have t3 : left * 4294967296 + u0 < g * v0 := hc
          have hs := guess_step (v0 := v0) (u := u0) hgl.out (Or.inr hc) hG.out
          have HS := show Hid _ from hs
          have hg0 : 0 < g := by
            apply Decidable.byContradiction
            intro h0
            have : g = 0 := by omega
            subst this
            rw [Nat.zero_mul] at hc
            omega
          have HE : Hid ((g - 1) * v1 + (left + v1) = W) := by
            have h1 := hgl.out
            obtain ⟨j, rfl⟩ : ∃ j, g = j + 1 := ⟨g - 1, by omega⟩
            show (j + 1 - 1) * v1 + (left + v1) = W
            rw [Nat.add_mul] at h1
            rw [Nat.add_sub_cancel]
            omega
          have HC := show Hid _ from hc
          clear hs hc hgm
          obtain ⟨M1, hM1⟩ : ∃ M1, M1 = g * v0 := ⟨_, rfl⟩
          obtain ⟨M2, hM2⟩ : ∃ M2, M2 = left * 4294967296 + u0 := ⟨_, rfl⟩
          rw [← hM1] at em t3
          rw [← hM2] at eo t3
          clear hM1 hM2
          go_wp2_with fail
          go_round
          case rel => exact ⟨g - 1, left + v1, by go_num, by go_num, HE, HS, by omega⟩
          case measure => simp [intOf]; omega
        · have t3 : g * v0 ≤ left * 4294967296 + u0 := by omega
          have HN := show Hid _ from guess_end (v1 := v1) (v0 := v0) (u := u0) (u2 := u2) (u1 := u1) (by omega) d0 b1 hu (by rw [HWW.out]; exact hgl.out) b0 (Or.inr ⟨by omega, by omega⟩) (by rw [HWW.out]; exact hG.out)
          clear hc hgm
          obtain ⟨M1, hM1⟩ : ∃ M1, M1 = g * v0 := ⟨_, rfl⟩
          obtain ⟨M2, hM2⟩ : ∃ M2, M2 = left * 4294967296 + u0 := ⟨_, rfl⟩
          rw [← hM1] at em t3
          rw [← hM2] at eo t3
          clear hM1 hM2
          go_wp2_with fail
          go_ret
          exact ⟨ret_int (by rw [← HN.out]), 3, rfl⟩
    · have t1 : ((left : Int) / 4294967296 == 0) = false := by simp; omega
      have HN := show Hid _ from guess_end (v1 := v1) (v0 := v0) (u := u0) (u2 := u2) (u1 := u1) (by omega) d0 b1 hu (by rw [HWW.out]; exact hgl.out) b0 (Or.inl (by omega)) (by rw [HWW.out]; exact hG.out)
      have hgl2 : g < 4294967296 := by rw [HN.out]; exact guessG_lt _ _
      go_wp2_with fail
      go_ret
      exact ⟨ret_int (by rw [← HN.out]), 3, rfl⟩

theorem guess_any (br bd nr m a : Nat) (F G : Nat → Nat) (w : World) (hr : MagAt w br nr F) (hd : MagAt w bd (m + 2) G) (hn : a + m ≤ 77) (hF : ∀ i, F i < 4294967296) (hG : ∀ i, G i < 4294967296) (hv : 2147483648 ≤ G (m + 1)) (hu : F (a + (m + 2)) ≤ G (m + 1)) :
    Calls Try.prog 97 #[.pointer (some ⟨br, 0, none⟩), .pointer (some ⟨bd, 0, none⟩), .int .i64 a] w fun e w' => e = .returned (.int .u32 (guessG ((F (a + (m + 2)) * 4294967296 + F (a + m + 1)) * 4294967296 + F (a + m)) (G (m + 1) * 4294967296 + G m))) ∧ ∃ q, w' = w.drewN q :=
  guess_core br bd (m + 2) a (a + m + 1) (a + m) (m + 1) m _ _ _ _ _ w hd.count (by omega) (by omega) (by omega) (by omega) (by omega) (hr.limb _ (by omega)) (hr.limb _ (by omega)) (hr.limb _ (by omega)) (hd.limb _ (by omega)) (hd.limb _ (by omega)) (by omega) (by omega) (by omega) (by omega) (hF _) (hF _) (hF _) (hG _) (hG _) hv hu

end Go.Proofs.Ytpcnmolncoaddaa
