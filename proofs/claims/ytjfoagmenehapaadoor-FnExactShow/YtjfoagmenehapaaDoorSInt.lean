import Derived.Test.YtjfoagmenehapaaDoorBig
import Derived.Lib.ItoaLen
namespace Go.Proofs.YtjfoagmenehapaaDoor
open Go.RowKit Go.Joins

theorem dec_digits : ∀ (K N : Nat), 0 < N → N < 10 ^ K → Big.dec K N = Lib.decDigits N
  | 0, N, h, h1 => by simp at h1; omega
  | K + 1, N, h, h1 => by
    rw [Big.dec_step K N h, Lib.decDigits]
    split
    · rename_i h10
      have e : N / 10 = 0 := by omega
      rw [e, Big.dec_zero, Nat.mod_eq_of_lt h10]
      rfl
    · rw [dec_digits K (N / 10) (by omega) (Big.dec_bound h1)]

theorem val_two (U : Nat) : Big.val (Big.two U) 2 = U := by
  simp only [Big.val, Big.two, if_true, Nat.pow_zero, Nat.pow_one]
  simp
  omega

theorem val_ext (n : Nat) (f : Nat → Nat) : ∀ k, k ≤ n → Big.val (Big.ext n f) k = Big.val f k
  | 0, _ => rfl
  | k + 1, h => by
    simp only [Big.val]
    rw [val_ext n f k (by omega)]
    simp only [Big.ext]
    rw [if_pos (by omega)]

theorem two_pow : (9223372036854775808 : Nat) < 10 ^ 386 := by decide +kernel

theorem text_two (m : Bool) (U : Nat) (h0 : 0 < U) (h1 : U ≤ 9223372036854775808) : Big.textOf m (Big.trimN (Big.two U) 2) (Big.two U) = if m = true then 45 :: Lib.decDigits U else Lib.decDigits U := by
  have hv := Big.val_trim (Big.two U) 2
  rw [val_two] at hv
  have hn : 0 < Big.trimN (Big.two U) 2 := by
    rcases Nat.eq_zero_or_pos (Big.trimN (Big.two U) 2) with h | h
    · rw [h] at hv
      simp only [Big.val] at hv
      omega
    · exact h
  have hle := Big.trimN_le (Big.two U) 2
  have htop := Big.trimN_top (Big.two U) 2 hn
  have hf : Big.faultB m (Big.trimN (Big.two U) 2) (Big.two U) = false := by
    unfold Big.faultB
    rw [if_neg (by omega)]
    simp only [Bool.or_eq_false_iff, decide_eq_false_iff_not, beq_eq_false_iff_ne]
    exact ⟨by omega, htop⟩
  unfold Big.textOf
  rw [hf, if_neg (by simp), if_neg (by omega), val_ext _ _ _ (Nat.le_refl _), hv, dec_digits 386 U h0 (Nat.lt_of_le_of_lt h1 two_pow)]

set_option maxHeartbeats 1000000 in
theorem l4Int_any (k : Int) (w : World) (h0 : -9223372036854775808 ≤ k) (h1 : k ≤ 9223372036854775807) :
    Calls Tryd.prog 18 #[.int .i64 k] w fun e w' => e = .returned (.string ⟨(Lib.itoa k).toArray⟩) ∧ Below w.heap.size w w' := by
  rcases Int.lt_or_le k 0 with hk | hk
  · obtain ⟨U, rfl⟩ : ∃ U : Nat, k = -(U : Int) := ⟨k.natAbs, by omega⟩
    have hU : 0 < U := by omega
    have ht : Hid (Big.textOf true (Big.trimN (Big.two U) 2) (Big.two U) = Lib.itoa (-(U : Int))) := by
      unfold Hid
      rw [text_two true U hU (by omega), Lib.itoa, if_pos hk, if_pos rfl, Int.natAbs_neg, Int.natAbs_natCast]
    have hn : decide (0 < Big.trimN (Big.two U) 2) = true := by
      rcases Nat.eq_zero_or_pos (Big.trimN (Big.two U) 2) with h | h
      · have hv := Big.val_trim (Big.two U) 2
        rw [val_two, h] at hv
        simp only [Big.val] at hv
        omega
      · exact decide_eq_true h
    have hof := Big.sOf_neg U w hU (by omega) _ rfl
    rw [hn] at hof
    generalize Big.trimN (Big.two U) 2 = n at ht hof
    clear hn h0 h1 hk
    go_enter Tryd.func18, Tryd.ntmps18
    go_wp2_with fail
    refine hof.mono ?_
    rintro e w1 ⟨v, rfl, ho, b1⟩
    go_wp2_with fail
    refine (Big.sText_any _ _ n (Big.two U) w1 ho.lim).mono ?_
    rintro e w2 ⟨rfl, b2⟩
    have z1 := b1.size
    rw [ht.out]
    go_wp2_with fail
    go_ret
    exact ⟨rfl, b1.trans (b2.mono z1)⟩
  · obtain ⟨U, rfl⟩ : ∃ U : Nat, k = (U : Int) := ⟨k.toNat, by omega⟩
    have ht : Hid (Big.textOf false (Big.trimN (Big.two U) 2) (Big.two U) = Lib.itoa (U : Int)) := by
      unfold Hid
      rw [Lib.itoa, if_neg (by omega), Int.toNat_natCast]
      rcases Nat.eq_zero_or_pos U with h | h
      · subst h
        rw [Lib.decDigits]
        decide
      · rw [text_two false U h (by omega), if_neg (by simp)]
    have hof := Big.sOf_pos U w (by omega) _ rfl
    generalize Big.trimN (Big.two U) 2 = n at ht hof
    clear h0 h1 hk
    go_enter Tryd.func18, Tryd.ntmps18
    go_wp2_with fail
    refine hof.mono ?_
    rintro e w1 ⟨v, rfl, ho, b1⟩
    go_wp2_with fail
    refine (Big.sText_any _ _ n (Big.two U) w1 ho.lim).mono ?_
    rintro e w2 ⟨rfl, b2⟩
    have z1 := b1.size
    rw [ht.out]
    go_wp2_with fail
    go_ret
    exact ⟨rfl, b1.trans (b2.mono z1)⟩

end Go.Proofs.YtjfoagmenehapaaDoor
