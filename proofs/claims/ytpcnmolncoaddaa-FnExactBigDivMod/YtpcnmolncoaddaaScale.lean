import Derived.Test.YtpcnmolncoaddaaDiv1
import Derived.Test.YtpcnmolncoaddaaProd
namespace Go.Proofs.Ytpcnmolncoaddaa
open Go.RowKit Go.Joins

/-- The carry of limbs times d, with m added, and its digits. -/
def scC (f : Nat → Nat) (d m : Nat) : Nat → Nat
  | 0 => m
  | k + 1 => (scC f d m k + f k * d) / 4294967296
def scD (f : Nat → Nat) (d m k : Nat) : Nat := (scC f d m k + f k * d) % 4294967296
def scIn (f : Nat → Nat) (d m k : Nat) : Nat → Nat := fun i => if i < k then scD f d m i else f i
def scF (f : Nat → Nat) (d m n : Nat) : Nat → Nat := upd (scIn f d m n) n (scC f d m n)

theorem scC_lt {f : Nat → Nat} {d m : Nat} (hf : ∀ i, f i < 4294967296) (hd : d < 4294967296) (hm : m < 4294967296) (k : Nat) : scC f d m k < 4294967296 := by
  induction k with
  | zero => exact hm
  | succ k ih =>
    unfold scC
    have h1 := mul_bound (hf k) hd
    generalize f k * d = t at *
    omega
theorem scD_lt (f : Nat → Nat) (d m k : Nat) : scD f d m k < 4294967296 := Nat.mod_lt _ (by decide)
theorem scIn_zero (f : Nat → Nat) (d m : Nat) : scIn f d m 0 = f := by funext i; simp [scIn]
theorem scIn_at (f : Nat → Nat) (d m k : Nat) : scIn f d m k k = f k := by simp [scIn]
theorem scIn_upd (f : Nat → Nat) (d m k : Nat) : upd (scIn f d m k) k (scD f d m k) = scIn f d m (k + 1) := by
  funext i
  unfold upd scIn
  by_cases h : i = k
  · subst h; simp
  · rw [if_neg h]
    by_cases h2 : i < k
    · rw [if_pos h2, if_pos (by omega)]
    · rw [if_neg h2, if_neg (by omega)]
theorem scF_lt {f : Nat → Nat} {d m : Nat} (hf : ∀ i, f i < 4294967296) (hd : d < 4294967296) (hm : m < 4294967296) (n i : Nat) : scF f d m n i < 4294967296 := by
  unfold scF upd scIn
  split
  · exact scC_lt hf hd hm _
  · split
    · exact scD_lt _ _ _ _
    · exact hf i
theorem scF_zero {f : Nat → Nat} {d m n : Nat} (h0 : ∀ i, n ≤ i → f i = 0) (i : Nat) (hi : n < i) : scF f d m n i = 0 := by
  unfold scF upd scIn
  rw [if_neg (by omega), if_neg (by omega), h0 i (by omega)]
theorem val_sc (f : Nat → Nat) (d m : Nat) (k : Nat) : val (scD f d m) k + scC f d m k * 4294967296 ^ k = val f k * d + m := by
  induction k with
  | zero => simp [val, scC]
  | succ k ih =>
    show val (scD f d m) k + scD f d m k * 4294967296 ^ k + scC f d m (k + 1) * 4294967296 ^ (k + 1) = (val f k + f k * 4294967296 ^ k) * d + m
    have e : scC f d m (k + 1) * 4294967296 ^ (k + 1) + scD f d m k * 4294967296 ^ k = (scC f d m k + f k * d) * 4294967296 ^ k := by
      rw [pow_s, ← Nat.mul_assoc, ← Nat.add_mul]
      congr 1
      show (scC f d m k + f k * d) / 4294967296 * 4294967296 + (scC f d m k + f k * d) % 4294967296 = _
      omega
    have e2 : (scC f d m k + f k * d) * 4294967296 ^ k = scC f d m k * 4294967296 ^ k + f k * 4294967296 ^ k * d := by
      rw [Nat.add_mul, Nat.mul_right_comm]
    rw [Nat.add_mul]
    omega
theorem val_scF (f : Nat → Nat) (d m n : Nat) : val (scF f d m n) (n + 1) = val f n * d + m := by
  rw [← val_sc f d m n]
  show val (scF f d m n) n + scF f d m n n * 4294967296 ^ n = _
  rw [show scF f d m n n = scC f d m n from by simp [scF, upd]]
  congr 1
  apply val_congr
  intro i hi
  unfold scF upd scIn
  rw [if_neg (by omega), if_pos hi]

set_option maxHeartbeats 2000000 in
set_option maxRecDepth 100000 in
theorem scale_any (b n d m : Nat) (f : Nat → Nat) (w : World) (hm : MagAt w b n f) (hn : n ≤ 79) (hd2 : d < 4294967296) (hm2 : m < 4294967296) (hf : ∀ i, f i < 4294967296) :
    Calls Try.prog 63 #[.pointer (some ⟨b, 0, none⟩), .int .u32 d, .int .u32 m] w fun e w' => e = .returned (.tuple #[]) ∧ MagAt w' b (trimN (scF f d m n) (n + 1)) (scF f d m n) ∧ Only b w w' := by
  have c80 := hm.count
  have HF : Hid (∀ i, f i < 4294967296) := hf
  clear hf
  go_enter Try.func63, Try.ntmps63
  go_wp2_with fail
  go_loopw [6, 14] (fun s6 s14 wr => ∃ k : Nat, k ≤ n ∧ s14 = .int .i64 k ∧ s6 = .int .u64 (scC f d m k) ∧ MagAt wr b n (scIn f d m k) ∧ Only b w wr) (fun _ s14 _ => n - (intOf s14).toNat)
  case atStart => exact ⟨0, Nat.zero_le _, rfl, rfl, by rw [scIn_zero]; exact hm, Only.refl _ _⟩
  case round =>
    obtain ⟨k, hk, rfl, rfl, hm', ho'⟩ := hrel
    clear hm c80
    have bC := scC_lt HF.out hd2 hm2 k
    by_cases hlt : k < n
    · have g1 := hm'.limb k (by omega)
      rw [scIn_at] at g1
      have g4 := hm'.frozen k
      have bf := HF.out k
      have bM := mul_bound bf hd2
      have ec : Hid (scC f d m (k + 1) = (scC f d m k + f k * d) / 4294967296) := rfl
      have ed : Hid (scD f d m k = (scC f d m k + f k * d) % 4294967296) := rfl
      go_wp2_with fail
      go_roundw
      case rel =>
        refine ⟨k + 1, by omega, by go_num, by rw [ec.out]; go_num, ?_, ho'.trans (Only.setCell wr ⟨b, k, none⟩ _)⟩
        have := hm'.setLimb k (scD f d m k) (by omega)
        rw [scIn_upd, ed.out] at this
        exact this
      case measure => simp [intOf]; omega
    · obtain rfl : n = k := by omega
      have e2 := hm'.count
      have g3 := hm'.limb n (by omega)
      have g4 := hm'.frozen n
      have hms := hm'.setLimb n (scC f d m n) (by omega)
      have hox : Only b wr (wr.setCell ⟨b, n, none⟩ (.int .u32 (scC f d m n : Nat))) := Only.setCell wr ⟨b, n, none⟩ _
      have e3 := hms.count
      have ho3 := ho'.trans hox
      clear hox ho'
      go_wp2_with fail
      go_region
      all_goals
        go_wp2_with fail
        refine (setCount_at b (n + 1) _ _ _ (by first | exact hms | exact hms.drew) (by omega)).mono ?_
        rintro e w5 ⟨rfl, hm5, ho5⟩
        go_wp2_with fail
        go_end0
        exact ⟨rfl, hm5, ho3.trans (by first | exact ho5 | exact ⟨ho5.os, ho5.tape, ho5.output, ho5.size, ho5.block⟩)⟩

end Go.Proofs.Ytpcnmolncoaddaa
