import Derived.Test.YtpcnmolncoaddaaScale
import Derived.Test.YtpcnmolncoaddaaVal
namespace Go.Proofs.Ytpcnmolncoaddaa
open Go.RowKit Go.Joins

theorem guess_le {U V q U3 V2 P : Nat} (hU : U < (U3 + 1) * P) (hV : V2 * P ≤ V) (hq : q * V ≤ U) : q * V2 ≤ U3 := by
  have h1 : q * (V2 * P) ≤ q * V := Nat.mul_le_mul_left _ hV
  rw [← Nat.mul_assoc] at h1
  have h2 : q * V2 * P < (U3 + 1) * P := by omega
  have := Nat.lt_of_mul_lt_mul_right h2
  omega

theorem guess_ge {U V q g U3 V2 P : Nat} (hU : U3 * P ≤ U) (hV : V ≤ (V2 + 1) * P) (hq : U < (q + 1) * V) (hg : g * V2 ≤ U3) (hs : g ≤ V2) : g ≤ q + 1 := by
  apply Decidable.byContradiction
  intro hn
  have h1 : g * V2 * P ≤ U3 * P := Nat.mul_le_mul_right _ hg
  have h2 : (q + 1) * V ≤ (q + 1) * ((V2 + 1) * P) := Nat.mul_le_mul_left _ hV
  rw [← Nat.mul_assoc] at h2
  have h3 : g * V2 * P < (q + 1) * (V2 + 1) * P := by omega
  have h4 := Nat.lt_of_mul_lt_mul_right h3
  obtain ⟨d, rfl⟩ : ∃ d, g = q + 2 + d := ⟨g - (q + 2), by omega⟩
  have e1 : (q + 2 + d) * V2 = (q + 1) * V2 + (1 + d) * V2 := by rw [← Nat.add_mul]; congr 1; omega
  have e2 : (q + 1) * (V2 + 1) = (q + 1) * V2 + (q + 1) := by rw [Nat.mul_add, Nat.mul_one]
  have e3 : V2 ≤ (1 + d) * V2 := Nat.le_mul_of_pos_left _ (by omega)
  omega

/-- The limb that is guessed. -/
def guessG (U3 V2 : Nat) : Nat := min 4294967295 (U3 / V2)

theorem guessG_le {U3 V2 x : Nat} (hV : 0 < V2) (hx : x ≤ 4294967295) (h : x * V2 ≤ U3) : x ≤ guessG U3 V2 := by
  unfold guessG
  have := (Nat.le_div_iff_mul_le hV).2 h
  omega
theorem guessG_mul (U3 V2 : Nat) : guessG U3 V2 * V2 ≤ U3 := by
  unfold guessG
  exact Nat.le_trans (Nat.mul_le_mul_right _ (Nat.min_le_right _ _)) (Nat.div_mul_le_self _ _)
theorem guessG_lt (U3 V2 : Nat) : guessG U3 V2 < 4294967296 := by unfold guessG; omega

/-- The first guess is not below it. -/
theorem guess_init {v1 v0 u W : Nat} (hv : 0 < v1) (hu : u < 4294967296) : guessG (W * 4294967296 + u) (v1 * 4294967296 + v0) ≤ W / v1 := by
  have h := guessG_mul (W * 4294967296 + u) (v1 * 4294967296 + v0)
  generalize guessG (W * 4294967296 + u) (v1 * 4294967296 + v0) = G at *
  rw [Nat.le_div_iff_mul_le hv]
  rw [Nat.mul_add _ (v1 * 4294967296) v0, ← Nat.mul_assoc _ v1 4294967296] at h
  generalize G * v1 = X at *
  generalize G * v0 = Y at *
  omega

/-- Where the test holds the guess is too great. -/
theorem guess_step {v1 v0 u W g left : Nat} (hg : g * v1 + left = W)
    (hc : 4294967296 ≤ g ∨ left * 4294967296 + u < g * v0) (hi : guessG (W * 4294967296 + u) (v1 * 4294967296 + v0) ≤ g) : guessG (W * 4294967296 + u) (v1 * 4294967296 + v0) ≤ g - 1 := by
  have h := guessG_mul (W * 4294967296 + u) (v1 * 4294967296 + v0)
  have hl := guessG_lt (W * 4294967296 + u) (v1 * 4294967296 + v0)
  generalize hG : guessG (W * 4294967296 + u) (v1 * 4294967296 + v0) = G at *
  clear hG
  apply Decidable.byContradiction
  intro hn
  obtain rfl : G = g := by omega
  rcases hc with hc | hc
  · omega
  · rw [Nat.mul_add _ (v1 * 4294967296) v0, ← Nat.mul_assoc _ v1 4294967296] at h
    generalize G * v1 = X at *
    generalize G * v0 = Y at *
    omega

/-- Where the test does not hold the guess is it. -/
theorem guess_end {v1 v0 u u2 u1 g left : Nat} (hv : 0 < v1) (hv0 : v0 < 4294967296) (hu1 : u1 < 4294967296) (hu2 : u2 ≤ v1) (hg : g * v1 + left = u2 * 4294967296 + u1) (hu : u < 4294967296)
    (hc : 4294967296 ≤ left ∨ (g < 4294967296 ∧ g * v0 ≤ left * 4294967296 + u)) (hi : guessG ((u2 * 4294967296 + u1) * 4294967296 + u) (v1 * 4294967296 + v0) ≤ g) : g = guessG ((u2 * 4294967296 + u1) * 4294967296 + u) (v1 * 4294967296 + v0) := by
  have hlt : g < 4294967296 := by
    rcases hc with hc | hc
    · apply Decidable.byContradiction
      intro hn
      have h1 : 4294967296 * v1 ≤ g * v1 := Nat.mul_le_mul_right _ (by omega)
      generalize g * v1 = X at *
      omega
    · exact hc.1
  have hle : g * v0 ≤ left * 4294967296 + u := by
    rcases hc with hc | hc
    · have h1 : g * v0 ≤ 4294967296 * 4294967296 := Nat.mul_le_mul (by omega) (by omega)
      have h2 : 4294967296 * 4294967296 ≤ left * 4294967296 := Nat.mul_le_mul_right _ hc
      omega
    · exact hc.2
  have h : g ≤ guessG ((u2 * 4294967296 + u1) * 4294967296 + u) (v1 * 4294967296 + v0) := by
    refine guessG_le (by omega) (by omega) ?_
    rw [Nat.mul_add g (v1 * 4294967296) v0, ← Nat.mul_assoc g v1 4294967296, ← hg]
    generalize g * v1 = X at *
    generalize g * v0 = Y at *
    omega
  omega

/-- Limbs from a place on. -/
def fromAt (f : Nat → Nat) (a : Nat) : Nat → Nat := fun i => f (a + i)
theorem val_split (f : Nat → Nat) (a t : Nat) : val f (a + t) = val f a + val (fromAt f a) t * 4294967296 ^ a := by
  induction t with
  | zero => simp [val]
  | succ t ih =>
    show val f (a + t) + f (a + t) * 4294967296 ^ (a + t) = val f a + (val (fromAt f a) t + f (a + t) * 4294967296 ^ t) * 4294967296 ^ a
    rw [ih, Nat.add_mul, Nat.pow_add, Nat.mul_assoc (f (a + t)), Nat.mul_comm (4294967296 ^ t) (4294967296 ^ a), Nat.add_assoc]

/-- Replacing the limbs from a place on. -/
def put (f g : Nat → Nat) (a t : Nat) : Nat → Nat := fun i => if a ≤ i ∧ i < a + t then g (i - a) else f i
theorem put_zero (f g : Nat → Nat) (a : Nat) : put f g a 0 = f := by funext i; unfold put; rw [if_neg (by omega)]
theorem put_upd (f g : Nat → Nat) (a t : Nat) : upd (put f g a t) (a + t) (g t) = put f g a (t + 1) := by
  funext i
  unfold upd put
  by_cases h : i = a + t
  · subst h
    rw [if_pos rfl, if_pos (by omega), show a + t - a = t by omega]
  · rw [if_neg h]
    by_cases h2 : a ≤ i ∧ i < a + t
    · rw [if_pos h2, if_pos (by omega)]
    · rw [if_neg h2, if_neg (by omega)]
theorem put_at (f g : Nat → Nat) (a t : Nat) : put f g a t (a + t) = f (a + t) := by unfold put; rw [if_neg (by omega)]
theorem put_from (f g : Nat → Nat) (a t i : Nat) (h : i < t) : fromAt (put f g a t) a i = g i := by unfold fromAt put; rw [if_pos (by omega), show a + i - a = i by omega]
theorem val_put (f g : Nat → Nat) (a t n : Nat) : val (put f g a t) (a + t + n) + val (fromAt f a) t * 4294967296 ^ a = val f (a + t + n) + val g t * 4294967296 ^ a := by
  induction n with
  | zero =>
    rw [Nat.add_zero, val_split, val_split f, val_congr (g := f) (fun i hi => by unfold put; rw [if_neg (by omega)]), val_congr (f := fromAt (put f g a t) a) (g := g) (fun i hi => put_from f g a t i hi)]
    omega
  | succ n ih =>
    show val (put f g a t) (a + t + n) + put f g a t (a + t + n) * 4294967296 ^ (a + t + n) + _ = val f (a + t + n) + f (a + t + n) * 4294967296 ^ (a + t + n) + _
    rw [show put f g a t (a + t + n) = f (a + t + n) by unfold put; rw [if_neg (by omega)]]
    omega

end Go.Proofs.Ytpcnmolncoaddaa
