import Derived.Test.YtpcnmolncoaddaaProd
import Derived.Test.YtpcnmolncoaddaaDiff
import Derived.Test.YtpcnmolncoaddaaSCompare
namespace Go.Proofs.Ytpcnmolncoaddaa

/-- The number that n limbs say. -/
def val (f : Nat → Nat) : Nat → Nat
  | 0 => 0
  | n + 1 => val f n + f n * 4294967296 ^ n

theorem pow_pos' (n : Nat) : 0 < 4294967296 ^ n := Nat.pos_of_ne_zero (by simp)
theorem pow_s (n : Nat) : 4294967296 ^ (n + 1) = 4294967296 * 4294967296 ^ n := by rw [Nat.pow_succ, Nat.mul_comm]

theorem val_lt {f : Nat → Nat} (hf : ∀ i, f i < 4294967296) (n : Nat) : val f n < 4294967296 ^ n := by
  induction n with
  | zero => simp [val]
  | succ n ih =>
    unfold val
    rw [pow_s]
    have h := hf n
    have h2 : f n * 4294967296 ^ n ≤ 4294967295 * 4294967296 ^ n := Nat.mul_le_mul_right _ (by omega)
    generalize 4294967296 ^ n = p at *
    generalize f n * p = q at *
    omega

theorem val_congr {f g : Nat → Nat} {n : Nat} (h : ∀ i, i < n → f i = g i) : val f n = val g n := by
  induction n with
  | zero => rfl
  | succ n ih => unfold val; rw [ih (fun i hi => h i (by omega)), h n (by omega)]

theorem val_zeros {f : Nat → Nat} {k n : Nat} (hk : k ≤ n) (h : ∀ i, k ≤ i → i < n → f i = 0) : val f n = val f k := by
  induction n with
  | zero => have : k = 0 := by omega
            subst this; rfl
  | succ n ih =>
    by_cases e : k = n + 1
    · subst e; rfl
    · show val f n + f n * 4294967296 ^ n = val f k
      rw [h n (by omega) (by omega), Nat.zero_mul, Nat.add_zero]
      exact ih (by omega) (fun i h1 h2 => h i h1 (by omega))

theorem val_inj {f g : Nat → Nat} (hf : ∀ i, f i < 4294967296) (hg : ∀ i, g i < 4294967296) : ∀ n, val f n = val g n → ∀ i, i < n → f i = g i := by
  intro n
  induction n with
  | zero => intro _ i hi; omega
  | succ n ih =>
    intro h i hi
    unfold val at h
    have h1 := val_lt hf n
    have h2 := val_lt hg n
    have hp := pow_pos' n
    have e : f n = g n := by
      rcases Nat.lt_trichotomy (f n) (g n) with hlt | heq | hgt
      · exfalso
        have : (f n + 1) * 4294967296 ^ n ≤ g n * 4294967296 ^ n := Nat.mul_le_mul_right _ (by omega)
        rw [Nat.add_mul, Nat.one_mul] at this
        generalize 4294967296 ^ n = p at *
        omega
      · exact heq
      · exfalso
        have : (g n + 1) * 4294967296 ^ n ≤ f n * 4294967296 ^ n := Nat.mul_le_mul_right _ (by omega)
        rw [Nat.add_mul, Nat.one_mul] at this
        generalize 4294967296 ^ n = p at *
        omega
    by_cases hin : i = n
    · rw [hin]; exact e
    · refine ih ?_ i (by omega)
      rw [e] at h
      omega

theorem trimN_zero (f : Nat → Nat) (n i : Nat) (h1 : trimN f n ≤ i) (h2 : i < n) : f i = 0 := by
  induction n with
  | zero => omega
  | succ n ih =>
    unfold trimN at h1
    by_cases h : f n = 0
    · rw [if_pos h] at h1
      by_cases e : i = n
      · rw [e]; exact h
      · exact ih h1 (by omega)
    · rw [if_neg h] at h1; omega
theorem trimN_top (f : Nat → Nat) (n : Nat) (h : 0 < trimN f n) : f (trimN f n - 1) ≠ 0 := by
  induction n with
  | zero => simp [trimN] at h
  | succ n ih =>
    unfold trimN at h ⊢
    by_cases e : f n = 0
    · rw [if_pos e] at h ⊢; exact ih h
    · rw [if_neg e]; exact e
theorem val_trim (f : Nat → Nat) (n : Nat) : val f (trimN f n) = val f n := (val_zeros (trimN_le f n) (fun i h1 h2 => trimN_zero f n i h1 h2)).symm

/-- Limbs without a 0 on top: the number says how many there are, and which. -/
theorem val_top {f : Nat → Nat} {n : Nat} (h : f n ≠ 0) : 4294967296 ^ n ≤ val f (n + 1) := by
  unfold val
  have : 1 * 4294967296 ^ n ≤ f n * 4294967296 ^ n := Nat.mul_le_mul_right _ (by omega)
  omega
theorem norm_unique {f g : Nat → Nat} (hf : ∀ i, f i < 4294967296) (hg : ∀ i, g i < 4294967296) {n m : Nat} (hn : 0 < n → f (n - 1) ≠ 0) (hm : 0 < m → g (m - 1) ≠ 0) (h : val f n = val g m) : n = m ∧ ∀ i, i < n → f i = g i := by
  have key : ∀ {f g : Nat → Nat} {n m : Nat}, (∀ i, g i < 4294967296) → (0 < n → f (n - 1) ≠ 0) → val f n = val g m → ¬ m < n := by
    intro f g n m hg hn h hlt
    obtain ⟨k, rfl⟩ : ∃ k, n = k + 1 := ⟨n - 1, by omega⟩
    have h1 := val_top (hn (by omega))
    have h2 := val_lt hg m
    have h3 : 4294967296 ^ m ≤ 4294967296 ^ k := Nat.pow_le_pow_right (by decide) (by omega)
    simp only [Nat.add_sub_cancel] at h1
    omega
  have e : n = m := by
    have h1 := key hg hn h
    have h2 := key hf hm h.symm
    omega
  subst e
  exact ⟨rfl, val_inj hf hg n h⟩

theorem val_add (F G : Nat → Nat) (k : Nat) : val (addD F G) k + addC F G k * 4294967296 ^ k = val F k + val G k := by
  induction k with
  | zero => simp [val, addC]
  | succ k ih =>
    have e : addC F G (k + 1) * 4294967296 + addD F G k = addC F G k + (F k + G k) := by
      show (addC F G k + (F k + G k)) / 4294967296 * 4294967296 + (addC F G k + (F k + G k)) % 4294967296 = _
      omega
    have e2 := congrArg (· * 4294967296 ^ k) e
    simp only [Nat.add_mul] at e2
    unfold val
    rw [pow_s]
    rw [show addC F G (k + 1) * (4294967296 * 4294967296 ^ k) = addC F G (k + 1) * 4294967296 * 4294967296 ^ k from by rw [Nat.mul_assoc]]
    omega

theorem val_sub (F G : Nat → Nat) (hF : ∀ i, F i < 4294967296) (hG : ∀ i, G i < 4294967296) (k : Nat) : val (subD F G) k + val G k = val F k + subB F G k * 4294967296 ^ k := by
  induction k with
  | zero => simp [val, subB]
  | succ k ih =>
    have hb := subB_le F G k
    have h1 := hF k
    have h2 := hG k
    have e : subD F G k + G k + subB F G k = F k + subB F G (k + 1) * 4294967296 := by
      show (F k + 4294967296 - G k - subB F G k) % 4294967296 + G k + subB F G k = F k + (if F k < G k + subB F G k then 1 else 0) * 4294967296
      split <;> omega
    have e2 := congrArg (· * 4294967296 ^ k) e
    simp only [Nat.add_mul] at e2
    unfold val
    rw [pow_s]
    rw [show subB F G (k + 1) * (4294967296 * 4294967296 ^ k) = subB F G (k + 1) * 4294967296 * 4294967296 ^ k from by rw [Nat.mul_assoc]]
    omega

theorem cmpF_val {F G : Nat → Nat} (hF : ∀ i, F i < 4294967296) (hG : ∀ i, G i < 4294967296) (k : Nat) : (cmpF F G k = -1 ↔ val F k < val G k) ∧ (cmpF F G k = 1 ↔ val G k < val F k) ∧ (cmpF F G k = 0 ↔ val F k = val G k) := by
  induction k with
  | zero => simp [cmpF, val]
  | succ k ih =>
    have h1 := val_lt hF k
    have h2 := val_lt hG k
    unfold cmpF val
    by_cases hlt : F k < G k
    · have : (F k + 1) * 4294967296 ^ k ≤ G k * 4294967296 ^ k := Nat.mul_le_mul_right _ (by omega)
      rw [Nat.add_mul, Nat.one_mul] at this
      rw [if_pos hlt]
      generalize 4294967296 ^ k = p at *
      omega
    · by_cases hgt : G k < F k
      · have : (G k + 1) * 4294967296 ^ k ≤ F k * 4294967296 ^ k := Nat.mul_le_mul_right _ (by omega)
        rw [Nat.add_mul, Nat.one_mul] at this
        rw [if_neg hlt, if_pos hgt]
        generalize 4294967296 ^ k = p at *
        omega
      · have e : F k = G k := by omega
        rw [if_neg hlt, if_neg hgt, e]
        omega

theorem val_mulIn (F G : Nat → Nat) (i : Nat) (P : Nat → Nat) (k : Nat) : val (mulIn F G i P k) (i + k) + mulC F G i P k * 4294967296 ^ (i + k) = val P (i + k) + F i * 4294967296 ^ i * val G k := by
  induction k with
  | zero => rw [mulIn_zero]; simp [mulC, val]
  | succ k ih =>
    have e : mulC F G i P (k + 1) * 4294967296 + mulD F G i P k = mulC F G i P k + (P (i + k) + F i * G k) := by
      show (mulC F G i P k + (P (i + k) + F i * G k)) / 4294967296 * 4294967296 + (mulC F G i P k + (P (i + k) + F i * G k)) % 4294967296 = _
      omega
    have h0 : val (mulIn F G i P (k + 1)) (i + k) = val (mulIn F G i P k) (i + k) := val_congr (fun x hx => by
      rw [← mulIn_upd]; unfold upd; rw [if_neg (by omega)])
    have h1 : mulIn F G i P (k + 1) (i + k) = mulD F G i P k := by rw [← mulIn_upd]; unfold upd; rw [if_pos rfl]
    show val (mulIn F G i P (k + 1)) (i + k + 1) + _ = val P (i + k + 1) + _
    unfold val
    rw [h0, h1]
    have e2 := congrArg (· * 4294967296 ^ (i + k)) e
    simp only [Nat.add_mul] at e2
    rw [show i + (k + 1) = i + k + 1 from rfl, pow_s]
    rw [show mulC F G i P (k + 1) * (4294967296 * 4294967296 ^ (i + k)) = mulC F G i P (k + 1) * 4294967296 * 4294967296 ^ (i + k) from by rw [Nat.mul_assoc]]
    rw [Nat.mul_add]
    have e3 : F i * 4294967296 ^ i * (G k * 4294967296 ^ k) = F i * G k * 4294967296 ^ (i + k) := by
      rw [Nat.pow_add]
      simp only [Nat.mul_assoc, Nat.mul_left_comm]
    rw [e3]
    omega

theorem val_mulP {F G : Nat → Nat} (m : Nat) (i : Nat) : val (mulP F G m i) (i + m) = val F i * val G m := by
  induction i with
  | zero =>
    rw [show val F 0 = 0 from rfl, Nat.zero_mul, Nat.zero_add]
    exact val_zeros (f := mulP F G m 0) (Nat.zero_le m) (fun _ _ _ => rfl)
  | succ i ih =>
    have h := val_mulIn F G i (mulP F G m i) m
    show val (mulRow F G m i (mulP F G m i)) (i + 1 + m) = (val F i + F i * 4294967296 ^ i) * val G m
    rw [show i + 1 + m = i + m + 1 from by omega, Nat.add_mul, ← ih, ← h]
    show val (mulRow F G m i (mulP F G m i)) (i + m) + mulRow F G m i (mulP F G m i) (i + m) * 4294967296 ^ (i + m) = _
    have h1 : mulRow F G m i (mulP F G m i) (i + m) = mulC F G i (mulP F G m i) m := by unfold mulRow upd; rw [if_pos rfl]
    have h2 : val (mulRow F G m i (mulP F G m i)) (i + m) = val (mulIn F G i (mulP F G m i) m) (i + m) := val_congr (fun x hx => by
      unfold mulRow upd; rw [if_neg (by omega)])
    rw [h1, h2]

end Go.Proofs.Ytpcnmolncoaddaa
