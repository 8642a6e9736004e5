import Derived.Test.YtpcnmolncoaddaaLong3
import Derived.Test.YtpcnmolncoaddaaLong4
namespace Go.Proofs.Ytpcnmolncoaddaa
open Go.RowKit Go.Joins

/-- What the long division holds when t limbs of the quotient are still to come: N shifted is the divisor times what is found, and what is left. -/
structure Left (R Q V : Nat → Nat) (n K t N2 : Nat) : Prop where
  lt : ∀ i, R i < 4294967296
  qlt : ∀ i, Q i < 4294967296
  zero : ∀ i, t + n ≤ i → R i = 0
  low : ∀ i, i < t → Q i = 0
  high : ∀ i, K ≤ i → Q i = 0
  sum : N2 = val V n * val Q K + val R (t + n)
  less : val R (t + n) < val V n * 4294967296 ^ t

theorem val_upd (Q : Nat → Nat) (a q K : Nat) (h : a < K) (h0 : Q a = 0) : val (upd Q a q) K = val Q K + q * 4294967296 ^ a := by
  induction K with
  | zero => omega
  | succ K ih =>
    show val (upd Q a q) K + upd Q a q K * 4294967296 ^ K = val Q K + Q K * 4294967296 ^ K + q * 4294967296 ^ a
    by_cases e : a = K
    · subst e
      rw [val_congr (g := Q) (fun i hi => by unfold upd; rw [if_neg (by omega)]), show upd Q a q a = q by simp [upd], h0]
      omega
    · rw [ih (by omega), show upd Q a q K = Q K by unfold upd; rw [if_neg (by omega)]]
      omega

theorem val_one (f : Nat → Nat) (k : Nat) : val f (k + 1) = val f k + f k * 4294967296 ^ k := rfl

/-- The part of the rest that a round looks at. -/
theorem Left.part {R Q V : Nat → Nat} {n K a N2 : Nat} (h : Left R Q V n K (a + 1) N2) : val R (a + 1 + n) = val R a + val (fromAt R a) (n + 1) * 4294967296 ^ a ∧ val (fromAt R a) (n + 1) < val V n * 4294967296 := by
  have e : val R (a + 1 + n) = val R a + val (fromAt R a) (n + 1) * 4294967296 ^ a := by
    rw [show a + 1 + n = a + (n + 1) by omega, val_split]
  refine ⟨e, ?_⟩
  have hl := h.less
  rw [e, pow_s, ← Nat.mul_assoc] at hl
  have hp := pow_pos' a
  apply Decidable.byContradiction
  intro hn
  have : val V n * 4294967296 * 4294967296 ^ a ≤ val (fromAt R a) (n + 1) * 4294967296 ^ a := Nat.mul_le_mul_right _ (by omega)
  omega

/-- A round: the limb is the quotient of that part, and D is what is left of it. -/
theorem Left.round {R Q V D : Nat → Nat} {n K a N2 : Nat} (h : Left R Q V n K (a + 1) N2) (hV : 0 < val V n) (hVn : val V n < 4294967296 ^ n) (haK : a < K) (hD : ∀ i, D i < 4294967296) (hDv : val D (n + 1) = val (fromAt R a) (n + 1) % val V n) :
    Left (put R D a (n + 1)) (upd Q a (val (fromAt R a) (n + 1) / val V n)) V n K a N2 := by
  obtain ⟨e, hU⟩ := h.part
  generalize hUU : val (fromAt R a) (n + 1) = U at *
  have hmod : U % val V n < val V n := Nat.mod_lt _ hV
  have hDn : D n = 0 := by
    have h1 := val_one D n
    rw [hDv] at h1
    have hp := pow_pos' n
    apply Decidable.byContradiction
    intro hn
    have : 1 * 4294967296 ^ n ≤ D n * 4294967296 ^ n := Nat.mul_le_mul_right _ (by omega)
    omega
  have hz : ∀ i, a + n ≤ i → put R D a (n + 1) i = 0 := by
    intro i hi
    unfold put
    by_cases hx : a ≤ i ∧ i < a + (n + 1)
    · rw [if_pos hx, show i - a = n by omega, hDn]
    · rw [if_neg hx, h.zero i (by omega)]
  have hval : val (put R D a (n + 1)) (a + n) = val R a + (U % val V n) * 4294967296 ^ a := by
    have e1 : val (put R D a (n + 1)) (a + (n + 1)) = val (put R D a (n + 1)) (a + n) := by
      rw [show a + (n + 1) = a + n + 1 by omega, val_one, hz (a + n) (Nat.le_refl _)]
      omega
    rw [← e1, val_split, val_congr (g := R) (fun i hi => by unfold put; rw [if_neg (by omega)]), val_congr (f := fromAt (put R D a (n + 1)) a) (g := D) (fun i hi => put_from R D a (n + 1) i hi), hDv]
  refine ⟨?_, ?_, hz, ?_, ?_, ?_, ?_⟩
  · intro i
    unfold put
    split
    · exact hD _
    · exact h.lt i
  · intro i
    unfold upd
    split
    · rw [Nat.div_lt_iff_lt_mul hV, Nat.mul_comm]
      exact hU
    · exact h.qlt i
  · intro i hi
    unfold upd
    rw [if_neg (by omega)]
    exact h.low i (by omega)
  · intro i hi
    unfold upd
    rw [if_neg (by omega)]
    exact h.high i hi
  · rw [val_upd Q a _ K haK (h.low a (by omega)), hval, h.sum, e, Nat.mul_add]
    have hdm : val V n * (U / val V n) + U % val V n = U := Nat.div_add_mod U (val V n)
    have e2 : U * 4294967296 ^ a = val V n * (U / val V n * 4294967296 ^ a) + U % val V n * 4294967296 ^ a := by
      rw [← Nat.mul_assoc, ← Nat.add_mul, hdm]
    omega
  · rw [hval]
    have hlo := val_lt h.lt a
    have h1 : U % val V n * 4294967296 ^ a + 4294967296 ^ a ≤ val V n * 4294967296 ^ a := by
      rw [← Nat.succ_mul]
      exact Nat.mul_le_mul_right _ hmod
    omega

/-- Limbs shifted down. -/
theorem val_dn {f : Nat → Nat} (hf : ∀ i, f i < 4294967296) (sh : Nat) (hsh : sh ≤ 31) (k : Nat) : val (dnD f sh) k = (val f (k + 1) / 2 ^ sh) % 4294967296 ^ k := by
  have hD : 0 < 2 ^ sh := Nat.pos_of_ne_zero (by simp)
  have hE : 2 ^ sh * 2 ^ (32 - sh) = 4294967296 := by rw [← Nat.pow_add, show sh + (32 - sh) = 32 by omega]
  induction k with
  | zero => rw [Nat.pow_zero, Nat.mod_one]; rfl
  | succ k ih =>
    have hp := pow_pos' k
    have lk := val_lt hf k
    have hquo : val f (k + 1) / 2 ^ sh / 4294967296 ^ k = f k / 2 ^ sh := by
      rw [Nat.div_div_eq_div_mul, Nat.mul_comm, ← Nat.div_div_eq_div_mul]
      congr 1
      rw [val_one, Nat.add_mul_div_right _ _ hp, Nat.div_eq_of_lt lk, Nat.zero_add]
    have hY : val f (k + 1 + 1) / 2 ^ sh = val f (k + 1) / 2 ^ sh + f (k + 1) * 2 ^ (32 - sh) * 4294967296 ^ k := by
      rw [val_one f (k + 1), pow_s k]
      have hx : ∀ x E D P : Nat, x * (D * E * P) = x * E * P * D := fun x E D P => by ac_rfl
      have : f (k + 1) * (4294967296 * 4294967296 ^ k) = f (k + 1) * 2 ^ (32 - sh) * 4294967296 ^ k * 2 ^ sh := by
        rw [← hx (f (k + 1)) (2 ^ (32 - sh)) (2 ^ sh) (4294967296 ^ k), hE]
      rw [this, Nat.add_mul_div_right _ _ hD]
    have hd : dnD f sh k = (f (k + 1) * 2 ^ (32 - sh) + f k / 2 ^ sh) % 4294967296 := by
      unfold dnD
      have : f (k + 1) * 4294967296 + f k = f k + f (k + 1) * 2 ^ (32 - sh) * 2 ^ sh := by
        rw [Nat.mul_assoc, Nat.mul_comm (2 ^ (32 - sh)) (2 ^ sh), hE]; omega
      rw [this, Nat.add_mul_div_right _ _ hD, Nat.add_comm]
    show val (dnD f sh) k + dnD f sh k * 4294967296 ^ k = _
    rw [ih, hY, hd]
    have hZ : val f (k + 1) / 2 ^ sh = 4294967296 ^ k * (f k / 2 ^ sh) + val f (k + 1) / 2 ^ sh % 4294967296 ^ k := by
      rw [← hquo]; exact (Nat.div_add_mod _ _).symm
    generalize hz : val f (k + 1) / 2 ^ sh % 4294967296 ^ k = z at *
    have hzl : z < 4294967296 ^ k := by rw [← hz]; exact Nat.mod_lt _ hp
    rw [hZ]
    generalize f k / 2 ^ sh = x at *
    generalize f (k + 1) * 2 ^ (32 - sh) = y at *
    have e3 : 4294967296 ^ k * x + z + y * 4294967296 ^ k = z + 4294967296 ^ k * (y + x) := by
      rw [Nat.mul_add, Nat.mul_comm y]; omega
    rw [e3, Nat.pow_succ, Nat.mod_mul, Nat.add_mul_mod_self_left, Nat.mod_eq_of_lt hzl, Nat.add_mul_div_left _ _ hp, Nat.div_eq_of_lt hzl, Nat.zero_add, Nat.mul_comm]

/-- What the guess, the taking away and the giving back make of that part. -/
theorem took {M V : Nat → Nat} {m : Nat} (hM : ∀ i, M i < 4294967296) (hV : ∀ i, V i < 4294967296) (hVn : V (m + 2) = 0) (hv : 2147483648 ≤ V (m + 1)) (hU : val M (m + 3) < val V (m + 2) * 4294967296) (g : Nat)
    (hg : g = guessG ((M (m + 2) * 4294967296 + M (m + 1)) * 4294967296 + M m) (V (m + 1) * 4294967296 + V m)) :
    (subB M (scD V g 0) (m + 3) = 0 ∧ g = val M (m + 3) / val V (m + 2) ∧ val (subD M (scD V g 0)) (m + 3) = val M (m + 3) % val V (m + 2)) ∨
    (subB M (scD V g 0) (m + 3) = 1 ∧ 0 < g ∧ g - 1 = val M (m + 3) / val V (m + 2) ∧ val (addD (subD M (scD V g 0)) V) (m + 3) = val M (m + 3) % val V (m + 2)) := by
  have hgl : g < 4294967296 := by rw [hg]; exact guessG_lt _ _
  have hP : 0 < 4294967296 ^ m := pow_pos' m
  have hV2 : 0 < val V (m + 2) := by
    have e := val_one V (m + 1)
    have : 1 * 4294967296 ^ (m + 1) ≤ V (m + 1) * 4294967296 ^ (m + 1) := Nat.mul_le_mul_right _ (by omega)
    have := pow_pos' (m + 1)
    show 0 < val V (m + 1 + 1)
    omega
  -- the top limbs
  have eU : val M (m + 3) = val M m + ((M (m + 2) * 4294967296 + M (m + 1)) * 4294967296 + M m) * 4294967296 ^ m := by
    show val M m + M m * 4294967296 ^ m + M (m + 1) * 4294967296 ^ (m + 1) + M (m + 2) * 4294967296 ^ (m + 1 + 1) = _
    rw [pow_s (m + 1), pow_s m, ← Nat.mul_assoc, ← Nat.mul_assoc, ← Nat.mul_assoc, Nat.add_mul, Nat.add_mul, Nat.add_mul]
    omega
  have eV : val V (m + 2) = val V m + (V (m + 1) * 4294967296 + V m) * 4294967296 ^ m := by
    show val V m + V m * 4294967296 ^ m + V (m + 1) * 4294967296 ^ (m + 1) = _
    rw [pow_s m, ← Nat.mul_assoc, Nat.add_mul]
    omega
  have lM := val_lt hM m
  have lV := val_lt hV m
  have hprod : val (scD V g 0) (m + 3) = val V (m + 2) * g := by
    have e := val_sc V g 0 (m + 3)
    have hc := scC_lt hV hgl (by omega : (0 : Nat) < 4294967296) (m + 2)
    have h0 : scC V g 0 (m + 3) = 0 := by
      show (scC V g 0 (m + 2) + V (m + 2) * g) / 4294967296 = 0
      rw [hVn, Nat.zero_mul]
      omega
    have h1 : val V (m + 3) = val V (m + 2) := by
      rw [show m + 3 = m + 2 + 1 from rfl, val_one, hVn]; omega
    rw [h0, h1] at e
    omega
  have hsub := val_sub M (scD V g 0) hM (scD_lt V g 0) (m + 3)
  rw [hprod] at hsub
  have hsl : ∀ i, subD M (scD V g 0) i < 4294967296 := fun i => Nat.mod_lt _ (by decide)
  have hs3 := val_lt hsl (m + 3)
  have hb1 := subB_le M (scD V g 0) (m + 3)
  have hq1 : val M (m + 3) / val V (m + 2) * val V (m + 2) ≤ val M (m + 3) := Nat.div_mul_le_self _ _
  have hq2 : val M (m + 3) < (val M (m + 3) / val V (m + 2) + 1) * val V (m + 2) := by
    have := Nat.lt_div_mul_add (a := val M (m + 3)) hV2
    rw [Nat.add_mul]; omega
  have hdm : val V (m + 2) * (val M (m + 3) / val V (m + 2)) + val M (m + 3) % val V (m + 2) = val M (m + 3) := Nat.div_add_mod _ _
  have hmod : val M (m + 3) % val V (m + 2) < val V (m + 2) := Nat.mod_lt _ hV2
  obtain ⟨U3, hU3⟩ : ∃ U3, U3 = (M (m + 2) * 4294967296 + M (m + 1)) * 4294967296 + M m := ⟨_, rfl⟩
  obtain ⟨W2, hW2⟩ : ∃ W2, W2 = V (m + 1) * 4294967296 + V m := ⟨_, rfl⟩
  rw [← hU3, ← hW2] at hg
  rw [← hU3] at eU
  rw [← hW2] at eV
  have hqle : val M (m + 3) / val V (m + 2) ≤ g := by
    rw [hg]
    refine guessG_le (by omega) ?_ (guess_le (P := 4294967296 ^ m) ?_ ?_ hq1)
    · have : val M (m + 3) / val V (m + 2) < 4294967296 := by
        rw [Nat.div_lt_iff_lt_mul hV2, Nat.mul_comm]; exact hU
      omega
    · rw [eU, Nat.add_mul]; omega
    · rw [eV]; omega
  have hgle : g ≤ val M (m + 3) / val V (m + 2) + 1 := by
    refine guess_ge (P := 4294967296 ^ m) (U3 := U3) (V2 := W2) ?_ ?_ hq2 ?_ ?_
    · rw [eU]; omega
    · rw [eV, Nat.add_mul]; omega
    · rw [hg]; exact guessG_mul _ _
    · omega
  have hVB : val V (m + 2) < 4294967296 ^ (m + 2) := val_lt hV (m + 2)
  have hpp : 4294967296 ^ (m + 3) = 4294967296 * 4294967296 ^ (m + 2) := pow_s (m + 2)
  generalize val M (m + 3) / val V (m + 2) = q at *
  generalize val M (m + 3) % val V (m + 2) = r at *
  clear eU eV hg lM lV hU3 hW2 hq1 hq2
  by_cases hx : g = q
  · left
    subst hx
    have h0 : subB M (scD V g 0) (m + 3) = 0 := by
      apply Decidable.byContradiction
      intro hn
      have h1 : subB M (scD V g 0) (m + 3) = 1 := by omega
      rw [h1] at hsub
      omega
    refine ⟨h0, rfl, ?_⟩
    rw [h0] at hsub
    omega
  · right
    have hx2 : g = q + 1 := by omega
    subst hx2
    have e1 : val V (m + 2) * (q + 1) = val V (m + 2) * q + val V (m + 2) := by rw [Nat.mul_add, Nat.mul_one]
    have h1 : subB M (scD V (q + 1) 0) (m + 3) = 1 := by
      apply Decidable.byContradiction
      intro hn
      have h0 : subB M (scD V (q + 1) 0) (m + 3) = 0 := by omega
      rw [h0] at hsub
      omega
    refine ⟨h1, by omega, by omega, ?_⟩
    rw [h1] at hsub
    have hadd := val_add (subD M (scD V (q + 1) 0)) V (m + 3)
    have hal : ∀ i, addD (subD M (scD V (q + 1) 0)) V i < 4294967296 := fun i => Nat.mod_lt _ (by decide)
    have ha3 := val_lt hal (m + 3)
    have hac := addC_le hsl hV (m + 3)
    have hv3 : val V (m + 3) = val V (m + 2) := by rw [show m + 3 = m + 2 + 1 from rfl, val_one, hVn]; omega
    rw [hv3] at hadd
    have : addC (subD M (scD V (q + 1) 0)) V (m + 3) = 0 ∨ addC (subD M (scD V (q + 1) 0)) V (m + 3) = 1 := by omega
    rcases this with h | h
    · rw [h] at hadd; omega
    · rw [h] at hadd; omega

end Go.Proofs.Ytpcnmolncoaddaa
