import Derived.Test.YtpcnmolncoaddaaLongM
import Derived.Test.YtpcnmolncoaddaaRead5
namespace Go.Proofs.Ytpcnmolncoaddaa
open Go.RowKit Go.Joins

/-- The divisor's limbs, shifted until the top bit is set: as many as before. -/
theorem up_divisor {G : Nat → Nat} {m sh : Nat} (hsh : sh ≤ 31) (hG : ∀ i, G i < 4294967296) (h1 : 2147483648 ≤ G (m + 1) * 2 ^ sh) (h2 : G (m + 1) * 2 ^ sh < 4294967296) (h0 : G (m + 2) = 0) :
    scC G (2 ^ sh) 0 (m + 2) = 0 ∧ scD G (2 ^ sh) 0 (m + 2) = 0 ∧ 2147483648 ≤ scD G (2 ^ sh) 0 (m + 1) ∧ trimN (scD G (2 ^ sh) 0) (m + 3) = m + 2 ∧ val (scD G (2 ^ sh) 0) (m + 2) = val G (m + 2) * 2 ^ sh := by
  have hc := upC_lt hG sh (m + 1)
  have hsum : scC G (2 ^ sh) 0 (m + 1) + G (m + 1) * 2 ^ sh < 4294967296 := by
    have hE : 2 ^ (32 - sh) * 2 ^ sh = 4294967296 := by rw [← Nat.pow_add, show 32 - sh + sh = 32 by omega]
    have h3 : G (m + 1) * 2 ^ sh < 2 ^ (32 - sh) * 2 ^ sh := by rw [hE]; exact h2
    have h4 := Nat.lt_of_mul_lt_mul_right h3
    have h5 : (G (m + 1) + 1) * 2 ^ sh ≤ 2 ^ (32 - sh) * 2 ^ sh := Nat.mul_le_mul_right _ h4
    rw [hE, Nat.add_mul] at h5
    omega
  have e1 : scC G (2 ^ sh) 0 (m + 2) = 0 := by
    show (scC G (2 ^ sh) 0 (m + 1) + G (m + 1) * 2 ^ sh) / 4294967296 = 0
    omega
  have e2 : scD G (2 ^ sh) 0 (m + 2) = 0 := by
    show (scC G (2 ^ sh) 0 (m + 2) + G (m + 2) * 2 ^ sh) % 4294967296 = 0
    rw [e1, h0, Nat.zero_mul]
  have e3 : scD G (2 ^ sh) 0 (m + 1) = scC G (2 ^ sh) 0 (m + 1) + G (m + 1) * 2 ^ sh := Nat.mod_eq_of_lt hsum
  refine ⟨e1, e2, by omega, ?_, ?_⟩
  · show (if scD G (2 ^ sh) 0 (m + 2) = 0 then trimN (scD G (2 ^ sh) 0) (m + 2) else _) = _
    rw [if_pos e2]
    show (if scD G (2 ^ sh) 0 (m + 1) = 0 then _ else m + 1 + 1) = _
    rw [if_neg (by omega)]
  · have := val_sc G (2 ^ sh) 0 (m + 2)
    rw [e1] at this
    omega

theorem put_put (R D X : Nat → Nat) (a k : Nat) : put (put R D a k) X a k = put R X a k := by
  funext i
  unfold put
  split <;> rfl
theorem put_congr {R X X' : Nat → Nat} {a k : Nat} (h : ∀ i, i < k → X i = X' i) : put R X a k = put R X' a k := by
  funext i
  unfold put
  split
  · exact h _ (by omega)
  · rfl
theorem addC_congr {F F' G : Nat → Nat} {k : Nat} (h : ∀ i, i < k → F i = F' i) : addC F G k = addC F' G k := by
  induction k with
  | zero => rfl
  | succ k ih =>
    show (addC F G k + (F k + G k)) / 4294967296 = (addC F' G k + (F' k + G k)) / 4294967296
    rw [ih (fun i hi => h i (by omega)), h k (by omega)]
theorem addD_congr {F F' G : Nat → Nat} {k : Nat} (h : ∀ i, i < k → F i = F' i) (i : Nat) (hi : i < k) : addD F G i = addD F' G i := by
  unfold addD
  rw [addC_congr (fun j hj => h j (by omega)), h i hi]

theorem top_le {R V : Nat → Nat} {a m : Nat} (h : val (fromAt R a) (m + 2 + 1) < val V (m + 2) * 4294967296) (_hR : ∀ i, R i < 4294967296) (hV : ∀ i, V i < 4294967296) : R (a + (m + 2)) ≤ V (m + 1) := by
  have e1 : R (a + (m + 2)) * 4294967296 ^ (m + 2) ≤ val (fromAt R a) (m + 2 + 1) := by
    show _ ≤ val (fromAt R a) (m + 2) + R (a + (m + 2)) * 4294967296 ^ (m + 2)
    omega
  have lv := val_lt hV (m + 1)
  have e2 : val V (m + 2) < (V (m + 1) + 1) * 4294967296 ^ (m + 1) := by
    show val V (m + 1) + V (m + 1) * 4294967296 ^ (m + 1) < _
    rw [Nat.add_mul]; omega
  have e3 : val V (m + 2) * 4294967296 < (V (m + 1) + 1) * 4294967296 ^ (m + 2) := by
    rw [pow_s (m + 1), Nat.mul_comm 4294967296, ← Nat.mul_assoc]
    omega
  have e4 : R (a + (m + 2)) * 4294967296 ^ (m + 2) < (V (m + 1) + 1) * 4294967296 ^ (m + 2) := by omega
  have := Nat.lt_of_mul_lt_mul_right e4
  omega

theorem divisor_facts {G V : Nat → Nat} {m sh M : Nat} (hM : Norm G (m + 2) M)
    (hT : scC G (2 ^ sh) 0 (m + 2) = 0 ∧ scD G (2 ^ sh) 0 (m + 2) = 0 ∧ 2147483648 ≤ scD G (2 ^ sh) 0 (m + 1) ∧ trimN (scD G (2 ^ sh) 0) (m + 3) = m + 2 ∧ val (scD G (2 ^ sh) 0) (m + 2) = val G (m + 2) * 2 ^ sh)
    (hV : V = ext (m + 3) (scD G (2 ^ sh) 0)) : (∀ i, V i < 4294967296) ∧ V (m + 2) = 0 ∧ 2147483648 ≤ V (m + 1) ∧ val V (m + 2) = M * 2 ^ sh ∧ 0 < val V (m + 2) ∧ val V (m + 2) < 4294967296 ^ (m + 2) := by
  have hl : ∀ i, V i < 4294967296 := by
    intro i
    rw [hV]
    unfold ext
    split
    · exact scD_lt _ _ _ _
    · omega
  have hv : val V (m + 2) = M * 2 ^ sh := by
    rw [hV, val_congr (g := scD G (2 ^ sh) 0) (fun i hi => by unfold ext; rw [if_pos (by omega)]), hT.2.2.2.2, hM.val]
  have hp : 0 < M := by
    have hMt := val_top (n := m + 1) (hM.top (by omega))
    rw [show m + 1 + 1 = m + 2 from rfl, hM.val] at hMt
    have := pow_pos' (m + 1)
    omega
  have h2 : 0 < 2 ^ sh := Nat.pos_of_ne_zero (by simp)
  refine ⟨hl, ?_, ?_, hv, ?_, val_lt hl _⟩
  · rw [hV]; unfold ext; rw [if_pos (by omega)]; exact hT.2.1
  · rw [hV]; unfold ext; rw [if_pos (by omega)]; exact hT.2.2.1
  · rw [hv]; exact Nat.mul_pos hp h2

theorem left_start {F G V R0 : Nat → Nat} {nA m sh N M : Nat} (hN : Norm F nA N) (hM : Norm G (m + 2) M) (hle : m + 2 ≤ nA) (hv : val (scD G (2 ^ sh) 0) (m + 2) = val G (m + 2) * 2 ^ sh) (hR0 : R0 = ext (nA + 1) (scD F (2 ^ sh) 0)) (hV : V = ext (m + 3) (scD G (2 ^ sh) 0)) (hsh : sh ≤ 31) :
    Left R0 (fun _ => 0) V (m + 2) (nA - m - 1) (nA - m - 1) (N * 2 ^ sh) := by
  have hvV : val V (m + 2) = M * 2 ^ sh := by
    rw [hV, val_congr (g := scD G (2 ^ sh) 0) (fun i hi => by unfold ext; rw [if_pos (by omega)]), hv, hM.val]
  have h2 : 0 < 2 ^ sh := Nat.pos_of_ne_zero (by simp)
  have hR : val R0 (nA + 1) = N * 2 ^ sh := by
    rw [hR0, val_congr (g := scD F (2 ^ sh) 0) (fun i hi => by unfold ext; rw [if_pos (by omega)])]
    have e := val_sc F (2 ^ sh) 0 (nA + 1)
    have hc := upC_lt hN.lt sh nA
    have h32 : 2 ^ sh ≤ 2 ^ 31 := Nat.pow_le_pow_right (by decide) hsh
    have h0 : scC F (2 ^ sh) 0 (nA + 1) = 0 := by
      show (scC F (2 ^ sh) 0 nA + F nA * 2 ^ sh) / 4294967296 = 0
      rw [hN.zero nA (Nat.le_refl _), Nat.zero_mul]
      generalize 2 ^ sh = D at *
      omega
    rw [h0, val_one F nA, hN.zero nA (Nat.le_refl _), hN.val, Nat.zero_mul, Nat.zero_mul, Nat.add_zero, Nat.add_zero, Nat.add_zero] at e
    omega
  have ek : nA - m - 1 + (m + 2) = nA + 1 := by omega
  have z0 : ∀ k, val (fun _ => 0) k = 0 := by
    intro k
    induction k with
    | zero => rfl
    | succ k ih => rw [val_one, ih]; omega
  refine ⟨fun i => ?_, fun i => by omega, fun i hi => ?_, fun i _ => rfl, fun i _ => rfl, ?_, ?_⟩
  · rw [hR0]
    unfold ext
    split
    · exact scD_lt _ _ _ _
    · omega
  · rw [hR0]
    unfold ext
    rw [if_neg (by omega)]
  · rw [z0, Nat.mul_zero, ek, hR]; omega
  · rw [ek, hR, hvV]
    have hNl := val_lt hN.lt nA
    rw [hN.val] at hNl
    have hMt := val_top (n := m + 1) (hM.top (by omega))
    rw [show m + 1 + 1 = m + 2 from rfl, hM.val] at hMt
    have hpw : 4294967296 ^ nA = 4294967296 ^ (m + 1) * 4294967296 ^ (nA - m - 1) := by rw [← Nat.pow_add]; congr 1; omega
    have h3 : 4294967296 ^ (m + 1) * 4294967296 ^ (nA - m - 1) ≤ M * 4294967296 ^ (nA - m - 1) := Nat.mul_le_mul_right _ hMt
    have h4 : N < M * 4294967296 ^ (nA - m - 1) := by omega
    rw [Nat.mul_right_comm]
    exact Nat.mul_lt_mul_of_pos_right h4 h2

end Go.Proofs.Ytpcnmolncoaddaa
