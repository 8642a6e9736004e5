import Derived.Test.YtpcnmolncoaddaaVal
import Derived.Test.YtpcnmolncoaddaaArith
namespace Go.Proofs.Ytpcnmolncoaddaa
open Go.RowKit Go.Joins

/-- The remainder behind j limbs from the top, and the quotient's limbs. -/
def dr (f : Nat → Nat) (d n : Nat) : Nat → Nat
  | 0 => 0
  | j + 1 => (dr f d n j * 4294967296 + f (n - 1 - j)) % d
def dq (f : Nat → Nat) (d n i : Nat) : Nat := (dr f d n (n - 1 - i) * 4294967296 + f i) / d
def topv (f : Nat → Nat) (n : Nat) : Nat → Nat
  | 0 => 0
  | j + 1 => topv f n j * 4294967296 + f (n - 1 - j)

theorem dr_lt {f : Nat → Nat} {d n : Nat} (hd : 0 < d) (j : Nat) : dr f d n j < d := by
  cases j with
  | zero => exact hd
  | succ j => exact Nat.mod_lt _ hd
theorem dq_lt {f : Nat → Nat} {d n : Nat} (hd : 0 < d) (hf : ∀ i, f i < 4294967296) (i : Nat) : dq f d n i < 4294967296 := by
  unfold dq
  rw [Nat.div_lt_iff_lt_mul hd]
  have h1 := dr_lt (f := f) (n := n) hd (n - 1 - i)
  have h2 := hf i
  have h3 : (dr f d n (n - 1 - i) + 1) * 4294967296 ≤ d * 4294967296 := Nat.mul_le_mul_right _ (by omega)
  rw [Nat.mul_comm 4294967296 d]
  omega
theorem topv_val (f : Nat → Nat) (n : Nat) : ∀ j, j ≤ n → val f n = topv f n j * 4294967296 ^ (n - j) + val f (n - j) := by
  intro j
  induction j with
  | zero => intro _; simp [topv]
  | succ j ih =>
    intro hj
    rw [ih (by omega)]
    obtain ⟨k, hk⟩ : ∃ k, n - j = k + 1 := ⟨n - j - 1, by omega⟩
    rw [hk, show n - (j + 1) = k from by omega]
    show topv f n j * 4294967296 ^ (k + 1) + (val f k + f k * 4294967296 ^ k) = (topv f n j * 4294967296 + f (n - 1 - j)) * 4294967296 ^ k + val f k
    rw [show n - 1 - j = k from by omega, pow_s, Nat.add_mul, Nat.mul_assoc]
    omega
theorem topv_full (f : Nat → Nat) (n : Nat) : topv f n n = val f n := by
  have := topv_val f n n (Nat.le_refl _)
  simp [val] at this
  exact this.symm
theorem topv_div {f : Nat → Nat} {d n : Nat} (j : Nat) (hj : j ≤ n) : topv (dq f d n) n j * d + dr f d n j = topv f n j := by
  induction j with
  | zero => simp [topv, dr]
  | succ j ih =>
    have h := ih (by omega)
    show (topv (dq f d n) n j * 4294967296 + dq f d n (n - 1 - j)) * d + (dr f d n j * 4294967296 + f (n - 1 - j)) % d = topv f n j * 4294967296 + f (n - 1 - j)
    have e : dq f d n (n - 1 - j) = (dr f d n j * 4294967296 + f (n - 1 - j)) / d := by unfold dq; rw [show n - 1 - (n - 1 - j) = j from by omega]
    rw [e, ← h]
    have h2 := Nat.div_add_mod (dr f d n j * 4294967296 + f (n - 1 - j)) d
    rw [Nat.mul_comm d] at h2
    have h3 : (topv (dq f d n) n j * 4294967296) * d = topv (dq f d n) n j * d * 4294967296 := by rw [Nat.mul_assoc, Nat.mul_comm 4294967296 d, ← Nat.mul_assoc]
    rw [Nat.add_mul, h3, Nat.add_mul]
    omega
theorem val_div {f : Nat → Nat} {d n : Nat} (hd : 0 < d) : val (dq f d n) n = val f n / d ∧ dr f d n n = val f n % d := by
  have h := topv_div (f := f) (d := d) n (Nat.le_refl n)
  rw [topv_full, topv_full] at h
  have h1 := dr_lt (f := f) (n := n) hd n
  have h2 : val f n / d = val (dq f d n) n := by
    rw [← h, Nat.add_comm, Nat.add_mul_div_right _ _ hd, Nat.div_eq_of_lt h1, Nat.zero_add]
  refine ⟨h2.symm, ?_⟩
  have h3 := Nat.div_add_mod (val f n) d
  rw [h2, Nat.mul_comm] at h3
  omega

/-- The limbs from k on are the quotient's. -/
def dqIn (f : Nat → Nat) (d n k : Nat) : Nat → Nat := fun i => if k ≤ i ∧ i < n then dq f d n i else f i
theorem dqIn_start (f : Nat → Nat) (d n : Nat) : dqIn f d n n = f := by funext i; unfold dqIn; rw [if_neg (by omega)]
theorem dqIn_at (f : Nat → Nat) (d n k : Nat) : dqIn f d n (k + 1) k = f k := by unfold dqIn; rw [if_neg (by omega)]
theorem dqIn_upd (f : Nat → Nat) (d n k : Nat) (hk : k < n) : upd (dqIn f d n (k + 1)) k (dq f d n k) = dqIn f d n k := by
  funext i
  unfold upd dqIn
  by_cases h : i = k
  · subst h; rw [if_pos rfl, if_pos (by omega)]
  · rw [if_neg h]
    by_cases h2 : k + 1 ≤ i ∧ i < n
    · rw [if_pos h2, if_pos (by omega)]
    · rw [if_neg h2, if_neg (by omega)]
theorem dqIn_end {f : Nat → Nat} {d n : Nat} (h0 : ∀ i, n ≤ i → f i = 0) : dqIn f d n 0 = ext n (dq f d n) := by
  funext i
  unfold dqIn ext
  by_cases h : i < n
  · rw [if_pos (by omega), if_pos h]
  · rw [if_neg (by omega), if_neg h, h0 i (by omega)]

set_option maxHeartbeats 2000000 in
set_option maxRecDepth 100000 in
theorem divLimb_any (b n d : Nat) (f : Nat → Nat) (w : World) (hm : MagAt w b n f) (hn : n ≤ 80) (hd : 0 < d) (hd2 : d < 4294967296) (hf : ∀ i, f i < 4294967296) (h0 : ∀ i, n ≤ i → f i = 0) :
    Calls Try.prog 91 #[.pointer (some ⟨b, 0, none⟩), .int .u32 d] w fun e w' => e = .returned (.int .u32 (dr f d n n)) ∧ MagAt w' b (trimN (dq f d n) n) (ext n (dq f d n)) ∧ Only b w w' := by
  have c80 := hm.count
  have HF : Hid (∀ i, f i < 4294967296) := hf
  have H0 : Hid (∀ i, n ≤ i → f i = 0) := h0
  clear hf h0
  go_enter Try.func91, Try.ntmps91
  go_wp2_with fail
  go_loopw [5, 6] (fun s5 s6 wr => ∃ k : Nat, k ≤ n ∧ s6 = .int .i64 ((k : Int) - 1) ∧ s5 = .int .u64 (dr f d n (n - k)) ∧ MagAt wr b n (dqIn f d n k) ∧ Only b w wr) (fun _ s6 _ => (intOf s6 + 1).toNat)
  case atStart => exact ⟨n, Nat.le_refl _, rfl, by rw [Nat.sub_self]; rfl, by rw [dqIn_start]; exact hm, Only.refl _ _⟩
  case round =>
    obtain ⟨k, hk, rfl, rfl, hm', ho'⟩ := hrel
    clear hm c80
    rcases Nat.eq_zero_or_pos k with hz | hp
    · subst hz
      have c80 := hm'.count
      rw [dqIn_end H0.out] at hm'
      have hb : dr f d n n < d := dr_lt hd n
      go_wp2_with fail
      refine (setCount_at b n _ _ _ hm' hn).mono ?_
      rintro e w5 ⟨rfl, hm5, ho5⟩
      rw [trimN_ext] at hm5
      go_wp2_with fail
      go_ret
      exact ⟨ret_int (by simp only), hm5, ho'.trans ho5⟩
    · obtain ⟨j, rfl⟩ : ∃ j, k = j + 1 := ⟨k - 1, by omega⟩
      have g1 := hm'.limb j (by omega)
      rw [dqIn_at] at g1
      have g4 := hm'.frozen j
      have bf := HF.out j
      have br : dr f d n (n - (j + 1)) < d := dr_lt hd _
      have er : Hid (dr f d n (n - j) = (dr f d n (n - (j + 1)) * 4294967296 + f j) % d) := by
        unfold Hid
        rw [show n - j = n - (j + 1) + 1 from by omega]
        show (dr f d n (n - (j + 1)) * 4294967296 + f (n - 1 - (n - (j + 1)))) % d = _
        rw [show n - 1 - (n - (j + 1)) = j from by omega]
      have eq : Hid (dq f d n j = (dr f d n (n - (j + 1)) * 4294967296 + f j) / d) := by
        unfold Hid dq; rw [show n - 1 - j = n - (j + 1) from by omega]
      have bq := dq_lt (n := n) hd HF.out j
      rw [eq.out] at bq
      generalize dr f d n (n - (j + 1)) = r at *
      have ei : (((j + 1 : Nat) : Int) - 1) = (j : Int) := by omega
      rw [ei]
      clear ei
      go_upto_region 6 with fail
      rw [or_hi _ _ bf (by omega)]
      have hX0 : r * 4294967296 + f j ≤ 18446744073709551615 := by omega
      generalize r * 4294967296 + f j = X at *
      have q1 : (X : Int) / (d : Int) ≤ 4294967295 := by rw [← Int.natCast_ediv]; omega
      have q0 : 0 ≤ (X : Int) / (d : Int) := by rw [← Int.natCast_ediv]; exact Int.natCast_nonneg _
      have d1 : (1 : Int) ≤ (d : Int) := by omega
      have eq' : Hid ((X : Int) / (d : Int) = ((dq f d n j : Nat) : Int)) := by unfold Hid; rw [eq.out, Int.natCast_ediv]
      have er' : Hid ((X : Int) % (d : Int) = ((dr f d n (n - j) : Nat) : Int)) := by unfold Hid; rw [er.out, Int.natCast_emod]
      clear eq er bq br bf
      go_region
      all_goals
        go_wp2_with fail
        go_roundw
        case rel =>
          refine ⟨j, by omega, rfl, by rw [er'.out], ?_, ho'.trans ((Only.setCell wr ⟨b, j, none⟩ _).trans ⟨rfl, rfl, rfl, rfl, fun _ _ => rfl⟩)⟩
          have := hm'.setLimb j (dq f d n j) (by omega)
          rw [dqIn_upd _ _ _ _ (by omega), ← eq'.out] at this
          exact this
        case measure => simp [intOf]

end Go.Proofs.Ytpcnmolncoaddaa
