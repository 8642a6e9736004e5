import Derived.Test.YtppfohpgcofkbaaJC
import Derived.Test.YtppfohpgcofkbaaJD
namespace Go.Proofs.Ytppfohpgcofkbaa.B
open Go.RowKit Go.Joins

theorem or_hi (lo hi : Nat) (h1 : lo < 4294967296) (h2 : hi < 4294967296) : bits .or .u64 ((hi : Int) * 4294967296) (lo : Int) = ((hi * 4294967296 + lo : Nat) : Int) := by
  have e : (hi : Int) * 4294967296 = ((hi * 4294967296 : Nat) : Int) := by omega
  rw [e, u64_or_nat _ _ (by omega) (by omega)]
  have := Nat.two_pow_add_eq_or_of_lt (i := 32) (b := lo) (by simpa using h1) hi
  rw [show 2 ^ 32 * hi = hi * 4294967296 from by omega] at this
  rw [this]
theorem or_lo (lo hi : Nat) (h1 : lo < 4294967296) (h2 : hi < 4294967296) : bits .or .u64 (lo : Int) ((hi : Int) * 4294967296) = ((hi * 4294967296 + lo : Nat) : Int) := by
  have e : (hi : Int) * 4294967296 = ((hi * 4294967296 : Nat) : Int) := by omega
  rw [e, u64_or_nat _ _ (by omega) (by omega), Nat.or_comm]
  have := Nat.two_pow_add_eq_or_of_lt (i := 32) (b := lo) (by simpa using h1) hi
  rw [show 2 ^ 32 * hi = hi * 4294967296 from by omega] at this
  rw [this]

end Go.Proofs.Ytppfohpgcofkbaa.B

namespace Go.Proofs.Ytppfohpgcofkbaa.B
open Go.RowKit Go.Joins

/-- The remainder behind j limbs from the top, and the quotient's limbs. -/
def dr (f : Nat → Nat) (d n : Nat) : Nat → Nat
  | 0 => 0
  | j + 1 => (dr f d n j * 4294967296 + f (n - 1 - j)) % d
def dq (f : Nat → Nat) (d n i : Nat) : Nat := (dr f d n (n - 1 - i) * 4294967296 + f i) / d
def topv (f : Nat → Nat) (n : Nat) : Nat → Nat
  | 0 => 0
  | j + 1 => topv f n j * 4294967296 + f (n - 1 - j)

theorem dr_lt {f : Nat → Nat} {d n : Nat} (hd : 0 < d) (j : Nat) : dr f d n j < d := by
  cases j with
  | zero => exact hd
  | succ j => exact Nat.mod_lt _ hd
theorem dq_lt {f : Nat → Nat} {d n : Nat} (hd : 0 < d) (hf : ∀ i, f i < 4294967296) (i : Nat) : dq f d n i < 4294967296 := by
  unfold dq
  rw [Nat.div_lt_iff_lt_mul hd]
  have h1 := dr_lt (f := f) (n := n) hd (n - 1 - i)
  have h2 := hf i
  have h3 : (dr f d n (n - 1 - i) + 1) * 4294967296 ≤ d * 4294967296 := Nat.mul_le_mul_right _ (by omega)
  rw [Nat.mul_comm 4294967296 d]
  omega
theorem topv_val (f : Nat → Nat) (n : Nat) : ∀ j, j ≤ n → val f n = topv f n j * 4294967296 ^ (n - j) + val f (n - j) := by
  intro j
  induction j with
  | zero => intro _; simp [topv]
  | succ j ih =>
    intro hj
    rw [ih (by omega)]
    obtain ⟨k, hk⟩ : ∃ k, n - j = k + 1 := ⟨n - j - 1, by omega⟩
    rw [hk, show n - (j + 1) = k from by omega]
    show topv f n j * 4294967296 ^ (k + 1) + (val f k + f k * 4294967296 ^ k) = (topv f n j * 4294967296 + f (n - 1 - j)) * 4294967296 ^ k + val f k
    rw [show n - 1 - j = k from by omega, pow_s, Nat.add_mul, Nat.mul_assoc]
    omega
theorem topv_full (f : Nat → Nat) (n : Nat) : topv f n n = val f n := by
  have := topv_val f n n (Nat.le_refl _)
  simp [val] at this
  exact this.symm
theorem topv_div {f : Nat → Nat} {d n : Nat} (j : Nat) (hj : j ≤ n) : topv (dq f d n) n j * d + dr f d n j = topv f n j := by
  induction j with
  | zero => simp [topv, dr]
  | succ j ih =>
    have h := ih (by omega)
    show (topv (dq f d n) n j * 4294967296 + dq f d n (n - 1 - j)) * d + (dr f d n j * 4294967296 + f (n - 1 - j)) % d = topv f n j * 4294967296 + f (n - 1 - j)
    have e : dq f d n (n - 1 - j) = (dr f d n j * 4294967296 + f (n - 1 - j)) / d := by unfold dq; rw [show n - 1 - (n - 1 - j) = j from by omega]
    rw [e, ← h]
    have h2 := Nat.div_add_mod (dr f d n j * 4294967296 + f (n - 1 - j)) d
    rw [Nat.mul_comm d] at h2
    have h3 : (topv (dq f d n) n j * 4294967296) * d = topv (dq f d n) n j * d * 4294967296 := by rw [Nat.mul_assoc, Nat.mul_comm 4294967296 d, ← Nat.mul_assoc]
    rw [Nat.add_mul, h3, Nat.add_mul]
    omega
theorem val_div {f : Nat → Nat} {d n : Nat} (hd : 0 < d) : val (dq f d n) n = val f n / d ∧ dr f d n n = val f n % d := by
  have h := topv_div (f := f) (d := d) n (Nat.le_refl n)
  rw [topv_full, topv_full] at h
  have h1 := dr_lt (f := f) (n := n) hd n
  have h2 : val f n / d = val (dq f d n) n := by
    rw [← h, Nat.add_comm, Nat.add_mul_div_right _ _ hd, Nat.div_eq_of_lt h1, Nat.zero_add]
  refine ⟨h2.symm, ?_⟩
  have h3 := Nat.div_add_mod (val f n) d
  rw [h2, Nat.mul_comm] at h3
  omega

/-- The limbs from k on are the quotient's. -/
def dqIn (f : Nat → Nat) (d n k : Nat) : Nat → Nat := fun i => if k ≤ i ∧ i < n then dq f d n i else f i
theorem dqIn_start (f : Nat → Nat) (d n : Nat) : dqIn f d n n = f := by funext i; unfold dqIn; rw [if_neg (by omega)]
theorem dqIn_at (f : Nat → Nat) (d n k : Nat) : dqIn f d n (k + 1) k = f k := by unfold dqIn; rw [if_neg (by omega)]
theorem dqIn_upd (f : Nat → Nat) (d n k : Nat) (hk : k < n) : upd (dqIn f d n (k + 1)) k (dq f d n k) = dqIn f d n k := by
  funext i
  unfold upd dqIn
  by_cases h : i = k
  · subst h; rw [if_pos rfl, if_pos (by omega)]
  · rw [if_neg h]
    by_cases h2 : k + 1 ≤ i ∧ i < n
    · rw [if_pos h2, if_pos (by omega)]
    · rw [if_neg h2, if_neg (by omega)]
theorem dqIn_end {f : Nat → Nat} {d n : Nat} (h0 : ∀ i, n ≤ i → f i = 0) : dqIn f d n 0 = ext n (dq f d n) := by
  funext i
  unfold dqIn ext
  by_cases h : i < n
  · rw [if_pos (by omega), if_pos h]
  · rw [if_neg (by omega), if_neg h, h0 i (by omega)]

set_option maxHeartbeats 2000000 in
set_option maxRecDepth 100000 in
theorem divLimb_any (b n d : Nat) (f : Nat → Nat) (w : World) (hm : MagAt w b n f) (hn : n ≤ 80) (hd : 0 < d) (hd2 : d < 4294967296) (hf : ∀ i, f i < 4294967296) (h0 : ∀ i, n ≤ i → f i = 0) :
    Calls Try.prog 82 #[.pointer (some ⟨b, 0, none⟩), .int .u32 d] w fun e w' => e = .returned (.int .u32 (dr f d n n)) ∧ MagAt w' b (trimN (dq f d n) n) (ext n (dq f d n)) ∧ Only b w w' := by
  have c80 := hm.count
  have HF : Hid (∀ i, f i < 4294967296) := hf
  have H0 : Hid (∀ i, n ≤ i → f i = 0) := h0
  clear hf h0
  go_enter Try.func82, Try.ntmps82
  go_wp2_with fail
  go_loopw [5, 6] (fun s5 s6 wr => ∃ k : Nat, k ≤ n ∧ s6 = .int .i64 ((k : Int) - 1) ∧ s5 = .int .u64 (dr f d n (n - k)) ∧ MagAt wr b n (dqIn f d n k) ∧ Only b w wr) (fun _ s6 _ => (intOf s6 + 1).toNat)
  case atStart => exact ⟨n, Nat.le_refl _, rfl, by rw [Nat.sub_self]; rfl, by rw [dqIn_start]; exact hm, Only.refl _ _⟩
  case round =>
    obtain ⟨k, hk, rfl, rfl, hm', ho'⟩ := hrel
    clear hm c80
    rcases Nat.eq_zero_or_pos k with hz | hp
    · subst hz
      have c80 := hm'.count
      rw [dqIn_end H0.out] at hm'
      have hb : dr f d n n < d := dr_lt hd n
      go_wp2_with fail
      refine (setCount_at b n _ _ _ hm' hn).mono ?_
      rintro e w5 ⟨rfl, hm5, ho5⟩
      rw [trimN_ext] at hm5
      go_wp2_with fail
      go_ret
      exact ⟨ret_int (by simp only), hm5, ho'.trans ho5⟩
    · obtain ⟨j, rfl⟩ : ∃ j, k = j + 1 := ⟨k - 1, by omega⟩
      have g1 := hm'.limb j (by omega)
      rw [dqIn_at] at g1
      have g4 := hm'.frozen j
      have bf := HF.out j
      have br : dr f d n (n - (j + 1)) < d := dr_lt hd _
      have er : Hid (dr f d n (n - j) = (dr f d n (n - (j + 1)) * 4294967296 + f j) % d) := by
        unfold Hid
        rw [show n - j = n - (j + 1) + 1 from by omega]
        show (dr f d n (n - (j + 1)) * 4294967296 + f (n - 1 - (n - (j + 1)))) % d = _
        rw [show n - 1 - (n - (j + 1)) = j from by omega]
      have eq : Hid (dq f d n j = (dr f d n (n - (j + 1)) * 4294967296 + f j) / d) := by
        unfold Hid dq; rw [show n - 1 - j = n - (j + 1) from by omega]
      have bq := dq_lt (n := n) hd HF.out j
      rw [eq.out] at bq
      generalize dr f d n (n - (j + 1)) = r at *
      have ei : (((j + 1 : Nat) : Int) - 1) = (j : Int) := by omega
      rw [ei]
      clear ei
      go_upto_region 6 with fail
      rw [or_hi _ _ bf (by omega)]
      have hX0 : r * 4294967296 + f j ≤ 18446744073709551615 := by omega
      generalize r * 4294967296 + f j = X at *
      have q1 : (X : Int) / (d : Int) ≤ 4294967295 := by rw [← Int.natCast_ediv]; omega
      have q0 : 0 ≤ (X : Int) / (d : Int) := by rw [← Int.natCast_ediv]; exact Int.natCast_nonneg _
      have d1 : (1 : Int) ≤ (d : Int) := by omega
      have eq' : Hid ((X : Int) / (d : Int) = ((dq f d n j : Nat) : Int)) := by unfold Hid; rw [eq.out, Int.natCast_ediv]
      have er' : Hid ((X : Int) % (d : Int) = ((dr f d n (n - j) : Nat) : Int)) := by unfold Hid; rw [er.out, Int.natCast_emod]
      clear eq er bq br bf
      go_region
      all_goals
        go_wp2_with fail
        go_roundw
        case rel =>
          refine ⟨j, by omega, rfl, by rw [er'.out], ?_, ho'.trans ((Only.setCell wr ⟨b, j, none⟩ _).trans ⟨rfl, rfl, rfl, rfl, fun _ _ => rfl⟩)⟩
          have := hm'.setLimb j (dq f d n j) (by omega)
          rw [dqIn_upd _ _ _ _ (by omega), ← eq'.out] at this
          exact this
        case measure => simp [intOf]

end Go.Proofs.Ytppfohpgcofkbaa.B

namespace Go.Proofs.Ytppfohpgcofkbaa.B
open Go.RowKit Go.Joins

theorem Row.alloc {B w v n f} (h : Row B w v n f) (o : Obj) : Row B (w.alloc o) v n f := World.ownsRow.alloc h o
theorem Row.less {B B' w v n f} (h : Row B w v n f) (hb : B' ≤ B) : Row B' w v n f := ownsRow_le h hb
theorem lim_one (W : World) (x : Nat) (p : Int) (b : Nat) (hb : b = W.heap.size) (hx : x < 4294967296) (hp : p = (x : Int)) : Lim (W.alloc (.cells #[.int .u32 p] 91)) (.slice (some ⟨b, 0, none⟩) 1 1) 1 (fun _ => x) := by
  subst hb hp
  refine ⟨_, 1, rfl, Nat.le_refl _, by unfold maxLen; omega, fun i _ => hx, fun _ => ⟨_, 0, rfl, fun i hi => ?_⟩⟩
  match i, hi with
  | 0, _ => simp
theorem ext_ge (n : Nat) (f : Nat → Nat) (i : Nat) (h : n ≤ i) : ext n f i = 0 := by simp [ext]; omega
theorem extLt {w v n f} (h : Lim w v n f) (i : Nat) : ext n f i < 4294967296 := by
  obtain ⟨_, _, _, _, _, h3, _⟩ := h
  unfold ext; split
  · exact h3 i (by assumption)
  · omega

end Go.Proofs.Ytppfohpgcofkbaa.B

namespace Go.Proofs.Ytppfohpgcofkbaa.B
open Go.RowKit Go.Joins

theorem Half.limb {w B n f} (h : Half w B n n f) (j : Nat) (hj : j < n) : w.cell? ⟨B, j, none⟩ = some (.int .u32 (f j)) := by
  obtain ⟨cs, h1, h2, h3⟩ := h
  rw [cell_of_block h1]; exact h3 j hj
theorem Half.setAt {w B n f} (h : Half w B n n f) (i x : Nat) (hi : i < n) : Half (w.setCell ⟨B, i, none⟩ (.int .u32 x)) B n n (upd f i x) := by
  obtain ⟨cs, h1, h2, h3⟩ := h
  refine ⟨_, block_setCell h1 _, by simp [h2], fun j hj => ?_⟩
  by_cases e : j = i
  · subst e; rw [Array.getElem?_setIfInBounds_self_of_lt (by rw [h2]; omega)]; simp [upd]
  · rw [Array.getElem?_setIfInBounds_ne (by omega)]; simp only [upd, if_neg e]; exact h3 j hj
theorem Half.eq {w B n f f'} (h : Half w B n n f) (he : ∀ i, i < n → f i = f' i) : Half w B n n f' := by
  obtain ⟨cs, h1, h2, h3⟩ := h
  exact ⟨cs, h1, h2, fun i hi => by rw [← he i hi]; exact h3 i hi⟩
theorem half_made (w : World) (n : Nat) : Half (w.alloc (.cells (madeCells #[.int .u32 0] n) 91)) w.heap.size n n (fun _ => 0) :=
  ⟨_, heap_alloc_new _ _, size_madeCells _ _, fun i hi => by simp [madeCells, hi, Nat.mod_one]⟩

/-- What the inner loop of l1Mul holds. -/
def MulSt (wy : World) (b N m i k : Nat) (F G P : Nat → Nat) (s7 : Value) : Prop :=
  (k ≤ m ∧ s7 = .int .u64 (mulC F G i P k) ∧ Half wy b N N (mulIn F G i P k)) ∨ (k = m + 1 ∧ s7 = .int .u64 0 ∧ Half wy b N N (mulRow F G m i P))

end Go.Proofs.Ytppfohpgcofkbaa.B

namespace Go.Proofs.Ytppfohpgcofkbaa.B
open Go.RowKit Go.Joins

/-- At most K decimal digits of N, none for 0. -/
def dec : Nat → Nat → List UInt8
  | 0, _ => []
  | K + 1, N => if N = 0 then [] else dec K (N / 10) ++ [UInt8.ofNat (48 + N % 10)]

theorem dec_zero (K : Nat) : dec K 0 = [] := by cases K <;> simp [dec]
theorem dec_step (K N : Nat) (h : 0 < N) : dec (K + 1) N = dec K (N / 10) ++ [UInt8.ofNat (48 + N % 10)] := by
  show (if N = 0 then _ else _) = _
  rw [if_neg (by omega)]
theorem pow10_s (K : Nat) : 10 ^ (K + 1) = 10 * 10 ^ K := by rw [Nat.pow_succ, Nat.mul_comm]
theorem dec_bound {K N : Nat} (h : N < 10 ^ (K + 1)) : N / 10 < 10 ^ K := by rw [pow10_s] at h; omega
theorem dec_fuel {K N : Nat} (h : N < 10 ^ K) (h0 : 0 < N) : ∃ K', K = K' + 1 := by
  cases K with
  | zero => simp at h; omega
  | succ K => exact ⟨K, rfl⟩
theorem big10 : (4294967296 : Nat) ^ 40 ≤ 10 ^ 386 := by decide +kernel

theorem hideD {p : Prop} (h : p) : Hid p := h

def strLen : Value → Nat | .string s => s.size | _ => 0

/-- The inner loop of l1Digits. -/
def NextSt (wy : World) (b n k : Nat) (f : Nat → Nat) : Prop := Half wy b n n (fun i => if k ≤ i then dq f 10 n i else 0)

set_option maxHeartbeats 2000000 in
set_option maxRecDepth 100000 in
theorem sDigits_pos (v : Value) (n : Nat) (f : Nat → Nat) (w : World) (hL : Lim w v n f) (hf : ∀ i, f i < 4294967296) (hp : 0 < n) (hn : n ≤ 40) (htop : 0 < n → f (n - 1) ≠ 0) :
    Calls Try.prog 41 #[v] w fun e w' => e = .returned (.string ⟨(dec 386 (val f n)).toArray⟩) ∧ Below w.heap.size w w' := by
  obtain ⟨a, c, rfl, -⟩ := id hL
  have hV : val f n < 10 ^ 386 := Nat.lt_of_lt_of_le (Nat.lt_of_lt_of_le (val_lt hf n) (Nat.pow_le_pow_right (by decide) hn)) big10
  have hn0 : ((n : Int) == 0) = false := by simp; omega
  go_enter Try.func41, Try.ntmps41
  go_wp2_with fail
  go_loopw [0, 3] (fun s0 s3 wr => ∃ (n' K : Nat) (f' : Nat → Nat) (out : List UInt8), n' ≤ 40 ∧ (∀ i, f' i < 4294967296) ∧ Lim wr s0 n' f' ∧ s3 = .string ⟨out.toArray⟩ ∧ K + out.length = 386 ∧ val f' n' < 10 ^ K ∧ dec 386 (val f n) = dec K (val f' n') ++ out ∧ (0 < n' → f' (n' - 1) ≠ 0) ∧ Below w.heap.size w wr) (fun _ s3 _ => 386 - strLen s3)
  case atStart => exact ⟨n, 386, f, [], hn, hf, hL, rfl, rfl, hV, by simp, htop, Below.refl _ _⟩
  case round =>
    obtain ⟨n', K, f', out, hn', hf', hL', rfl, hK, hV', hD, htop', bel'⟩ := hrel
    clear htop hL hV
    have HD : Hid (dec 386 (val f n) = dec K (val f' n') ++ out) := hD
    clear hD
    obtain ⟨a1, c1, rfl, k1, k2, -, k4⟩ := id hL'
    rcases Nat.eq_zero_or_pos n' with hz | hp'
    · subst hz
      have HE : Hid (dec 386 (val f n) = out) := by unfold Hid; rw [HD.out]; show dec K 0 ++ out = out; rw [dec_zero]; rfl
      go_wp2_with fail
      go_ret
      exact ⟨by rw [HE.out]; rfl, bel'⟩
    · obtain ⟨b1, off1, rfl, h5⟩ := k4 hp'
      have hVp : 0 < val f' n' := by
        obtain ⟨k, rfl⟩ : ∃ k, n' = k + 1 := ⟨n' - 1, by omega⟩
        have := val_top (htop' (by omega))
        have h2 := pow_pos' k
        simp only [Nat.add_sub_cancel] at this
        omega
      obtain ⟨K', rfl⟩ := dec_fuel hV' hVp
      have hmk := run_make_row' (P := Try.prog) 22 91 (.int .u32 0) 4 Try.underlying22 Try.info91 rfl .i64 .i64 n' (by omega) (by omega)
      have z1 := bel'.size
      have hb1 : b1 < wr.heap.size := block_lt_of_cell (h5 0 hp')
      have HF' : Hid (∀ i, f' i < 4294967296) := hf'
      have H5 : Hid (∀ i, i < n' → wr.cell? ⟨b1, off1 + i, none⟩ = some (.int .u32 (f' i))) := h5
      clear hf' h5 k4 hL'
      go_wp2_with fail
      clear hmk
      go_loopw [4, 6] (fun s4 s6 wy => ∃ k : Nat, k ≤ n' ∧ s6 = .int .i64 ((k : Int) - 1) ∧ s4 = .int .u64 (dr f' 10 n' (n' - k)) ∧ NextSt wy wr.heap.size n' k f' ∧ Below wr.heap.size wr wy) (fun _ s6 _ => (intOf s6 + 1).toNat)
      case atStart => exact ⟨n', Nat.le_refl _, rfl, by rw [Nat.sub_self]; rfl, (half_made wr n').eq (fun i hi => by rw [if_neg (by omega)]), below_alloc1 _ _⟩
      case round =>
        rename World => wy
        obtain ⟨k, hk, rfl, rfl, hm', bel2⟩ := hrel
        rcases Nat.eq_zero_or_pos k with hz | hp
        · subst hz
          have hb : dr f' 10 n' (n' - 0) < 10 := dr_lt (by omega) _
          simp only [Nat.sub_zero] at hb ⊢
          have Hr : Hid (dr f' 10 n' n' = val f' n' % 10) := (val_div (by omega)).2
          generalize dr f' 10 n' n' = r at *
          obtain ⟨ch, hch⟩ : ∃ ch, ch = UInt8.ofNat (48 + r) := ⟨_, rfl⟩
          have hcv : (convert 45 9 (.slice (some ⟨wy.heap.size, 0, none⟩) 1 1)).run Try.prog (wy.alloc (.cells #[.int .u8 (48 + (r : Int))] 5)) = .ok (.string ⟨#[ch]⟩) (wy.alloc (.cells #[.int .u8 (48 + (r : Int))] 5)) :=
            run_convert_bytes_back (P := Try.prog) (wy.alloc (.cells #[.int .u8 (48 + (r : Int))] 5)) 45 9 5 ⟨wy.heap.size, 0, none⟩ 1 [ch] Try.underlying45 Try.underlying5 Try.underlying9 (fun j hj => by
              have : j = 0 := by simpa using hj
              subst this
              simp [Addr.add, hch]
              omega)
          have Hch : Hid (ch = UInt8.ofNat (48 + r)) := hch
          clear hch
          have hol : (out.length : Int) ≤ 8388608 := by omega
          have hq := hm'.eq (f' := dq f' 10 n') (fun i _ => by rw [if_pos (Nat.zero_le _)])
          have ho := hq.own (B' := 0) rfl (Nat.zero_le _) (by unfold maxLen; omega) (fun i _ => dq_lt (by omega) HF'.out i)
          have z2 := bel2.size
          go_wp2_with fail
          refine (trim_any (ho.lim.below (below_alloc1 _ _)) ho.nil (by omega)).mono ?_
          rintro e w5 ⟨v5, rfl, hr5, hb5⟩
          have ho5 := hr5.own (fun i _ => dq_lt (by omega) HF'.out i)
          obtain ⟨a5, c5, rfl, -⟩ := id ho5
          have bel5 : Below w.heap.size w w5 := (((bel'.trans (bel2.mono z1)).alloc (by omega) _)).trans (hb5.mono (by simp; omega))
          have hvd := (val_div (f := f') (d := 10) (n := n') (by omega)).1
          have hvt := val_trim (dq f' 10 n') n'
          have hle := trimN_le (dq f' 10 n') n'
          have R : Hid (val (dq f' 10 n') (trimN (dq f' 10 n') n') < 10 ^ K' ∧ dec 386 (val f n) = dec K' (val (dq f' 10 n') (trimN (dq f' 10 n') n')) ++ (ch :: out)) := by
            unfold Hid
            rw [hvt, hvd]
            refine ⟨dec_bound hV', ?_⟩
            rw [HD.out, dec_step _ _ hVp, ← Hr.out, ← Hch.out]
            simp
          have Ht := hideD (trimN_top (dq f' 10 n') n')
          have Hlt := hideD (fun i => dq_lt (n := n') (show 0 < 10 by omega) HF'.out i)
          generalize trimN (dq f' 10 n') n' = n2 at *
          generalize dq f' 10 n' = f2 at *
          clear hcv hq ho hr5 hb5 hm' bel2 hvd hvt HD Hr hV' hVp
          go_wp2_with fail
          go_roundw
          case rel => exact ⟨n2, K', f2, ch :: out, by omega, Hlt.out, ho5.lim, congrArg Value.string (ByteArray.mk_append_mk [ch] out), by simp; omega, R.out.1, R.out.2, Ht.out, bel5⟩
          case measure =>
            have e : (ByteArray.mk #[ch] ++ ByteArray.mk out.toArray) = ByteArray.mk (ch :: out).toArray := ByteArray.mk_append_mk [ch] out
            have e1 : (ByteArray.mk (ch :: out).toArray).size = out.length + 1 := by simp [ByteArray.size]
            have e2 : (ByteArray.mk out.toArray).size = out.length := by simp [ByteArray.size]
            simp only [strLen, e, e1, e2]
            omega
        · obtain ⟨j, rfl⟩ : ∃ j, k = j + 1 := ⟨k - 1, by omega⟩
          have g1 : wy.cell? ⟨b1, off1 + j, none⟩ = some (.int .u32 (f' j)) := (bel2.cell (p := ⟨b1, off1 + j, none⟩) hb1).trans (H5.out j (by omega))
          have g3 := hm'.limb j (by omega)
          have g4 := hm'.frozen j
          have bf := HF'.out j
          have br : dr f' 10 n' (n' - (j + 1)) < 10 := dr_lt (by omega) _
          have er : Hid (dr f' 10 n' (n' - j) = (dr f' 10 n' (n' - (j + 1)) * 4294967296 + f' j) % 10) := by
            unfold Hid
            rw [show n' - j = n' - (j + 1) + 1 from by omega]
            show (dr f' 10 n' (n' - (j + 1)) * 4294967296 + f' (n' - 1 - (n' - (j + 1)))) % 10 = _
            rw [show n' - 1 - (n' - (j + 1)) = j from by omega]
          have eq : Hid (dq f' 10 n' j = (dr f' 10 n' (n' - (j + 1)) * 4294967296 + f' j) / 10) := by
            unfold Hid dq; rw [show n' - 1 - j = n' - (j + 1) from by omega]
          generalize dr f' 10 n' (n' - (j + 1)) = r at *
          have ei : (((j + 1 : Nat) : Int) - 1) = (j : Int) := by omega
          rw [ei]
          clear ei
          go_upto_region 11 with fail
          rw [or_hi _ _ bf (by omega)]
          have hX0 : r * 4294967296 + f' j ≤ 42949672959 := by omega
          generalize r * 4294967296 + f' j = X at *
          have eq' : Hid ((X : Int) / 10 = ((dq f' 10 n' j : Nat) : Int)) := by unfold Hid; rw [eq.out]; omega
          have er' : Hid ((X : Int) % 10 = ((dr f' 10 n' (n' - j) : Nat) : Int)) := by unfold Hid; rw [er.out]; omega
          clear eq er br bf g1
          go_wp2_with fail
          go_roundw
          case rel =>
            refine ⟨j, by omega, rfl, by rw [er'.out], ?_, bel2.setCell (by exact Nat.le_refl _) _⟩
            have := hm'.setAt j (dq f' 10 n' j) (by omega)
            rw [← eq'.out] at this
            refine this.eq (fun i hi => ?_)
            show (if i = j then _ else if j + 1 ≤ i then dq f' 10 n' i else 0) = if j ≤ i then dq f' 10 n' i else 0
            by_cases h : i = j
            · subst h; rw [if_pos rfl, if_pos (Nat.le_refl _)]
            · rw [if_neg h]
              by_cases h2 : j + 1 ≤ i
              · rw [if_pos h2, if_pos (by omega)]
              · rw [if_neg h2, if_neg (by omega)]
          case measure => simp [intOf]

end Go.Proofs.Ytppfohpgcofkbaa.B

namespace Go.Proofs.Ytppfohpgcofkbaa.B
open Go.RowKit Go.Joins

/-- The text's array of 400 bytes: its last ones are 'out'. -/
def TxtAt (w : World) (b : Nat) (out : List UInt8) : Prop :=
  ∃ cs : Array Value, w.heap[b]? = some (.cells cs 142 (0, 0)) ∧ cs.size = 400 ∧ out.length ≤ 400 ∧ ∀ j (hj : j < out.length), cs[400 - out.length + j]? = some (.int .u8 (out[j].toNat : Int))

def zero102 : Array Value := Array.replicate 400 (.int .u8 0)
theorem run_zero102 (w : World) : (zeroValue 142).run Try.prog w = .ok (.agg zero102) w := by kernel_rfl
theorem wpList_alloc102 {ops : Array Oper} {rest : List Oper} {o : Oper} {a : Act} {w : World} {Q : Exit → Act → World → Prop} (d : Nat) (hd : o.dst = some d) (hg : o.guard = none) (ho : o.op = .alloc 142)
    (h : ∀ w', w'.heap.size = w.heap.size + 1 → TxtAt w' w.heap.size [] → Below w.heap.size w w' → wpList Try.prog ops Q rest (a.put (some d) (.pointer (some ⟨w.heap.size, 0, none⟩))) w') : wpList Try.prog ops Q (o :: rest) a w := by
  refine wpList_plain hg fun K hK => ?_
  unfold Oper.wp
  simp only [execOp, ho, Instr.alloc, Sem.run_bind, run_zero102, Result.andThen]
  refine hK _ _ ?_
  rw [hd]
  exact h (w.alloc (.cells zero102 142)) (by simp) ⟨zero102, heap_alloc_new _ _, by simp [zero102], by simp, fun j hj => by simp at hj⟩ (below_alloc1 _ _)

theorem TxtAt.only {g w w' b out} (h : TxtAt w b out) (ho : Only g w w') (hb : b ≠ g) : TxtAt w' b out := by
  obtain ⟨cs, h1, h2⟩ := h
  exact ⟨cs, (ho.block b hb).trans h1, h2⟩
theorem TxtAt.cell {w b out} (h : TxtAt w b out) (i : Nat) (hi : i < 400) : ∃ u, w.cell? ⟨b, i, none⟩ = some u := by
  obtain ⟨cs, h1, h2, _⟩ := h
  rw [cell_of_block h1]; exact ⟨cs[i], by simp [h2, hi]⟩
theorem TxtAt.frozen {w b out} (h : TxtAt w b out) (i : Nat) : w.frozen? ⟨b, i, none⟩ = false := by
  obtain ⟨cs, h1, h2, _⟩ := h
  exact unfrozen_of_block h1 _
theorem TxtAt.byte {w b out} (h : TxtAt w b out) (j : Nat) (hj : j < out.length) : w.cell? ⟨b, 400 - out.length + j, none⟩ = some (.int .u8 (out[j].toNat : Int)) := by
  obtain ⟨cs, h1, h2, h3, h4⟩ := h
  rw [cell_of_block h1]; exact h4 j hj
theorem TxtAt.push {w b out} (h : TxtAt w b out) (ch : UInt8) (hl : out.length < 400) : TxtAt (w.setCell ⟨b, 400 - out.length - 1, none⟩ (.int .u8 (ch.toNat : Int))) b (ch :: out) := by
  obtain ⟨cs, h1, h2, h3, h4⟩ := h
  refine ⟨_, block_setCell h1 _, by simp [h2], by simp; omega, fun j hj => ?_⟩
  cases j with
  | zero =>
    simp only [List.length_cons, Nat.add_zero, List.getElem_cons_zero]
    rw [show 400 - (out.length + 1) = 400 - out.length - 1 from by omega, Array.getElem?_setIfInBounds_self_of_lt (by rw [h2]; omega)]
  | succ j =>
    simp only [List.length_cons, List.getElem_cons_succ] at hj ⊢
    rw [Array.getElem?_setIfInBounds_ne (by omega), show 400 - (out.length + 1) + (j + 1) = 400 - out.length + j from by omega]
    exact h4 j (by omega)

theorem Try.len102 : Try.prog.arrayLen 142 = 400 := by kernel_rfl
theorem size5 (w : World) : (sizeOf (Try.prog.elem 142)).run Try.prog w = .ok 1 w := by kernel_rfl
theorem slice102 (wr : World) (b p : Nat) (hp : p ≤ 400) : ∃ ad, (Instr.sliceAt 142 (.pointer (some ⟨b, 0, none⟩)) (some (.int .i64 p)) none none).run Try.prog wr = .ok (.slice (some ad) (400 - p) (400 - p)) wr ∧ ∀ j, p + j < 400 → ad.add j = ⟨b, p + j, none⟩ := by
  have h := run_sliceAt_array_l (P := Try.prog) wr 142 ⟨b, 0, none⟩ (by kernel_rfl) .i64 (p : Int) (by omega) (by rw [Try.len102]; omega)
  rw [size5] at h
  refine ⟨if 400 = p then ⟨b, 0, none⟩ else (⟨b, 0, none⟩ : Addr).add (p * 1), ?_, fun j hj => ?_⟩
  · rw [h]
    show Result.ok (slicedAt ⟨b, 0, none⟩ (p : Int).toNat (Try.prog.arrayLen 142) (Try.prog.arrayLen 142) 1) wr = _
    rw [Try.len102]
    rfl
  · rw [if_neg (by omega), addAt, addAt, show 0 + p * 1 + j = p + j from by omega]

set_option maxHeartbeats 4000000 in
set_option maxRecDepth 100000 in
theorem iDigits_any (cs : Array Value) (n : Nat) (f : Nat → Nat) (w : World) (hc : MagC cs n f) (hf : ∀ i, f i < 4294967296) (h0 : ∀ i, n ≤ i → f i = 0) (hn : n ≤ 40) (htop : 0 < n → f (n - 1) ≠ 0) :
    Calls Try.prog 80 #[.agg cs] w fun e w' => e = .returned (.string ⟨(dec 386 (val f n)).toArray⟩) ∧ Below w.heap.size w w' := by
  have hV : val f n < 10 ^ 386 := Nat.lt_of_lt_of_le (Nat.lt_of_lt_of_le (val_lt hf n) (Nat.pow_le_pow_right (by decide) hn)) big10
  have hm0 : MagAt (w.alloc (.cells cs 140)) w.heap.size n f := ⟨cs, heap_alloc_new _ _, hc⟩
  clear hc
  obtain ⟨V0, hV0⟩ : ∃ V, V = val f n := ⟨_, rfl⟩
  rw [← hV0] at hV
  have HV0 := hideD hV0
  have HV := hideD hV
  clear hV0 hV
  go_enter Try.func80, Try.ntmps80
  go_upto_region 2 with ((with_reducible refine wpList_alloc102 3 ?_ ?_ ?_ ?_); rfl; rfl; rfl; intro w1 hz1 ht1 hb1; simp only [World.size_alloc] at hz1 ht1 hb1)
  have hm1 := hm0.below hb1 (by omega)
  have bel1 : Below w.heap.size w w1 := (below_alloc1 w _).trans (hb1.mono (by omega))
  clear hm0 hb1
  go_wp2_with fail
  go_loopw [4] (fun s4 wr => ∃ (n' K : Nat) (f' : Nat → Nat) (out : List UInt8), n' ≤ 40 ∧ (∀ i, f' i < 4294967296) ∧ (∀ i, n' ≤ i → f' i = 0) ∧ MagAt wr w.heap.size n' f' ∧ TxtAt wr (w.heap.size + 1) out ∧ (∃ p : Nat, s4 = .int .i64 p ∧ p + out.length = 400) ∧ K + out.length = 386 ∧ val f' n' < 10 ^ K ∧ dec 386 V0 = dec K (val f' n') ++ out ∧ (0 < n' → f' (n' - 1) ≠ 0) ∧ Below w.heap.size w wr) (fun s4 _ => (intOf s4).toNat)
  case atStart => exact ⟨n, 386, f, [], hn, hf, h0, hm1, ht1, ⟨400, rfl, rfl⟩, rfl, by rw [← HV0.out]; exact HV.out, by rw [← HV0.out]; simp, htop, bel1⟩
  case round =>
    obtain ⟨n', K, f', out, hn', hf', h0', hm', ht', ⟨p, rfl, hp0⟩, hK, hV', hD, htop', bel'⟩ := hrel
    clear hm1 ht1 htop h0 hf bel1
    have HD := hideD hD
    have HF' := hideD hf'
    have H0' := hideD h0'
    clear hD hf' h0'
    have e1 := hm'.count
    rcases Nat.eq_zero_or_pos n' with hz | hp'
    · subst hz
      have HE : Hid (dec 386 V0 = out) := by unfold Hid; rw [HD.out]; show dec K 0 ++ out = out; rw [dec_zero]; rfl
      have hp1 : p ≤ 400 := by omega
      obtain ⟨ad, hsl, had⟩ := slice102 wr (w.heap.size + 1) p hp1
      have hcv : (convert 45 9 (.slice (some ad) (400 - p) (400 - p))).run Try.prog wr = .ok (.string ⟨out.toArray⟩) wr := by
        have h := run_convert_bytes_back (P := Try.prog) wr 45 9 5 ad (400 - p) out Try.underlying45 Try.underlying5 Try.underlying9 (fun j hj => by
          have h1 := ht'.byte j hj
          rw [had j (by omega), show p + j = 400 - out.length + j from by omega]
          exact h1)
        rw [show out.length = 400 - p from by omega] at h
        exact h
      clear had
      clear hp0 hK HD hV' H0' HF' ht' hm' htop'
      go_wp2_with fail
      go_ret
      exact ⟨by rw [← HV0.out, HE.out]; rfl, bel'⟩
    · have hVp : 0 < val f' n' := by
        obtain ⟨k, rfl⟩ : ∃ k, n' = k + 1 := ⟨n' - 1, by omega⟩
        have := val_top (htop' (by omega))
        have h2 := pow_pos' k
        simp only [Nat.add_sub_cancel] at this
        omega
      go_wp2_with fail
      refine (divLimb_any w.heap.size n' 1000000000 f' _ hm' (by omega) (by omega) (by omega) HF'.out H0'.out).mono ?_
      rintro e w5 ⟨rfl, hm5, ho5⟩
      have ht5 := ht'.only ho5 (by omega)
      have bel5 := bel'.trans (ho5.below (Nat.le_refl _))
      have hvd := val_div (f := f') (d := 1000000000) (n := n') (by omega)
      have hvt := val_trim (dq f' 1000000000 n') n'
      have hle := trimN_le (dq f' 1000000000 n') n'
      have Ht := hideD (trimN_top (dq f' 1000000000 n') n')
      have Hlt := hideD (fun i => dq_lt (n := n') (show 0 < 1000000000 by omega) HF'.out i)
      have Htz := hideD (trimN_zero (dq f' 1000000000 n') n')
      obtain ⟨V, hVV⟩ : ∃ V, V = val f' n' := ⟨_, rfl⟩
      rw [← hVV] at hvd hVp hV'
      have HD2 : Hid (dec 386 V0 = dec K V ++ out) := by rw [hVV]; exact HD.out
      rw [hvd.2]
      have HM : Hid (val (dq f' 1000000000 n') (trimN (dq f' 1000000000 n') n') = V / 1000000000) := by unfold Hid; rw [hvt, hvd.1]
      clear hvd hvt HD hm' ho5 ht' bel' HF' H0' hVV e1 htop'
      generalize hq : dq f' 1000000000 n' = Q at *
      clear hq
      generalize trimN Q n' = n2 at *
      have e2 := hm5.count
      have hVK : V < 10 ^ K := hV'
      clear hV'
      go_wp2_with fail
      go_loopw [4, 5, 6] (fun s4 s5 s6 wy => ∃ (i X K' p' : Nat) (out' : List UInt8), i ≤ 9 ∧ s6 = .int .i64 i ∧ s5 = .int .u32 ((X % 10 ^ (9 - i) : Nat) : Int) ∧ X / 10 ^ (9 - i) = V / 1000000000 ∧ s4 = .int .i64 p' ∧ p' + out'.length = 400 ∧ K' + out'.length = 386 ∧ X < 10 ^ K' ∧ dec 386 V0 = dec K' X ++ out' ∧ MagAt wy w.heap.size n2 (ext n' Q) ∧ TxtAt wy (w.heap.size + 1) out' ∧ p' ≤ p ∧ (i = 0 → X = V) ∧ (0 < i → p' < p) ∧ Below w.heap.size w wy) (fun _ _ s6 _ => 9 - (intOf s6).toNat)
      case atStart => exact ⟨0, V, K, p, out, by omega, rfl, rfl, rfl, rfl, hp0, hK, hVK, HD2.out, hm5, ht5, Nat.le_refl _, fun _ => rfl, fun h => by omega, bel5⟩
      case round =>
        rename World => wy
        obtain ⟨i, X, K', p', out', hi, rfl, rfl, hXM, rfl, hp2, hK2, hXK, hD3, hm6, ht6, hpp, hi0, hip, bel6⟩ := hrel
        have HXM := hideD hXM
        have HXK := hideD hXK
        have HD3 := hideD hD3
        clear hXM hXK hD3 hm5 ht5 bel5 hVK HD2
        by_cases hi9 : i < 9
        · have hp10 : 10 * 10 ^ (9 - (i + 1)) = 10 ^ (9 - i) := by rw [show 9 - i = 9 - (i + 1) + 1 from by omega, pow10_s]
          have hcb : X % 10 ^ (9 - i) < 1000000000 := Nat.lt_of_lt_of_le (Nat.mod_lt _ (Nat.pos_of_ne_zero (by simp))) (Nat.le_trans (Nat.pow_le_pow_right (by decide) (show 9 - i ≤ 9 by omega)) (by decide))
          have hc1 : X % 10 ^ (9 - i) % 10 = X % 10 := Nat.mod_mod_of_dvd _ ⟨_, hp10.symm⟩
          have hc2 : X % 10 ^ (9 - i) / 10 = X / 10 % 10 ^ (9 - (i + 1)) := by rw [← hp10]; exact Nat.mod_mul_right_div_self X 10 _
          have hcX : X / 10 ^ (9 - i) = 0 → X % 10 ^ (9 - i) = 0 → X = 0 := fun h1 h2 => by
            have := Nat.div_add_mod X (10 ^ (9 - i)); rw [h1, h2] at this; simp at this; exact this.symm
          have hX1 : 0 < X % 10 ^ (9 - i) → 0 < X := fun h => by
            rcases Nat.eq_zero_or_pos X with h0 | h0
            · rw [h0] at h; simp at h
            · exact h0
          have hX2 : 0 < X / 10 ^ (9 - i) → 0 < X := fun h => by
            rcases Nat.eq_zero_or_pos X with h0 | h0
            · rw [h0] at h; simp at h
            · exact h0
          generalize X % 10 ^ (9 - i) = c at *
          by_cases hc0 : 0 < c
          · have hX : 0 < X := hX1 hc0
            clear hX1 hX2 hcX
            obtain ⟨K2, rfl⟩ := dec_fuel HXK.out hX
            obtain ⟨q, rfl⟩ : ∃ q, p' = q + 1 := ⟨p' - 1, by omega⟩
            obtain ⟨u, hu⟩ := ht6.cell q (by omega)
            have hfz := ht6.frozen q
            have e2 := hm6.count
            obtain ⟨ch, hch⟩ : ∃ ch, ch = UInt8.ofNat (48 + X % 10) := ⟨_, rfl⟩
            have hct : ((ch.toNat : Nat) : Int) = 48 + (c : Int) % 10 := by rw [hch]; simp; omega
            have Hct := hideD hct
            have hpush := ht6.push ch (by omega)
            rw [show 400 - out'.length - 1 = q from by omega, hct] at hpush
            have hoo : Only (w.heap.size + 1) wy (wy.setCell ⟨w.heap.size + 1, q, none⟩ (.int .u8 (48 + (c : Int) % 10))) := Only.setCell wy ⟨w.heap.size + 1, q, none⟩ _
            have hm7 := hm6.only hoo (by omega)
            have bel7 := bel6.trans (hoo.below (by omega))
            have R : Hid (((c / 10 : Nat) : Int) = ((X / 10 % 10 ^ (9 - (i + 1)) : Nat) : Int) ∧ X / 10 / 10 ^ (9 - (i + 1)) = V / 1000000000 ∧ X / 10 < 10 ^ K2 ∧ dec 386 V0 = dec K2 (X / 10) ++ (ch :: out')) := by
              refine ⟨by rw [hc2], ?_, dec_bound HXK.out, ?_⟩
              · rw [← HXM.out, Nat.div_div_eq_div_mul, hp10]
              · rw [HD3.out, dec_step _ _ hX, ← hch]; simp
            clear hct hch Hct hoo ht6 hm6 bel6 HXM HXK HD3 hc1 hc2 hi0 hip
            go_wp2_with fail
            go_roundw
            case rel => exact ⟨i + 1, X / 10, K2, q, ch :: out', by omega, by go_num, congrArg (Value.int .u32) R.out.1, R.out.2.1, rfl, by simp; omega, by simp; omega, R.out.2.2.1, R.out.2.2.2, hm7, hpush, by omega, fun h => by omega, fun _ => by omega, bel7⟩
            case measure => simp [intOf]; omega
          by_cases hn2 : 0 < n2
          · have hX : 0 < X := hX2 (by
              rw [HXM.out, ← HM.out]
              obtain ⟨k, rfl⟩ : ∃ k, n2 = k + 1 := ⟨n2 - 1, by omega⟩
              have h1 := val_top (Ht.out (by omega))
              have h2 := pow_pos' k
              simp only [Nat.add_sub_cancel] at h1
              omega)
            clear hX1 hX2 hcX
            have dc : decide (0 < (c : Int)) = false := decide_eq_false (by omega)
            obtain ⟨K2, rfl⟩ := dec_fuel HXK.out hX
            obtain ⟨q, rfl⟩ : ∃ q, p' = q + 1 := ⟨p' - 1, by omega⟩
            obtain ⟨u, hu⟩ := ht6.cell q (by omega)
            have hfz := ht6.frozen q
            have e2 := hm6.count
            obtain ⟨ch, hch⟩ : ∃ ch, ch = UInt8.ofNat (48 + X % 10) := ⟨_, rfl⟩
            have hct : ((ch.toNat : Nat) : Int) = 48 + (c : Int) % 10 := by rw [hch]; simp; omega
            have Hct := hideD hct
            have hpush := ht6.push ch (by omega)
            rw [show 400 - out'.length - 1 = q from by omega, hct] at hpush
            have hoo : Only (w.heap.size + 1) wy (wy.setCell ⟨w.heap.size + 1, q, none⟩ (.int .u8 (48 + (c : Int) % 10))) := Only.setCell wy ⟨w.heap.size + 1, q, none⟩ _
            have hm7 := hm6.only hoo (by omega)
            have bel7 := bel6.trans (hoo.below (by omega))
            have R : Hid (((c / 10 : Nat) : Int) = ((X / 10 % 10 ^ (9 - (i + 1)) : Nat) : Int) ∧ X / 10 / 10 ^ (9 - (i + 1)) = V / 1000000000 ∧ X / 10 < 10 ^ K2 ∧ dec 386 V0 = dec K2 (X / 10) ++ (ch :: out')) := by
              refine ⟨by rw [hc2], ?_, dec_bound HXK.out, ?_⟩
              · rw [← HXM.out, Nat.div_div_eq_div_mul, hp10]
              · rw [HD3.out, dec_step _ _ hX, ← hch]; simp
            clear hct hch Hct hoo ht6 hm6 bel6 HXM HXK HD3 hc1 hc2 hi0 hip
            go_wp2_with fail
            go_roundw
            case rel => exact ⟨i + 1, X / 10, K2, q, ch :: out', by omega, by go_num, congrArg (Value.int .u32) R.out.1, R.out.2.1, rfl, by simp; omega, by simp; omega, R.out.2.2.1, R.out.2.2.2, hm7, hpush, by omega, fun h => by omega, fun _ => by omega, bel7⟩
            case measure => simp [intOf]; omega
          have hM0 : V / 1000000000 = 0 := by rw [← HM.out, show n2 = 0 from by omega]; rfl
          have hX0 : X = 0 := hcX (by rw [HXM.out, hM0]) (by omega)
          have hXe : X = V / 1000000000 := by rw [hX0, hM0]
          have dc : decide (0 < (c : Int)) = false := decide_eq_false (by omega)
          have dn : decide (0 < (n2 : Int)) = false := decide_eq_false (by omega)
          clear hX1 hX2 hcX hc1 hc2 hcb hM0
          have e2 := hm6.count
          have hfin : Hid (val Q n2 < 10 ^ K' ∧ dec 386 V0 = dec K' (val Q n2) ++ out') := by
            unfold Hid
            rw [HM.out, ← hXe]
            exact ⟨HXK.out, HD3.out⟩
          have hlast : p' < p := by
            apply hip
            rcases Nat.eq_zero_or_pos i with h | h
            · exfalso; have := hi0 h; omega
            · exact h
          have hm8 : MagAt wy w.heap.size n2 (ext n2 Q) := by
            have he : ext n' Q = ext n2 Q := by
              funext x
              unfold ext
              by_cases h1 : x < n2
              · rw [if_pos h1, if_pos (by omega)]
              · rw [if_neg h1]
                by_cases h2 : x < n'
                · rw [if_pos h2]; exact Htz.out x (by omega) h2
                · rw [if_neg h2]
            rw [← he]; exact hm6
          have hve : Hid (val (ext n2 Q) n2 = val Q n2) := val_congr (fun x hx => by simp [ext, hx])
          clear hm6 HXM HXK HD3 hi0 hip
          go_wp2_with fail
          go_roundw
          case rel => exact ⟨n2, K', ext n2 Q, out', by omega, fun x => by unfold ext; split; exact Hlt.out x; omega, ext_ge n2 Q, hm8, ht6, ⟨p', rfl, hp2⟩, hK2, by rw [hve.out]; exact hfin.out.1, by rw [hve.out]; exact hfin.out.2, fun h => by have := Ht.out h; simp only [ext]; rw [if_pos (by omega)]; exact this, bel6⟩
          case measure => simp [intOf]; omega
        · obtain rfl : i = 9 := by omega
          have hXe : X = V / 1000000000 := by have := HXM.out; simpa using this
          have hc9 : X % 10 ^ (9 - 9) = 0 := by simp [Nat.mod_one]
          rw [hc9]
          have e2 := hm6.count
          have hfin : Hid (val Q n2 < 10 ^ K' ∧ dec 386 V0 = dec K' (val Q n2) ++ out') := by
            unfold Hid
            rw [HM.out, ← hXe]
            exact ⟨HXK.out, HD3.out⟩
          have hlast : p' < p := hip (by omega)
          have hm8 : MagAt wy w.heap.size n2 (ext n2 Q) := by
            have he : ext n' Q = ext n2 Q := by
              funext x
              unfold ext
              by_cases h1 : x < n2
              · rw [if_pos h1, if_pos (by omega)]
              · rw [if_neg h1]
                by_cases h2 : x < n'
                · rw [if_pos h2]; exact Htz.out x (by omega) h2
                · rw [if_neg h2]
            rw [← he]; exact hm6
          have hve : Hid (val (ext n2 Q) n2 = val Q n2) := val_congr (fun x hx => by simp [ext, hx])
          clear hm6 HXM HXK HD3 hi0 hip
          go_wp2_with fail
          go_roundw
          case rel => exact ⟨n2, K', ext n2 Q, out', by omega, fun x => by unfold ext; split; exact Hlt.out x; omega, ext_ge n2 Q, hm8, ht6, ⟨p', rfl, hp2⟩, hK2, by rw [hve.out]; exact hfin.out.1, by rw [hve.out]; exact hfin.out.2, fun h => by have := Ht.out h; simp only [ext]; rw [if_pos (by omega)]; exact this, bel6⟩
          case measure => simp [intOf]; omega

end Go.Proofs.Ytppfohpgcofkbaa.B

namespace Go.Proofs.Ytppfohpgcofkbaa.B
open Go.RowKit Go.Joins

theorem Lim.ext' {w v n f} (h : Lim w v n f) : Lim w v n (ext n f) := by
  obtain ⟨a, c, rfl, h1, h2, h3, h4⟩ := h
  refine ⟨a, c, rfl, h1, h2, fun i hi => by simp [ext, hi, h3 i hi], fun hn => ?_⟩
  obtain ⟨b, off, rfl, h5⟩ := h4 hn
  exact ⟨b, off, rfl, fun i hi => by rw [h5 i hi]; simp [ext, hi]⟩

theorem fault_top {m n f} (h : faultB m n f = false) (hn : 0 < n) : ext n f (n - 1) ≠ 0 := by
  unfold faultB at h
  rw [if_neg (by omega)] at h
  simp at h
  simp only [ext]
  rw [if_pos (by omega)]
  exact h.2
theorem fault_zero {m f} (h : faultB m 0 f = false) : m = false := by simpa [faultB] using h

def textOf (m : Bool) (n : Nat) (f : Nat → Nat) : List UInt8 :=
  if faultB m n f = true then [] else if n = 0 then [48] else if m = true then 45 :: dec 386 (val (ext n f) n) else dec 386 (val (ext n f) n)

theorem dec_len (K N : Nat) : (dec K N).length ≤ K := by
  induction K generalizing N with
  | zero => simp [dec]
  | succ K ih =>
    unfold dec
    split
    · simp
    · simp; have := ih (N / 10); omega

theorem at2_start (w : World) (x0 x1 : Value) (t : TypeId) (w1 : World) (hb : Below (w.alloc (.cells #[x0, x1] t)).heap.size (w.alloc (.cells #[x0, x1] t)) w1) : w1.cell? ⟨w.heap.size, 0, none⟩ = some x0 ∧ w1.cell? ⟨w.heap.size, 1, none⟩ = some x1 :=
  ⟨(hb.cell (p := ⟨w.heap.size, 0, none⟩) (by simp)).trans (by simp), (hb.cell (p := ⟨w.heap.size, 1, none⟩) (by simp)).trans (by simp)⟩
theorem faultB_le' {m n f} (h : faultB m n f = false) : n ≤ 40 := by
  unfold faultB at h
  by_cases hz : n = 0
  · omega
  · simp [hz] at h; omega

set_option maxHeartbeats 400000 in
theorem sDigits_zero (a : Option Addr) (n c : Nat) (w : World) (hz : n ≤ 0) :
    Calls Try.prog 41 #[.slice a n c] w fun e w' => e = .returned (.string ⟨#[48]⟩) ∧ w = w' := by
  have hn0 : ((n : Int) == 0) = true := by simp; omega
  go_enter Try.func41, Try.ntmps41
  go_wp2_with fail
  go_ret
  exact ⟨rfl, rfl⟩

set_option maxHeartbeats 1000000 in
set_option maxRecDepth 100000 in
theorem sText_any (m : Bool) (v : Value) (n : Nat) (f : Nat → Nat) (w : World) (hL : Lim w v n f) :
    Calls Try.prog 30 #[.agg #[.bool m, v]] w fun e w' => e = .returned (.string ⟨(textOf m n f).toArray⟩) ∧ Below w.heap.size w w' := by
  obtain ⟨a, c, rfl, -⟩ := id hL
  by_cases hf : faultB m n f = true
  · have HT : Hid (textOf m n f = []) := if_pos hf
    go_enter Try.func30, Try.ntmps30
    go_wp2_with fail
    refine (sFault_any m _ n f _ (hL.below (below_alloc1 _ _))).mono ?_
    rintro e w1 ⟨rfl, hb1⟩
    rw [hf]
    have bel1 := (below_alloc1 w _).trans (hb1.mono (by simp))
    clear hb1 hf
    go_wp2_with fail
    go_ret
    exact ⟨by rw [HT.out]; rfl, bel1⟩
  · have hf := Bool.eq_false_iff.2 hf
    have hn40 := faultB_le' hf
    rcases Nat.eq_zero_or_pos n with h0 | hp
    · have hm : m = false := fault_zero (f := f) (by rw [h0] at hf; exact hf)
      subst hm
      have HT : Hid (textOf false n f = [48]) := by unfold Hid textOf; rw [hf, if_neg (by simp), if_pos h0]
      have hz : n ≤ 0 := by omega
      clear h0
      go_enter Try.func30, Try.ntmps30
      go_wp2_with fail
      refine (sFault_any _ _ n f _ (hL.below (below_alloc1 _ _))).mono ?_
      rintro e w1 ⟨rfl, hb1⟩
      rw [hf]
      have t1 := (at2_start w (.bool false) (.slice a n c) 32 w1 hb1)
      have bel1 := (below_alloc1 w _).trans (hb1.mono (by simp))
      obtain ⟨c0, c1⟩ := t1
      clear hb1 hf
      go_wp2_with fail
      refine (sDigits_zero a n c _ (by omega)).mono ?_
      rintro e w2 ⟨rfl, rfl⟩
      go_wp2_with fail
      go_ret
      exact ⟨by rw [HT.out]; rfl, bel1⟩
    · have htop := fault_top hf hp
      have HE := hL.ext'
      have Hlt : Hid (∀ i, ext n f i < 4294967296) := extLt hL
      have hdl := dec_len 386 (val (ext n f) n)
      have hdl2 : ((dec 386 (val (ext n f) n)).length : Int) ≤ 8388608 := by omega
      cases m
      · have HT : Hid (textOf false n f = dec 386 (val (ext n f) n)) := by unfold Hid textOf; rw [hf, if_neg (by simp), if_neg (by omega), if_neg (by simp)]
        have HC : Hid (∀ w, Lim w (.slice a n c) n f → Calls Try.prog 41 #[.slice a n c] w fun e w' => e = .returned (.string ⟨(dec 386 (val (ext n f) n)).toArray⟩) ∧ Below w.heap.size w w') := fun w h => sDigits_pos _ n (ext n f) w h.ext' Hlt.out hp hn40 (fun _ => htop)
        generalize dec 386 (val (ext n f) n) = T at *
        go_enter Try.func30, Try.ntmps30
        go_wp2_with fail
        refine (sFault_any _ _ n f _ (hL.below (below_alloc1 _ _))).mono ?_
        rintro e w1 ⟨rfl, hb1⟩
        rw [hf]
        have t1 := (at2_start w (.bool false) (.slice a n c) 32 w1 hb1)
        have bel1 := (below_alloc1 w _).trans (hb1.mono (by simp))
        have z1 := bel1.size
        obtain ⟨c0, c1⟩ := t1
        clear hb1 hf
        go_wp2_with fail
        refine (HC.out _ (hL.below bel1)).mono ?_
        rintro e w2 ⟨rfl, hb2⟩
        have bel2 := bel1.trans (hb2.mono z1)
        go_wp2_with fail
        go_ret
        exact ⟨by rw [HT.out]; rfl, bel2⟩
      · have HT : Hid (textOf true n f = 45 :: dec 386 (val (ext n f) n)) := by unfold Hid textOf; rw [hf, if_neg (by simp), if_neg (by omega), if_pos rfl]
        have HC : Hid (∀ w, Lim w (.slice a n c) n f → Calls Try.prog 41 #[.slice a n c] w fun e w' => e = .returned (.string ⟨(dec 386 (val (ext n f) n)).toArray⟩) ∧ Below w.heap.size w w') := fun w h => sDigits_pos _ n (ext n f) w h.ext' Hlt.out hp hn40 (fun _ => htop)
        generalize dec 386 (val (ext n f) n) = T at *
        go_enter Try.func30, Try.ntmps30
        go_wp2_with fail
        refine (sFault_any _ _ n f _ (hL.below (below_alloc1 _ _))).mono ?_
        rintro e w1 ⟨rfl, hb1⟩
        rw [hf]
        have t1 := (at2_start w (.bool true) (.slice a n c) 32 w1 hb1)
        have bel1 := (below_alloc1 w _).trans (hb1.mono (by simp))
        have z1 := bel1.size
        obtain ⟨c0, c1⟩ := t1
        clear hb1 hf
        go_wp2_with fail
        refine (HC.out _ (hL.below bel1)).mono ?_
        rintro e w2 ⟨rfl, hb2⟩
        have bel2 := bel1.trans (hb2.mono z1)
        go_wp2_with fail
        go_ret
        exact ⟨by rw [HT.out]; exact congrArg (fun s => Ending.returned (Value.string s)) (ByteArray.mk_append_mk [45] T), bel2⟩

set_option maxHeartbeats 1000000 in
set_option maxRecDepth 100000 in
theorem iText_any (m : Bool) (v : Value) (n : Nat) (f : Nat → Nat) (w : World) (hL : Lim w v n f) :
    Calls Try.prog 79 #[.agg #[.bool m, v]] w fun e w' => e = .returned (.string ⟨(textOf m n f).toArray⟩) ∧ Below w.heap.size w w' := by
  obtain ⟨a, c, rfl, -⟩ := id hL
  by_cases hf : faultB m n f = true
  · have HT : Hid (textOf m n f = []) := if_pos hf
    go_enter Try.func79, Try.ntmps79
    go_wp2_with fail
    refine (iFault_any m _ n f _ (hL.below (below_alloc1 _ _))).mono ?_
    rintro e w1 ⟨rfl, hb1⟩
    rw [hf]
    have bel1 := (below_alloc1 w _).trans (hb1.mono (by simp))
    clear hb1 hf
    go_wp2_with fail
    go_ret
    exact ⟨by rw [HT.out]; rfl, bel1⟩
  · have hf := Bool.eq_false_iff.2 hf
    have hn40 := faultB_le' hf
    rcases Nat.eq_zero_or_pos n with h0 | hp
    · have hm : m = false := fault_zero (f := f) (by rw [h0] at hf; exact hf)
      subst hm
      have HT : Hid (textOf false n f = [48]) := by unfold Hid textOf; rw [hf, if_neg (by simp), if_pos h0]
      have hz : n ≤ 0 := by omega
      clear h0
      go_enter Try.func79, Try.ntmps79
      go_wp2_with fail
      refine (iFault_any _ _ n f _ (hL.below (below_alloc1 _ _))).mono ?_
      rintro e w1 ⟨rfl, hb1⟩
      rw [hf]
      have t1 := (at2_start w (.bool false) (.slice a n c) 32 w1 hb1)
      have bel1 := (below_alloc1 w _).trans (hb1.mono (by simp))
      obtain ⟨c0, c1⟩ := t1
      have hn0 : ((n : Int) == 0) = true := by simp; omega
      clear hb1 hf
      go_wp2_with fail
      go_ret
      exact ⟨by rw [HT.out]; rfl, bel1⟩
    · have htop := fault_top hf hp
      have Hlt : Hid (∀ i, ext n f i < 4294967296) := extLt hL
      have hdl := dec_len 386 (val (ext n f) n)
      have hdl2 : ((dec 386 (val (ext n f) n)).length : Int) ≤ 8388608 := by omega
      have hn0 : ((n : Int) == 0) = false := by simp; omega
      cases m
      · have HT : Hid (textOf false n f = dec 386 (val (ext n f) n)) := by unfold Hid textOf; rw [hf, if_neg (by simp), if_neg (by omega), if_neg (by simp)]
        have HC : Hid (∀ (cs : Array Value) (w : World), MagC cs n (ext n f) → Calls Try.prog 80 #[.agg cs] w fun e w' => e = .returned (.string ⟨(dec 386 (val (ext n f) n)).toArray⟩) ∧ Below w.heap.size w w') := fun cs w h => iDigits_any cs n (ext n f) w h Hlt.out (ext_ge n f) hn40 (fun _ => htop)
        generalize dec 386 (val (ext n f) n) = T at *
        go_enter Try.func79, Try.ntmps79
        go_wp2_with fail
        refine (iFault_any _ _ n f _ (hL.below (below_alloc1 _ _))).mono ?_
        rintro e w1 ⟨rfl, hb1⟩
        rw [hf]
        have t1 := (at2_start w (.bool false) (.slice a n c) 32 w1 hb1)
        have bel1 := (below_alloc1 w _).trans (hb1.mono (by simp))
        have z1 := bel1.size
        have z0 : w.heap.size < w1.heap.size := by have := hb1.size; simp at this; omega
        obtain ⟨c0, c1⟩ := t1
        clear hb1 hf
        go_wp2_with fail
        refine (magOf_any _ n f _ (hL.below bel1) (by omega)).mono ?_
        rintro e w3 ⟨cs3, rfl, hc3, hb3⟩
        have bel3 := bel1.trans (hb3.mono z1)
        have c30 := (hb3.cell (p := ⟨w.heap.size, 0, none⟩) z0).trans c0
        have z3 := bel3.size
        have z03 : w.heap.size < w3.heap.size := by have := hb3.size; omega
        clear c0 c1 hb3
        go_wp2_with fail
        refine (HC.out cs3 _ hc3).mono ?_
        rintro e w2 ⟨rfl, hb2⟩
        have bel2 := bel3.trans (hb2.mono z3)
        have c20 := (hb2.cell (p := ⟨w.heap.size, 0, none⟩) (by show w.heap.size < w3.heap.size; omega)).trans c30
        clear c30
        go_wp2_with fail
        go_ret
        exact ⟨by rw [HT.out]; rfl, bel2⟩
      · have HT : Hid (textOf true n f = 45 :: dec 386 (val (ext n f) n)) := by unfold Hid textOf; rw [hf, if_neg (by simp), if_neg (by omega), if_pos rfl]
        have HC : Hid (∀ (cs : Array Value) (w : World), MagC cs n (ext n f) → Calls Try.prog 80 #[.agg cs] w fun e w' => e = .returned (.string ⟨(dec 386 (val (ext n f) n)).toArray⟩) ∧ Below w.heap.size w w') := fun cs w h => iDigits_any cs n (ext n f) w h Hlt.out (ext_ge n f) hn40 (fun _ => htop)
        generalize dec 386 (val (ext n f) n) = T at *
        go_enter Try.func79, Try.ntmps79
        go_wp2_with fail
        refine (iFault_any _ _ n f _ (hL.below (below_alloc1 _ _))).mono ?_
        rintro e w1 ⟨rfl, hb1⟩
        rw [hf]
        have t1 := (at2_start w (.bool true) (.slice a n c) 32 w1 hb1)
        have bel1 := (below_alloc1 w _).trans (hb1.mono (by simp))
        have z1 := bel1.size
        have z0 : w.heap.size < w1.heap.size := by have := hb1.size; simp at this; omega
        obtain ⟨c0, c1⟩ := t1
        clear hb1 hf
        go_wp2_with fail
        refine (magOf_any _ n f _ (hL.below bel1) (by omega)).mono ?_
        rintro e w3 ⟨cs3, rfl, hc3, hb3⟩
        have bel3 := bel1.trans (hb3.mono z1)
        have c30 := (hb3.cell (p := ⟨w.heap.size, 0, none⟩) z0).trans c0
        have z3 := bel3.size
        have z03 : w.heap.size < w3.heap.size := by have := hb3.size; omega
        clear c0 c1 hb3
        go_wp2_with fail
        refine (HC.out cs3 _ hc3).mono ?_
        rintro e w2 ⟨rfl, hb2⟩
        have bel2 := bel3.trans (hb2.mono z3)
        have c20 := (hb2.cell (p := ⟨w.heap.size, 0, none⟩) (by show w.heap.size < w3.heap.size; omega)).trans c30
        clear c30
        go_wp2_with fail
        go_ret
        exact ⟨by rw [HT.out]; exact congrArg (fun s => Ending.returned (Value.string s)) (ByteArray.mk_append_mk [45] T), bel2⟩

end Go.Proofs.Ytppfohpgcofkbaa.B
