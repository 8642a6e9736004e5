import GoSem.Claim
import Derived.Test.YtpcnmolncoaddaaNum
import Derived.Test.YtpcnmolncoaddaaSMul
import Derived.Test.YtpcnmolncoaddaaSSub
import Derived.Test.YtpcnmolncoaddaaOf
import Derived.Test.YtpcnmolncoaddaaJA
import Derived.Test.YtpcnmolncoaddaaMarks5
import Derived.Deep.RegionHeld3
import Derived.Deep.DeepCutAuto
namespace Go.Proofs.Ytpcnmolncoaddaa

/-- The limb k of a number. -/
def lmb (V k : Nat) : Nat := V / 2 ^ (32 * k) % 4294967296

theorem lmb_lt (V k : Nat) : lmb V k < 4294967296 := Nat.mod_lt _ (by decide)
theorem lmb_zero (k : Nat) : lmb 0 k = 0 := by simp [lmb]
theorem lmb_bit (V k t : Nat) : (lmb V k).testBit t = (decide (t < 32) && V.testBit (32 * k + t)) := by
  unfold lmb
  rw [show (4294967296 : Nat) = 2 ^ 32 by decide, Nat.testBit_mod_two_pow, Nat.testBit_div_two_pow, Nat.add_comm t]

/-- A bit more, ahead of which there is none. -/
theorem lmb_or (K i k : Nat) : lmb (K * 2 ^ (i + 1) + 2 ^ i) k = if k = i / 32 then lmb (K * 2 ^ (i + 1)) k ||| 2 ^ (i % 32) else lmb (K * 2 ^ (i + 1)) k := by
  have e : K * 2 ^ (i + 1) + 2 ^ i = K * 2 ^ (i + 1) ||| 2 ^ i := by
    rw [Nat.mul_comm K]
    exact Nat.two_pow_add_eq_or_of_lt (Nat.pow_lt_pow_right (by decide) (by omega)) K
  rw [e]
  apply Nat.eq_of_testBit_eq
  intro t
  rw [lmb_bit, Nat.testBit_or, Nat.testBit_two_pow]
  split
  · rename_i hk
    rw [Nat.testBit_or, lmb_bit, Nat.testBit_two_pow]
    by_cases ht : t < 32
    · have : (i = 32 * k + t) ↔ (i % 32 = t) := by omega
      simp [ht, this]
    · have : ¬ i % 32 = t := by omega
      simp [ht, this]
  · rename_i hk
    rw [lmb_bit]
    by_cases ht : t < 32
    · have : ¬ i = 32 * k + t := by omega
      simp [this]
    · simp [ht]

/-- One round: the bit i of A is taken. -/
theorem div_round (A i : Nat) :
    A / 2 ^ i = 2 * (A / 2 ^ (i + 1)) + A / 2 ^ i % 2 := by
  rw [Nat.pow_succ, ← Nat.div_div_eq_div_mul]
  omega

theorem div_next (T b B : Nat) (hB : 0 < B) (hb : b < 2) :
    (2 * T + b) / B = 2 * (T / B) + (if B ≤ 2 * (T % B) + b then 1 else 0) ∧ (2 * T + b) % B = 2 * (T % B) + b - (if B ≤ 2 * (T % B) + b then B else 0) := by
  have h := Nat.div_add_mod T B
  have hr := Nat.mod_lt T hB
  generalize T / B = q at *
  generalize T % B = r at *
  have e2 : 2 * T + b = B * (2 * q) + (2 * r + b) := by
    rw [← h, ← Nat.mul_assoc, Nat.mul_comm B 2, Nat.mul_assoc]; omega
  split
  · rename_i hle
    have e3 : 2 * T + b = (2 * r + b - B) + B * (2 * q + 1) := by rw [e2, Nat.mul_add]; omega
    rw [e3, Nat.add_mul_div_left _ _ hB, Nat.add_mul_mod_self_left, Nat.div_eq_of_lt (by omega), Nat.mod_eq_of_lt (by omega)]
    omega
  · rename_i hle
    rw [e2, Nat.add_comm, Nat.add_mul_div_left _ _ hB, Nat.add_mul_mod_self_left, Nat.div_eq_of_lt (by omega), Nat.mod_eq_of_lt (by omega)]
    omega

/-- The bit i of a number in its limb. -/
theorem bit_limb (A i : Nat) : lmb A (i / 32) / 2 ^ (i % 32) % 2 = A / 2 ^ i % 2 := by
  have h1 := lmb_bit A (i / 32) (i % 32)
  rw [show 32 * (i / 32) + i % 32 = i by omega, decide_eq_true (Nat.mod_lt i (by decide)), Bool.true_and] at h1
  simp only [Nat.testBit_eq_decide_div_mod_eq] at h1
  have := decide_eq_decide.1 h1
  omega

theorem pow32 (k : Nat) : 4294967296 ^ k = 2 ^ (32 * k) := by rw [Nat.pow_mul]

end Go.Proofs.Ytpcnmolncoaddaa

namespace Go.Proofs.Ytpcnmolncoaddaa
open Go.RowKit Go.Joins

theorem val_lmb (V : Nat) : ∀ n, val (lmb V) n = V % 4294967296 ^ n
  | 0 => by simp [val, Nat.mod_one]
  | n + 1 => by
    show val (lmb V) n + lmb V n * 4294967296 ^ n = _
    rw [val_lmb V n, pow_s, Nat.mul_comm 4294967296, Nat.mod_mul]
    unfold lmb
    rw [pow32, Nat.mul_comm (2 ^ (32 * n))]

theorem magAdd {f f' : Nat → Nat} {n n' A B : Nat} (h : Norm (ext n f) n A) (h' : Norm (ext n' f') n' B) :
    Norm (ext (trimN (addD (ext n f) (ext n' f')) (max n n' + 1)) (addD (ext n f) (ext n' f'))) (trimN (addD (ext n f) (ext n' f')) (max n n' + 1)) (A + B) := by
  have := (addNorm h h' false false ((A + B : Nat) : Int) (by simp)).1
  rw [Int.natAbs_natCast] at this
  exact this

theorem norm_lmb {A n : Nat} {f : Nat → Nat} (h : Norm f n A) : f = lmb A := by
  have hA : A < 4294967296 ^ n := by have := val_lt h.lt n; rwa [h.val] at this
  have hn : Norm (lmb A) n A := ⟨lmb_lt A, fun i hi => by
      unfold lmb
      rw [Nat.div_eq_of_lt]
      rw [← pow32]
      exact Nat.lt_of_lt_of_le hA (Nat.pow_le_pow_right (by decide) hi), fun hp => ?_, by rw [val_lmb, Nat.mod_eq_of_lt hA]⟩
  · exact (h.unique hn).2
  · obtain ⟨j, rfl⟩ : ∃ j, n = j + 1 := ⟨n - 1, by omega⟩
    have h1 := val_top (h.top hp)
    rw [show j + 1 - 1 = j from rfl, h.val, pow32] at h1
    rw [show j + 1 - 1 = j from rfl]
    unfold lmb
    rw [pow_s, pow32] at hA
    have h2 : 0 < A / 2 ^ (32 * j) := Nat.div_pos h1 (Nat.pow_pos (by decide))
    have h3 : A / 2 ^ (32 * j) < 4294967296 := Nat.div_lt_of_lt_mul (by rwa [Nat.mul_comm] at hA)
    rw [Nat.mod_eq_of_lt h3]
    omega

/-- What the model's long division holds: the quotient so far, and what is left. -/
structure DivSt (w wr : World) (n V : Nat) (vr : Value) (N : Nat) (D : Nat → Nat) : Prop where
  bel : Below w.heap.size w wr
  res : Res2 wr w.heap.size (.slice none 0 0) (.slice none 0 0)
  out : Res2 wr (w.heap.size + 1 + 1) (.slice (some ⟨w.heap.size + 1, 0, none⟩) n n) vr
  quot : Half wr (w.heap.size + 1) n n (lmb V)
  rem : Own (w.heap.size + 1 + 1 + 1) wr vr N D
  z : w.heap.size + 1 + 1 + 1 ≤ wr.heap.size

theorem Half.next {w w' B n f} (h : Half w B n n f) (hb : Below w.heap.size w w') : Half w' B n n f := by
  obtain ⟨cs, h1, h2, h3⟩ := h
  refine ⟨cs, ?_, h2, h3⟩
  have hl : B < w.heap.size := by
    apply Decidable.byContradiction
    intro hx
    rw [Array.getElem?_eq_none (by omega)] at h1
    cases h1
  exact (hb.block B hl).trans h1

theorem DivSt.next {w wr w1 n V vr N D} (h : DivSt w wr n V vr N D) (hb : Below wr.heap.size wr w1) : DivSt w w1 n V vr N D :=
  ⟨h.bel.trans (hb.mono h.bel.size), h.res.next hb, h.out.next hb, h.quot.next hb, h.rem.below hb, Nat.le_trans h.z hb.size⟩

theorem DivSt.store {w wr w1 n V vr N D v1 N1 D1} (h : DivSt w wr n V vr N D) (hb : Below wr.heap.size wr w1) (ho : Own wr.heap.size w1 v1 N1 D1) :
    DivSt w (w1.setCell ⟨w.heap.size + 1 + 1, 1, none⟩ v1) n V v1 N1 D1 := by
  have h1 := h.next hb
  have hz := h.z
  have hs := Only.setCell w1 ⟨w.heap.size + 1 + 1, 1, none⟩ v1
  obtain ⟨c0, c1, f0, f1, lt⟩ := h1.out
  exact ⟨h1.bel.trans (hs.below (by show _ ≤ w.heap.size + 1 + 1; omega)), h1.res.only hs (by show _ ≠ w.heap.size + 1 + 1; omega),
    ⟨by simp [go_sem, c0], by simp [go_sem, c1], by simpa [go_sem] using f0, by simpa [go_sem] using f1, by simpa using lt⟩,
    h1.quot.only hs (by show _ ≠ w.heap.size + 1 + 1; omega), (ho.less hz).set _ _ (by show w.heap.size + 1 + 1 < _; omega), by simpa using h1.z⟩

theorem sAddN {v v' : Value} {n n' : Nat} {f f' : Nat → Nat} {X Y : Nat} {w : World} (h : Lim w v n f) (h' : Lim w v' n' f') (hX : Norm (ext n f) n X) (hY : Norm (ext n' f') n' Y) (hn : n ≤ 1048576) (hn' : n' ≤ 1048576) :
    Calls Try.prog 81 #[v, v'] w fun e w' => ∃ (a : Option Addr) (c N : Nat) (D : Nat → Nat), e = .returned (.slice a N c) ∧ Own w.heap.size w' (.slice a N c) N D ∧ Norm (ext N D) N (X + Y) ∧ Below w.heap.size w w' := by
  refine (sAdd_any v v' n n' f f' w h h' hn hn').mono ?_
  rintro e w' ⟨v1, rfl, hr, hb⟩
  have ho := hr.own (fun i _ => Nat.mod_lt _ (by decide))
  obtain ⟨a, c, rfl, -⟩ := id ho
  exact ⟨a, c, _, _, rfl, ho, magAdd hX hY, hb⟩

theorem sSubN {v v' : Value} {n n' : Nat} {f f' : Nat → Nat} {X Y : Nat} {w : World} (h : Lim w v n f) (h' : Lim w v' n' f') (hX : Norm (ext n f) n X) (hY : Norm (ext n' f') n' Y) (hn : n ≤ 1048576) (hn' : n' ≤ 1048576) (hle : Y ≤ X) :
    Calls Try.prog 85 #[v, v'] w fun e w' => ∃ (a : Option Addr) (c N : Nat) (D : Nat → Nat), e = .returned (.slice a N c) ∧ Own w.heap.size w' (.slice a N c) N D ∧ Norm (ext N D) N (X - Y) ∧ Below w.heap.size w w' := by
  refine (sSub_any v v' n n' f f' w h h' hn hn').mono ?_
  rintro e w' ⟨v1, rfl, hr, hb⟩
  have ho := hr.own (fun i _ => Nat.mod_lt _ (by decide))
  obtain ⟨a, c, rfl, -⟩ := id ho
  exact ⟨a, c, _, _, rfl, ho, subNorm hX hY hle, hb⟩

theorem norm_one : Norm (ext 1 (fun _ => 1)) 1 1 := by
  refine ⟨fun i => ?_, fun i hi => ?_, fun _ => ?_, ?_⟩
  · unfold ext; split <;> simp
  · unfold ext; rw [if_neg (by omega)]
  · unfold ext; simp
  · simp [val, ext]

theorem Own.only {B w w' v n f g} (h : Own B w v n f) (ho : Only g w w') (hg : g < B) : Own B w' v n f := by
  obtain ⟨a, c, rfl, h1, h2, h3, h4⟩ := h
  refine ⟨a, c, rfl, h1, h2, h3, fun hn => ?_⟩
  obtain ⟨b, off, rfl, h7, h5, h6⟩ := h4 hn
  exact ⟨b, off, rfl, h7, fun i hi => (ho.cell _ _ (by omega)).trans (h5 i hi), fun i hi => (ho.frozen _ _ (by omega)).trans (h6 i hi)⟩

theorem DivSt.put {w wr w' n V V' vr N D} (h : DivSt w wr n V vr N D) (ho : Only (w.heap.size + 1) wr w') (hq : Half w' (w.heap.size + 1) n n (lmb V')) : DivSt w w' n V' vr N D :=
  ⟨h.bel.trans (ho.below (by omega)), h.res.only ho (by omega), h.out.only ho (by omega), hq, h.rem.only ho (by omega), by have := h.z; have := ho.size; omega⟩

theorem below_drewS (W0 : World) : Below W0.heap.size W0 W0.drew := ⟨rfl, rfl, rfl, Nat.le_refl _, fun _ _ => rfl⟩

theorem one_row (W : World) : Lim (W.alloc (.cells #[.int .u32 1] 60)) (.slice (some ⟨W.heap.size, 0, none⟩) 1 1) 1 (fun _ => 1) := by
  refine ⟨_, _, rfl, Nat.le_refl _, by unfold maxLen; omega, fun i _ => by show (1 : Nat) < 4294967296; decide, fun _ => ⟨W.heap.size, 0, rfl, fun i hi => ?_⟩⟩
  obtain rfl : i = 0 := by omega
  simp

theorem bit_test (x s : Nat) (hx : x < 4294967296) : (bits BinOp.and IntKind.u32 ((x : Int) / 2 ^ s) 1 == 1) = decide (x / 2 ^ s % 2 = 1) := by
  have e : (x : Int) / 2 ^ s = ((x / 2 ^ s : Nat) : Int) := by push_cast; rfl
  have h1 : x / 2 ^ s < 4294967296 := Nat.lt_of_le_of_lt (Nat.div_le_self _ _) hx
  rw [e, show (1 : Int) = ((1 : Nat) : Int) from rfl, u32_and_nat _ _ h1 (by decide), Nat.and_one_is_mod]
  by_cases h : x / 2 ^ s % 2 = 1
  · rw [h]; simp
  · have h0 : x / 2 ^ s % 2 = 0 := by omega
    rw [h0]; simp

theorem or_bit (x s : Nat) (hx : x < 4294967296) (hs : s < 32) : bits BinOp.or IntKind.u32 (x : Int) ((2 : Int) ^ s % 4294967296) = ((x ||| 2 ^ s : Nat) : Int) := by
  have h1 : 2 ^ s < 2 ^ 32 := Nat.pow_lt_pow_right (by decide) hs
  have e : (2 : Int) ^ s % 4294967296 = ((2 ^ s : Nat) : Int) := by
    rw [show (2 : Int) ^ s = ((2 ^ s : Nat) : Int) by push_cast; rfl]
    generalize 2 ^ s = P at *
    omega
  rw [e, u32_or_nat _ _ hx (by omega)]

set_option maxHeartbeats 4000000 in
set_option maxRecDepth 100000 in
theorem sDiv_any (v1 v2 : Value) (n m : Nat) (f g : Nat → Nat) (A B : Nat) (w : World) (hL : Lim w v1 n f) (hL' : Lim w v2 m g) (hA : Norm (ext n f) n A) (hB : Norm (ext m g) m B) (hn : n ≤ 1000) (hm : m ≤ 1000) (h0 : 0 < B) :
    Calls Try.prog 86 #[v1, v2] w fun e w' => ∃ (vq vr : Value) (Nq Nr : Nat) (Dq Dr : Nat → Nat), e = .returned (.agg #[vq, vr]) ∧ Own w.heap.size w' vq Nq Dq ∧ Own w.heap.size w' vr Nr Dr ∧
      Norm (ext Nq Dq) Nq (A / B) ∧ Norm (ext Nr Dr) Nr (A % B) ∧ Below w.heap.size w w' := by
  obtain ⟨a, c, rfl, h1, h2, h3, h4⟩ := id hL
  obtain ⟨a', c', rfl, -⟩ := id hL'
  have hmk := run_make_row' (P := Try.prog) 23 60 (.int .u32 0) 4 Try.underlying23 Try.info60 rfl .i64 .i64 n (by omega) (by omega)
  have hAn : A < 2 ^ (32 * n) := by have := val_lt hA.lt n; rw [hA.val, pow32] at this; exact this
  have hst : DivSt w (((w.alloc (.cells #[.slice none 0 0, .slice none 0 0] 95)).alloc (.cells (madeCells #[.int .u32 0] n) 60)).alloc (.cells #[.slice (some ⟨w.heap.size + 1, 0, none⟩) n n, .slice none 0 0] 95)) n (A / 2 ^ (32 * n) / B * 2 ^ (32 * n)) (.slice none 0 0) 0 (fun _ => 0) := by
    refine ⟨below_alloc3 _ _ _ _, ((Res2.start w _ _ 95).next (below_alloc1 _ _)).next (below_alloc1 _ _), ?_, ?_, ?_, by simp⟩
    · have := Res2.start ((w.alloc (.cells #[.slice none 0 0, .slice none 0 0] 95)).alloc (.cells (madeCells #[.int .u32 0] n) 60)) (.slice (some ⟨w.heap.size + 1, 0, none⟩) n n) (.slice none 0 0) 95
      simpa only [World.size_alloc] using this
    · rw [Nat.div_eq_of_lt hAn, Nat.zero_div, Nat.zero_mul]
      have := (half_made (w.alloc (.cells #[.slice none 0 0, .slice none 0 0] 95)) n).next (below_alloc1 _ (.cells #[.slice (some ⟨w.heap.size + 1, 0, none⟩) n n, .slice none 0 0] 95))
      simp only [World.size_alloc] at this
      exact this.eq (fun i _ => (lmb_zero i).symm)
    · exact ⟨none, 0, rfl, Nat.le_refl _, ⟨by unfold maxLen; omega, fun _ => rfl⟩, fun i hi => by omega, fun hx => by omega⟩
  have hno : Norm (ext 0 (fun _ => 0)) 0 (A / 2 ^ (32 * n) % B) := by
    rw [Nat.div_eq_of_lt hAn, Nat.zero_mod]
    have e : ext 0 (fun _ => 0) = fun _ => 0 := by funext i; unfold ext; split <;> rfl
    rw [e]; exact Norm.nil
  go_enter Try.func86, Try.ntmps86
  go_wp2_with fail
  clear hmk
  go_loopw [6] (fun s6 wr => ∃ (K : Nat) (z : Int) (vr : Value) (N : Nat) (D : Nat → Nat), K ≤ 32 * n ∧ s6 = .int .i64 z ∧ z = (K : Int) - 1 ∧ DivSt w wr n (A / 2 ^ K / B * 2 ^ K) vr N D ∧ Norm (ext N D) N (A / 2 ^ K % B)) (fun s6 _ => (intOf s6 + 1).toNat)
  case atStart => exact ⟨32 * n, _, _, _, _, Nat.le_refl _, rfl, by omega, hst, hno⟩
  case round =>
    clear hst hno
    obtain ⟨K, z, vr, N, D, hK, rfl, hz, hs, hN⟩ := hrel
    obtain ⟨ar, cr, rfl, -⟩ := id hs.rem
    obtain ⟨r0, r1, rf0, rf1, rlt⟩ := id hs.res
    obtain ⟨o0, o1, of0, of1, olt⟩ := id hs.out
    rcases K with _ | k
    · obtain rfl : z = -1 := by omega
      simp only [Nat.pow_zero, Nat.div_one, Nat.mul_one] at hs hN
      have ho := hs.quot.own (B' := w.heap.size + 1) rfl (Nat.le_refl _) (by unfold maxLen; omega) (fun i _ => lmb_lt _ i)
      have z := hs.z
      clear hz
      go_wp2_with fail
      refine (trim_any ho.lim ho.nil (by omega)).mono ?_
      rintro e w2 ⟨v2, rfl, hr2, hb2⟩
      have hs2 := hs.next hb2
      have ho2 := hr2.own (fun i _ => lmb_lt _ i)
      obtain ⟨a2, c2, rfl, -⟩ := id ho2
      clear r0 r1 rf0 rf1 rlt o0 o1 of0 of1 olt ho
      obtain ⟨r0, r1, rf0, rf1, rlt⟩ := id hs2.res
      obtain ⟨o0, o1, of0, of1, olt⟩ := id hs2.out
      go_wp2_with fail
      refine bodyPost_ret (v := .agg #[.slice a2 (trimN (lmb (A / B)) n) c2, .slice ar N cr]) (by simp [results, Try.results86, go_sem, r0, r1]) rfl ?_
      have hAB : A / B < 4294967296 ^ n := by rw [pow32]; exact Nat.lt_of_le_of_lt (Nat.div_le_self _ _) hAn
      have hq := norm_trim (f := lmb (A / B)) (k := n) (N := A / B) (fun i _ => lmb_lt _ i) (by rw [val_lmb, Nat.mod_eq_of_lt hAB])
      refine ⟨_, _, _, N, _, D, rfl, ?_, ?_, hq, hN, ?_⟩
      · exact (((ho2.set _ _ (by show w.heap.size + 1 + 1 < _; omega)).set _ _ (by show w.heap.size < _; omega)).set _ _ (by show w.heap.size < _; omega)).less (by omega)
      · exact (((hs2.rem.set _ _ (by show w.heap.size + 1 + 1 < _; omega)).set _ _ (by show w.heap.size < _; omega)).set _ _ (by show w.heap.size < _; omega)).less (by omega)
      · exact ((hs2.bel.setCell (by show _ ≤ w.heap.size + 1 + 1; omega) _).setCell (by show _ ≤ w.heap.size; omega) _).setCell (by show _ ≤ w.heap.size; omega) _
    · obtain rfl : z = (k : Int) := by omega
      have hk32 : k / 32 < n := by omega
      clear hz
      obtain ⟨b, off, rfl, h5⟩ := h4 (by omega)
      have g1 := (hs.bel.cell (p := ⟨b, off + k / 32, none⟩) (block_lt_of_cell (h5 _ hk32))).trans (h5 _ hk32)
      have hBm : B < 4294967296 ^ m := by have := val_lt hB.lt m; rwa [hB.val] at this
      have hB2 : 2 * B ≤ 4294967296 ^ (m + 1) := by rw [pow_s]; omega
      have hrn : N ≤ m := hN.count (Nat.lt_trans (Nat.mod_lt _ h0) hBm)
      have hrB := Nat.mod_lt (A / 2 ^ (k + 1)) h0
      have hfb : f (k / 32) = lmb A (k / 32) := by rw [← norm_lmb hA]; unfold ext; rw [if_pos hk32]
      have hb2 : A / 2 ^ k % 2 < 2 := Nat.mod_lt _ (by decide)
      have hT := div_round A k
      go_wp2_with fail
      refine (sAddN hs.rem.lim hs.rem.lim hN hN (by omega) (by omega)).mono ?_
      rintro e w1 ⟨a1, c1, N1, D1, rfl, ho1, hN1, hb1⟩
      have hs1 := hs.store hb1 ho1
      clear r0 r1 rf0 rf1 rlt o0 o1 of0 of1 olt
      obtain ⟨o0, o1, of0, of1, olt⟩ := id (hs.next hb1).out
      go_upto_region 6 with fail
      generalize hW1 : w1.setCell ⟨w.heap.size + 1 + 1, 1, none⟩ (.slice a1 N1 c1) = W1 at *
      clear hW1 g1 hs hN ho1 hb1 o0 o1 of0 of1 olt hrn
      have g1 := (hs1.bel.cell (p := ⟨b, off + k / 32, none⟩) (block_lt_of_cell (h5 _ hk32))).trans (h5 _ hk32)
      obtain ⟨o0, o1, of0, of1, olt⟩ := id hs1.out
      go_upto_if 35 with fail
      rw [bit_test _ _ (lmb_lt _ _), bit_limb]
      generalize A / 2 ^ k % 2 = bit at *
      generalize A / 2 ^ (k + 1) = T at *
      have hn1 : N1 ≤ m + 1 := hN1.count (by omega)
      go_cut [35] (fun _ wx => ∃ vr N D, DivSt w wx n (T / B * 2 ^ (k + 1)) vr N D ∧ Norm (ext N D) N (2 * (T % B) + bit))
      case first =>
        by_cases hbit : bit = 1
        · rw [decide_eq_true hbit]
          go_wp2_with fail
          refine (sAddN (hs1.rem.lim.below (below_alloc1 _ _)) (one_row W1) hN1 norm_one (by omega) (by omega)).mono ?_
          rintro e w2 ⟨a2, c2, N2, D2, rfl, ho2, hN2, hb2'⟩
          have hb2 := (below_alloc1 W1 (.cells #[.int .u32 1] 60)).trans (hb2'.mono (by simp))
          have hs2 := hs1.store hb2 (ho2.less (by simp))
          clear o0 o1 of0 of1 olt
          obtain ⟨o0, o1, of0, of1, olt⟩ := id (hs1.next hb2).out
          go_wp2_with fail
          go_meet
          case rel => exact ⟨_, _, _, hs2, by rw [hbit, Nat.two_mul]; exact hN2⟩
        · rw [decide_eq_false hbit]
          go_wp2_with fail
          go_meet
          case rel => exact ⟨_, _, _, hs1, by rw [Nat.two_mul, show bit = 0 by omega]; exact hN1⟩
      case rest =>
        obtain ⟨vr, N, D, hs, hN⟩ := hcut
        clear hs1 hN1 o0 o1 of0 of1 olt g1
        rename World => W
        obtain ⟨ar, cr, rfl, -⟩ := id hs.rem
        obtain ⟨o0, o1, of0, of1, olt⟩ := id hs.out
        have hnn : N ≤ m + 1 := hN.count (by omega)
        obtain ⟨q1, q2⟩ := div_next T bit B h0 hb2
        have e0 : (2 * (T / B) + 0) * 2 ^ k = T / B * 2 ^ (k + 1) := by rw [Nat.add_zero, Nat.pow_succ, Nat.mul_comm 2, Nat.mul_assoc, Nat.mul_comm 2]
        have e1 : (2 * (T / B) + 1) * 2 ^ k = T / B * 2 ^ (k + 1) + 2 ^ k := by rw [Nat.add_mul, Nat.one_mul, ← e0, Nat.add_zero]
        go_wp2_with fail
        refine (sCmp_any _ _ N m D g _ hs.rem.lim (hL'.below hs.bel) (by omega) (by omega)).mono ?_
        rintro e w1 ⟨rfl, rfl⟩
        rw [cmpNorm hN hB]
        by_cases hle : B ≤ 2 * (T % B) + bit
        · rw [if_neg (by omega)]
          obtain ⟨cv, hcv, hcv0⟩ : ∃ cv : Int, (if B < 2 * (T % B) + bit then (1 : Int) else 0) = cv ∧ 0 ≤ cv := ⟨_, rfl, by split <;> decide⟩
          rw [hcv]
          clear hcv
          rw [if_pos hle] at q1 q2
          go_wp2_with fail
          refine (sSubN hs.rem.lim (hL'.below hs.bel) hN hB (by omega) (by omega) hle).mono ?_
          rintro e w2 ⟨a2, c2, N2, D2, rfl, ho2, hN2, hb2⟩
          have hs2 := hs.store hb2 ho2
          clear o0 o1 of0 of1 olt
          obtain ⟨o0, o1, of0, of1, olt⟩ := id (hs.next hb2).out
          go_upto_region 10 with fail
          generalize hW2 : w2.setCell ⟨w.heap.size + 1 + 1, 1, none⟩ (.slice a2 N2 c2) = W2 at *
          clear hW2 hs hN ho2 hb2 o0 o1 of0 of1 olt
          obtain ⟨o0, o1, of0, of1, olt⟩ := id hs2.out
          have g1 := hs2.quot.limb (k / 32) hk32
          have g4 := hs2.quot.frozen (k / 32)
          have hlt := lmb_lt (T / B * 2 ^ (k + 1)) (k / 32)
          have EO := hide (or_bit (lmb (T / B * 2 ^ (k + 1)) (k / 32)) (k % 32) hlt (Nat.mod_lt _ (by decide)))
          go_region
          go_wp2_with fail
          go_roundw
          case rel =>
            rw [EO.out]
            refine ⟨k, _, .slice a2 N2 c2, N2, D2, by omega, rfl, by omega, ?_, by rw [hT, q2]; exact hN2⟩
            rw [hT, q1, e1]
            refine hs2.put ((Only.setCell W2 ⟨w.heap.size + 1, k / 32, none⟩ _).drewN 1) ?_
            have hh := hs2.quot.setAt (k / 32) (lmb (T / B * 2 ^ (k + 1)) (k / 32) ||| 2 ^ (k % 32)) hk32
            refine Half.next (hh.eq (fun i _ => ?_)) (below_drewS _)
            rw [lmb_or]
            unfold upd
            by_cases hi : i = k / 32
            · rw [if_pos hi, if_pos hi, hi]
            · rw [if_neg hi, if_neg hi]
          case measure => simp [intOf]
        · rw [if_pos (by omega)]
          rw [if_neg hle] at q1 q2
          go_wp2_with fail
          go_roundw
          case rel => exact ⟨k, _, _, N, D, by omega, rfl, by omega, by rw [hT, q1, e0]; exact hs, by rw [hT, q2, Nat.sub_zero]; exact hN⟩
          case measure => simp [intOf]

end Go.Proofs.Ytpcnmolncoaddaa

namespace Go.Proofs.Ytpcnmolncoaddaa
open Go.RowKit Go.Joins

set_option maxHeartbeats 1000000 in
set_option maxRecDepth 100000 in
theorem sDM_f1 (m m' : Bool) (v v' : Value) (n n' : Nat) (f f' : Nat → Nat) (w : World) (hL : Lim w v n f) (hL' : Lim w v' n' f') (hf : faultB m n f = true) :
    Calls Try.prog 48 #[.agg #[.bool m, v], .agg #[.bool m', v']] w fun e w' => e = .returned (.agg #[.int .i64 1, .bool false, .slice none 0 0, .bool false, .slice none 0 0]) ∧ Below w.heap.size w w' := by
  obtain ⟨a, c, rfl, -⟩ := id hL
  obtain ⟨a', c', rfl, -⟩ := id hL'
  go_enter Try.func48, Try.ntmps48
  go_wp2_with fail
  refine (sFault_any m _ n f _ (hL.below (below_alloc3 _ _ _ _))).mono ?_
  rintro e w1 ⟨rfl, hb1⟩
  rw [hf]
  have r1 := (hb1.block _ (by simp)).trans (res_block m m' _ _ w)
  have bel : Below w.heap.size w w1 := (below_alloc3 _ _ _ _).trans (hb1.mono (by simp only [World.size_alloc]; omega))
  obtain ⟨c0, c1, c2, c3, c4, f0, f1, f2, f3, f4⟩ := Res5.of r1
  clear hb1 hf r1
  go_wp2_with fail
  refine bodyPost_ret (v := .agg #[.int .i64 1, .bool false, .slice none 0 0, .bool false, .slice none 0 0]) (by simp [results, Try.results48, go_sem, c0, c1, c2, c3, c4]) rfl ⟨rfl, ?_⟩
  exact ((((bel.setCell (by show _ ≤ w.heap.size + 1 + 1; omega) _).setCell (by show _ ≤ w.heap.size + 1 + 1; omega) _).setCell (by show _ ≤ w.heap.size + 1 + 1; omega) _).setCell (by show _ ≤ w.heap.size + 1 + 1; omega) _).setCell (by show _ ≤ w.heap.size + 1 + 1; omega) _

set_option maxHeartbeats 1000000 in
set_option maxRecDepth 100000 in
theorem sDM_f2 (m m' : Bool) (v v' : Value) (n n' : Nat) (f f' : Nat → Nat) (w : World) (hL : Lim w v n f) (hL' : Lim w v' n' f') (hf : faultB m n f = false) (hf' : faultB m' n' f' = true) :
    Calls Try.prog 48 #[.agg #[.bool m, v], .agg #[.bool m', v']] w fun e w' => e = .returned (.agg #[.int .i64 1, .bool false, .slice none 0 0, .bool false, .slice none 0 0]) ∧ Below w.heap.size w w' := by
  obtain ⟨a, c, rfl, -⟩ := id hL
  obtain ⟨a', c', rfl, -⟩ := id hL'
  go_enter Try.func48, Try.ntmps48
  go_wp2_with fail
  refine (sFault_any m _ n f _ (hL.below (below_alloc3 _ _ _ _))).mono ?_
  rintro e w1 ⟨rfl, hb1⟩
  rw [hf]
  have r1 := (hb1.block _ (by simp)).trans (res_block m m' _ _ w)
  have bel1 : Below w.heap.size w w1 := (below_alloc3 _ _ _ _).trans (hb1.mono (by simp only [World.size_alloc]; omega))
  have xb := ((At2.start (w.alloc (.cells #[.bool m, .slice a n c] 25)) (.bool m') (.slice a' n' c') 25).next (below_alloc1 _ (.cells #[.int .i64 0, .bool false, .slice none 0 0, .bool false, .slice none 0 0] 37))).next hb1
  simp only [World.size_alloc] at xb
  have z1 := hb1.size
  simp only [World.size_alloc] at z1
  obtain ⟨b0, b1, blt⟩ := id xb
  clear hb1 hf
  go_wp2_with fail
  refine (sFault_any m' _ n' f' _ (hL'.below bel1)).mono ?_
  rintro e w2 ⟨rfl, hb2⟩
  rw [hf']
  have r2 := (hb2.block _ (by omega)).trans r1
  have xb2 := xb.next hb2
  have bel := bel1.trans (hb2.mono bel1.size)
  clear hb2 hf' b0 b1 blt r1 bel1 xb
  obtain ⟨b0, b1, blt⟩ := id xb2
  obtain ⟨c0, c1, c2, c3, c4, f0, f1, f2, f3, f4⟩ := Res5.of r2
  clear r2
  go_wp2_with fail
  refine bodyPost_ret (v := .agg #[.int .i64 1, .bool false, .slice none 0 0, .bool false, .slice none 0 0]) (by simp [results, Try.results48, go_sem, c0, c1, c2, c3, c4]) rfl ⟨rfl, ?_⟩
  exact ((((bel.setCell (by show _ ≤ w.heap.size + 1 + 1; omega) _).setCell (by show _ ≤ w.heap.size + 1 + 1; omega) _).setCell (by show _ ≤ w.heap.size + 1 + 1; omega) _).setCell (by show _ ≤ w.heap.size + 1 + 1; omega) _).setCell (by show _ ≤ w.heap.size + 1 + 1; omega) _

set_option maxHeartbeats 1000000 in
set_option maxRecDepth 100000 in
theorem sDM_zero (m m' : Bool) (v v' : Value) (n n' : Nat) (f f' : Nat → Nat) (w : World) (hL : Lim w v n f) (hL' : Lim w v' n' f') (hf : faultB m n f = false) (hf' : faultB m' n' f' = false) (h0 : n' = 0) :
    Calls Try.prog 48 #[.agg #[.bool m, v], .agg #[.bool m', v']] w fun e w' => e = .returned (.agg #[.int .i64 3, .bool false, .slice none 0 0, .bool false, .slice none 0 0]) ∧ Below w.heap.size w w' := by
  obtain ⟨a, c, rfl, -⟩ := id hL
  obtain ⟨a', c', rfl, -⟩ := id hL'
  subst h0
  go_enter Try.func48, Try.ntmps48
  go_wp2_with fail
  refine (sFault_any m _ n f _ (hL.below (below_alloc3 _ _ _ _))).mono ?_
  rintro e w1 ⟨rfl, hb1⟩
  rw [hf]
  have r1 := (hb1.block _ (by simp)).trans (res_block m m' _ _ w)
  have bel1 : Below w.heap.size w w1 := (below_alloc3 _ _ _ _).trans (hb1.mono (by simp only [World.size_alloc]; omega))
  have xb := ((At2.start (w.alloc (.cells #[.bool m, .slice a n c] 25)) (.bool m') (.slice a' 0 c') 25).next (below_alloc1 _ (.cells #[.int .i64 0, .bool false, .slice none 0 0, .bool false, .slice none 0 0] 37))).next hb1
  simp only [World.size_alloc] at xb
  have z1 := hb1.size
  simp only [World.size_alloc] at z1
  obtain ⟨b0, b1, blt⟩ := id xb
  clear hb1 hf
  go_wp2_with fail
  refine (sFault_any m' _ 0 f' _ (hL'.below bel1)).mono ?_
  rintro e w2 ⟨rfl, hb2⟩
  rw [hf']
  have r2 := (hb2.block _ (by omega)).trans r1
  have xb2 := xb.next hb2
  have bel := bel1.trans (hb2.mono bel1.size)
  clear hb2 hf' b0 b1 blt r1 bel1 xb
  obtain ⟨b0, b1, blt⟩ := id xb2
  obtain ⟨c0, c1, c2, c3, c4, f0, f1, f2, f3, f4⟩ := Res5.of r2
  clear r2
  go_wp2_with fail
  refine bodyPost_ret (v := .agg #[.int .i64 3, .bool false, .slice none 0 0, .bool false, .slice none 0 0]) (by simp [results, Try.results48, go_sem, c0, c1, c2, c3, c4]) rfl ⟨rfl, ?_⟩
  exact ((((bel.setCell (by show _ ≤ w.heap.size + 1 + 1; omega) _).setCell (by show _ ≤ w.heap.size + 1 + 1; omega) _).setCell (by show _ ≤ w.heap.size + 1 + 1; omega) _).setCell (by show _ ≤ w.heap.size + 1 + 1; omega) _).setCell (by show _ ≤ w.heap.size + 1 + 1; omega) _

theorem ResP.only {g : Nat} {w1 w2 : World} {b : Nat} {x0 x1 x2 x3 x4 : Value} (h : ResP w1 b x0 x1 x2 x3 x4) (ho : Only g w1 w2) (hb : b ≠ g) : ResP w2 b x0 x1 x2 x3 x4 :=
  ⟨(ho.cell _ _ hb).trans h.c0, (ho.cell _ _ hb).trans h.c1, (ho.cell _ _ hb).trans h.c2, (ho.cell _ _ hb).trans h.c3, (ho.cell _ _ hb).trans h.c4, (ho.frozen _ _ hb).trans h.f0, (ho.frozen _ _ hb).trans h.f1, (ho.frozen _ _ hb).trans h.f2, (ho.frozen _ _ hb).trans h.f3, (ho.frozen _ _ hb).trans h.f4, by have := ho.size; have := h.lt; omega⟩
theorem At2.only {g : Nat} {w1 w2 : World} {b : Nat} {x0 x1 : Value} (h : At2 w1 b x0 x1) (ho : Only g w1 w2) (hb : b ≠ g) : At2 w2 b x0 x1 :=
  ⟨(ho.cell _ _ hb).trans h.c0, (ho.cell _ _ hb).trans h.c1, by have := ho.size; have := h.lt; omega⟩

/-- What the model's BigDivMod holds behind its division. -/
structure DmSt (w wx : World) (m m' : Bool) (va vb : Value) (b5 : Nat) (vq vr : Value) : Prop where
  bel : Below w.heap.size w wx
  xa : At2 wx w.heap.size (.bool m) va
  xb : At2 wx (w.heap.size + 1) (.bool m') vb
  res : ResP wx (w.heap.size + 1 + 1) (.int .i64 0) (.bool false) (.slice none 0 0) (.bool false) (.slice none 0 0)
  out : Res2 wx b5 vq vr
  lo : w.heap.size + 1 + 1 < b5
theorem DmSt.next {w wx wy m m' va vb b5 vq vr} (h : DmSt w wx m m' va vb b5 vq vr) (hb : Below wx.heap.size wx wy) : DmSt w wy m m' va vb b5 vq vr :=
  ⟨h.bel.trans (hb.mono h.bel.size), h.xa.next hb, h.xb.next hb, h.res.next hb, h.out.next hb, h.lo⟩
theorem DmSt.set0 {w wx m m' va vb b5 vq vr} (h : DmSt w wx m m' va vb b5 vq vr) (u : Value) : DmSt w (wx.setCell ⟨b5, 0, none⟩ u) m m' va vb b5 u vr := by
  have hl := h.lo
  have hs := Only.setCell wx ⟨b5, 0, none⟩ u
  obtain ⟨c0, c1, f0, f1, lt⟩ := h.out
  exact ⟨h.bel.trans (hs.below (by show _ ≤ b5; omega)), h.xa.only hs (by show _ ≠ b5; omega), h.xb.only hs (by show _ ≠ b5; omega), h.res.only hs (by show _ ≠ b5; omega),
    ⟨by simp [go_sem, c0], by simp [go_sem, c1], by simpa [go_sem] using f0, by simpa [go_sem] using f1, by simpa using lt⟩, hl⟩
theorem DmSt.set1 {w wx m m' va vb b5 vq vr} (h : DmSt w wx m m' va vb b5 vq vr) (u : Value) : DmSt w (wx.setCell ⟨b5, 1, none⟩ u) m m' va vb b5 vq u := by
  have hl := h.lo
  have hs := Only.setCell wx ⟨b5, 1, none⟩ u
  obtain ⟨c0, c1, f0, f1, lt⟩ := h.out
  exact ⟨h.bel.trans (hs.below (by show _ ≤ b5; omega)), h.xa.only hs (by show _ ≠ b5; omega), h.xb.only hs (by show _ ≠ b5; omega), h.res.only hs (by show _ ≠ b5; omega),
    ⟨by simp [go_sem, c0], by simp [go_sem, c1], by simpa [go_sem] using f0, by simpa [go_sem] using f1, by simpa using lt⟩, hl⟩
theorem DmSt.four {w wx wy m m' va vb b5 vq vr} (h : DmSt w wx m m' va vb b5 vq vr) (hb : Below wx.heap.size wx wy) :
    (wy.cell? ⟨w.heap.size, 0, none⟩ = some (.bool m) ∧ wy.cell? ⟨w.heap.size + 1, 0, none⟩ = some (.bool m') ∧ wy.cell? ⟨b5, 0, none⟩ = some vq ∧ wy.cell? ⟨b5, 1, none⟩ = some vr) ∧ Below wx.heap.size wx wy :=
  have k := h.next hb
  ⟨⟨k.xa.c0, k.xb.c0, k.out.c0, k.out.c1⟩, hb⟩

theorem cell_set5 (wx : World) (b x o : Nat) (u0 u1 u2 u3 u4 : Value) (hx : x ≠ b) : (((((wx.setCell ⟨b, 0, none⟩ u0).setCell ⟨b, 1, none⟩ u1).setCell ⟨b, 2, none⟩ u2).setCell ⟨b, 3, none⟩ u3).setCell ⟨b, 4, none⟩ u4).cell? ⟨x, o, none⟩ = wx.cell? ⟨x, o, none⟩ := by
  rw [(Only.setCell _ ⟨b, 4, none⟩ u4).cell x o hx, (Only.setCell _ ⟨b, 3, none⟩ u3).cell x o hx, (Only.setCell _ ⟨b, 2, none⟩ u2).cell x o hx, (Only.setCell _ ⟨b, 1, none⟩ u1).cell x o hx, (Only.setCell _ ⟨b, 0, none⟩ u0).cell x o hx]
theorem DmSt.put5 {w wx m m' va vb b5 vq vr} (h : DmSt w wx m m' va vb b5 vq vr) (u0 u1 u2 u3 u4 : Value) :
    (((((wx.setCell ⟨w.heap.size + 1 + 1, 0, none⟩ u0).setCell ⟨w.heap.size + 1 + 1, 1, none⟩ u1).setCell ⟨w.heap.size + 1 + 1, 2, none⟩ u2).setCell ⟨w.heap.size + 1 + 1, 3, none⟩ u3).setCell ⟨w.heap.size + 1 + 1, 4, none⟩ u4).cell? ⟨w.heap.size, 0, none⟩ = some (.bool m) ∧
    (((((wx.setCell ⟨w.heap.size + 1 + 1, 0, none⟩ u0).setCell ⟨w.heap.size + 1 + 1, 1, none⟩ u1).setCell ⟨w.heap.size + 1 + 1, 2, none⟩ u2).setCell ⟨w.heap.size + 1 + 1, 3, none⟩ u3).setCell ⟨w.heap.size + 1 + 1, 4, none⟩ u4).cell? ⟨w.heap.size + 1, 0, none⟩ = some (.bool m') ∧
    (((((wx.setCell ⟨w.heap.size + 1 + 1, 0, none⟩ u0).setCell ⟨w.heap.size + 1 + 1, 1, none⟩ u1).setCell ⟨w.heap.size + 1 + 1, 2, none⟩ u2).setCell ⟨w.heap.size + 1 + 1, 3, none⟩ u3).setCell ⟨w.heap.size + 1 + 1, 4, none⟩ u4).cell? ⟨b5, 0, none⟩ = some vq ∧
    (((((wx.setCell ⟨w.heap.size + 1 + 1, 0, none⟩ u0).setCell ⟨w.heap.size + 1 + 1, 1, none⟩ u1).setCell ⟨w.heap.size + 1 + 1, 2, none⟩ u2).setCell ⟨w.heap.size + 1 + 1, 3, none⟩ u3).setCell ⟨w.heap.size + 1 + 1, 4, none⟩ u4).cell? ⟨b5, 1, none⟩ = some vr := by
  have hl := h.lo
  rw [cell_set5 _ _ _ _ _ _ _ _ _ (by omega), cell_set5 _ _ _ _ _ _ _ _ _ (by omega), cell_set5 _ _ _ _ _ _ _ _ _ (by omega), cell_set5 _ _ _ _ _ _ _ _ _ (by omega)]
  exact ⟨h.xa.c0, h.xb.c0, h.out.c0, h.out.c1⟩
theorem below_set5 {B : Nat} {w wx : World} (h : Below B w wx) (b : Nat) (u0 u1 u2 u3 u4 : Value) (hb : B ≤ b) : Below B w (((((wx.setCell ⟨b, 0, none⟩ u0).setCell ⟨b, 1, none⟩ u1).setCell ⟨b, 2, none⟩ u2).setCell ⟨b, 3, none⟩ u3).setCell ⟨b, 4, none⟩ u4) :=
  ((((h.setCell (by exact hb) _).setCell (by exact hb) _).setCell (by exact hb) _).setCell (by exact hb) _).setCell (by exact hb) _
theorem Own.set5 {B : Nat} {wx : World} {v : Value} {n : Nat} {f : Nat → Nat} (h : Own B wx v n f) (b : Nat) (u0 u1 u2 u3 u4 : Value) (hb : b < B) : Own B (((((wx.setCell ⟨b, 0, none⟩ u0).setCell ⟨b, 1, none⟩ u1).setCell ⟨b, 2, none⟩ u2).setCell ⟨b, 3, none⟩ u3).setCell ⟨b, 4, none⟩ u4) v n f :=
  ((((h.set _ _ (by exact hb)).set _ _ (by exact hb)).set _ _ (by exact hb)).set _ _ (by exact hb)).set _ _ (by exact hb)

theorem Num.mag {w : World} {m : Bool} {v : Value} {n : Nat} {f : Nat → Nat} {Z : Int} (h : Num w m v n f Z) : Norm (ext n f) n Z.natAbs := h.norm

set_option maxHeartbeats 4000000 in
set_option maxRecDepth 100000 in
theorem sDM_ok (m m' : Bool) (a a' : Option Addr) (n c n' c' : Nat) (f f' : Nat → Nat) (A B : Int) (w : World) (NA : Num w m (.slice a n c) n f A) (NB : Num w m' (.slice a' n' c') n' f' B) (hp : 0 < n') :
    Calls Try.prog 48 #[.agg #[.bool m, .slice a n c], .agg #[.bool m', .slice a' n' c']] w fun e w' => ∃ (v v' : Value) (N N' : Nat) (D D' : Nat → Nat), e = .returned (.agg #[.int .i64 0, .bool ((m != m') && decide (0 < N)), v, .bool (m' && decide (0 < N')), v']) ∧ Own w.heap.size w' v N D ∧ Own w.heap.size w' v' N' D' ∧ Norm (ext N D) N (dvQ (m != m') A.natAbs B.natAbs) ∧ Norm (ext N' D') N' (dvR (m != m') A.natAbs B.natAbs) ∧ Below w.heap.size w w' := by
  have hn := NA.le
  have hn' := NB.le
  have tp : ((n' : Int) == 0) = false := by simp; omega
  have hB0 : 0 < B.natAbs := NB.norm.pos.1 hp
  have NBl := NB.lim
  have hb0 := below_alloc3 w (.cells #[.bool m, .slice a n c] 25) (.cells #[.bool m', .slice a' n' c'] 25) (.cells #[.int .i64 0, .bool false, .slice none 0 0, .bool false, .slice none 0 0] 37)
  have xa := ((At2.start w (.bool m) (.slice a n c) 25).next (below_alloc1 _ (.cells #[.bool m', .slice a' n' c'] 25))).next (below_alloc1 _ (.cells #[.int .i64 0, .bool false, .slice none 0 0, .bool false, .slice none 0 0] 37))
  have xb := (At2.start (w.alloc (.cells #[.bool m, .slice a n c] 25)) (.bool m') (.slice a' n' c') 25).next (below_alloc1 _ (.cells #[.int .i64 0, .bool false, .slice none 0 0, .bool false, .slice none 0 0] 37))
  have xr := ResP.start ((w.alloc (.cells #[.bool m, .slice a n c] 25)).alloc (.cells #[.bool m', .slice a' n' c'] 25)) (.int .i64 0) (.bool false) (.slice none 0 0) (.bool false) (.slice none 0 0) 37
  simp only [World.size_alloc] at xb xr
  replace NA := NA.below hb0
  replace NB := NB.below hb0
  go_enter Try.func48, Try.ntmps48
  go_wp2_with fail
  refine (sFault_any m _ n f _ NA.lim).mono ?_
  rintro e w1 ⟨rfl, hb1⟩
  rw [NA.fault]
  replace NA := NA.below hb1
  replace NB := NB.below hb1
  replace xa := xa.next hb1
  replace xb := xb.next hb1
  replace xr := xr.next hb1
  have hw1 := hb0.trans (hb1.mono (by simp; omega))
  clear hb0 hb1
  obtain ⟨b0, b1, blt⟩ := id xb
  go_wp2_with fail
  refine (sFault_any m' _ n' f' _ NB.lim).mono ?_
  rintro e w2 ⟨rfl, hb2⟩
  rw [NB.fault]
  replace NA := NA.below hb2
  replace NB := NB.below hb2
  replace xa := xa.next hb2
  replace xb := xb.next hb2
  replace xr := xr.next hb2
  have hw2 := hw1.trans (hb2.mono hw1.size)
  clear hw1 hb2 b0 b1 blt
  obtain ⟨a0, a1, alt⟩ := id xa
  obtain ⟨b0, b1, blt⟩ := id xb
  go_wp2_with fail
  refine (sDiv_any _ _ n n' f f' A.natAbs B.natAbs _ NA.lim NB.lim NA.norm NB.norm (by omega) (by omega) hB0).mono ?_
  rintro e w3 ⟨vq, vr, Nq, Nr, Dq, Dr, rfl, oq, or', hq, hr, hb3⟩
  obtain ⟨aq, cq, rfl, -⟩ := id oq
  obtain ⟨ar, cr, rfl, -⟩ := id or'
  have hc3 := below_alloc1 w3 (.cells #[.slice aq Nq cq, .slice ar Nr cr] 95)
  have hd3 := hb3.trans (hc3.mono hb3.size)
  have zr := xr.lt
  have z3 := hb3.size
  have st : DmSt w (w3.alloc (.cells #[.slice aq Nq cq, .slice ar Nr cr] 95)) m m' (.slice a n c) (.slice a' n' c') w3.heap.size (.slice aq Nq cq) (.slice ar Nr cr) :=
    ⟨hw2.trans (hd3.mono hw2.size), xa.next hd3, xb.next hd3, xr.next hd3, Res2.start w3 _ _ 95, by omega⟩
  have hir := or'.inn
  replace oq := (oq.less (show w.heap.size + 1 + 1 + 1 ≤ w2.heap.size by omega)).below hc3
  replace or' := (or'.less (show w.heap.size + 1 + 1 + 1 ≤ w2.heap.size by omega)).below hc3
  replace NB := NB.below hd3
  have z4 : w2.heap.size ≤ w3.heap.size := z3
  have hrl : Nr ≤ 40 := hr.count (Nat.lt_trans (Nat.mod_lt _ hB0) NB.lid)
  have hql : Nq ≤ 40 := hq.count (Nat.lt_of_le_of_lt (Nat.div_le_self _ _) NA.lid)
  clear xa xb xr hw2 hb3 hc3 hd3 a0 a1 alt b0 b1 blt z3
  go_upto_region 6 with fail
  generalize hW : w3.alloc (.cells #[.slice aq Nq cq, .slice ar Nr cr] 95) = W at *
  generalize hb5 : w3.heap.size = b5 at *
  clear hW hb5
  obtain ⟨a0, a1, alt⟩ := id st.xa
  obtain ⟨b0, b1, blt⟩ := id st.xb
  obtain ⟨o0, o1, of0, of1, olt⟩ := id st.out
  go_cut [33] (fun s33 wx => s33 = .bool (!(m == m') && decide (0 < Nr)) ∧ wx = W)
  case first =>
    rcases hs : (m == m') with _ | _
    · go_wp2_with fail
      go_meet
      case rel => exact ⟨by simp [hs], rfl⟩
    · go_wp2_with fail
      go_meet
      case rel => exact ⟨by simp [hs], rfl⟩
  case rest =>
  obtain ⟨rfl, rfl⟩ := hcut
  rename World => W
  have HB := hide (show (m != m') = !(m == m') from rfl)
  go_upto_if 33 with fail
  go_cut [33] (fun _ wx => ∃ (aq ar : Option Addr) (Nq cq Nr cr : Nat) (Dq Dr : Nat → Nat), DmSt w wx m m' (.slice a n c) (.slice a' n' c') b5 (.slice aq Nq cq) (.slice ar Nr cr) ∧ Own (w.heap.size + 1 + 1 + 1) wx (.slice aq Nq cq) Nq Dq ∧ Own (w.heap.size + 1 + 1 + 1) wx (.slice ar Nr cr) Nr Dr ∧ Norm (ext Nq Dq) Nq (dvQ (m != m') A.natAbs B.natAbs) ∧ Norm (ext Nr Dr) Nr (dvR (m != m') A.natAbs B.natAbs))
  case first =>
    rcases hs : (!(m == m') && decide (0 < Nr)) with _ | _
    · go_wp2_with fail
      go_meet
      case rel =>
        have hx : ¬ ((m != m') = true ∧ 0 < A.natAbs % B.natAbs) := by
          rintro ⟨h1, h2⟩
          rw [HB.out] at h1
          rw [h1, Bool.true_and] at hs
          have := hr.pos.2 h2
          simp [this] at hs
        refine ⟨_, _, _, _, _, _, Dq, Dr, st, oq, or', ?_, ?_⟩
        · unfold dvQ; rw [if_neg hx]; exact hq
        · unfold dvR; rw [if_neg hx]; exact hr
    · have hx : (m != m') = true ∧ 0 < A.natAbs % B.natAbs := by
        rw [HB.out]
        simp only [Bool.and_eq_true, decide_eq_true_eq] at hs
        exact ⟨hs.1, hr.pos.1 hs.2⟩
      have eq : dvQ (m != m') A.natAbs B.natAbs = A.natAbs / B.natAbs + 1 := by unfold dvQ; rw [if_pos hx]
      have er : dvR (m != m') A.natAbs B.natAbs = B.natAbs - A.natAbs % B.natAbs := by unfold dvR; rw [if_pos hx]
      have hle : A.natAbs % B.natAbs ≤ B.natAbs := Nat.le_of_lt (Nat.mod_lt _ hB0)
      have EQ := hide eq
      have ER := hide er
      clear hx eq er hs
      have hlo := st.lo
      go_wp2_with fail
      refine (sAddN (oq.lim.below (below_alloc1 _ _)) (one_row W) hq norm_one (by omega) (by omega)).mono ?_
      rintro e w4 ⟨a4, c4, N4, D4, rfl, o4, hq4, hb4'⟩
      have hb4 := (below_alloc1 W (.cells #[.int .u32 1] 60)).trans (hb4'.mono (by simp))
      have o4' := o4.less (show w.heap.size + 1 + 1 + 1 ≤ _ by have := st.out.lt; simp; omega)
      have ob4 := o4.less (show b5 + 1 ≤ _ by have := st.out.lt; simp; omega)
      have st1 := st.next hb4
      have st4 := st1.set0 (.slice a4 N4 c4)
      clear a0 a1 alt b0 b1 blt o0 o1 of0 of1 olt
      obtain ⟨o0, o1, of0, of1, olt⟩ := id st1.out
      have or4 := (or'.below hb4).setNe ⟨b5, 0, none⟩ (.slice a4 N4 c4) (fun hn e => Nat.lt_irrefl b5 (hir b5 hn e).2)
      have hb4s : Below W.heap.size W w4 := hb4
      have NB4 : Lim (w4.setCell ⟨b5, 0, none⟩ (.slice a4 N4 c4)) (.slice a' n' c') n' f' := NBl.below st4.bel
      have oq4 := ob4.set ⟨b5, 0, none⟩ (.slice a4 N4 c4) (by show b5 < _; omega)
      go_upto_region 8 with fail
      generalize hW4 : w4.setCell ⟨b5, 0, none⟩ (.slice a4 N4 c4) = W4 at *
      clear hW4 hb4 hb4' hb4s o0 o1 of0 of1 olt o4 o4' ob4 st1
      obtain ⟨b0, b1, blt⟩ := id st4.xb
      obtain ⟨o0, o1, of0, of1, olt⟩ := id st4.out
      go_wp2_with fail
      refine (sSubN NB4 or4.lim NB.norm hr (by omega) (by omega) hle).mono ?_
      rintro e w5 ⟨a5, c5, N5, D5, rfl, o5, hr5, hb5⟩
      have st5 := (st4.next hb5).set1 (.slice a5 N5 c5)
      have hz4 := st4.out.lt
      have o5' := (o5.less (show b5 + 1 ≤ _ by omega)).set ⟨b5, 1, none⟩ (.slice a5 N5 c5) (by show b5 < _; omega)
      have oq5 := (oq4.below hb5).set ⟨b5, 1, none⟩ (.slice a5 N5 c5) (by show b5 < _; omega)
      clear b0 b1 blt o0 o1 of0 of1 olt
      obtain ⟨o0, o1, of0, of1, olt⟩ := id (st4.next hb5).out
      go_wp2_with fail
      go_meet
      case rel => exact ⟨_, _, _, _, _, _, D4, D5, st5, oq5.less (by omega), o5'.less (by omega), by rw [EQ.out]; exact hq4, by rw [ER.out]; exact hr5⟩
  case rest =>
  clear st oq or' hq hr hrl hql a0 a1 alt b0 b1 blt o0 o1 of0 of1 olt hir
  obtain ⟨aq, ar, Nq, cq, Nr, cr, Dq, Dr, st, oq, or', hq, hr⟩ := hcut
  rename World => W9
  clear NA NB NBl tp hB0 hn hn' hp HB
  go_upto_region 9 with fail
  go_region_held3 (fun wy => wy.cell? ⟨w.heap.size, 0, none⟩ = some (.bool m) ∧ wy.cell? ⟨w.heap.size + 1, 0, none⟩ = some (.bool m') ∧ wy.cell? ⟨b5, 0, none⟩ = some (.slice aq Nq cq) ∧ wy.cell? ⟨b5, 1, none⟩ = some (.slice ar Nr cr)) (first | with_reducible exact (st.four (below_drew0 _)).1 | with_reducible exact (st.four e1).1 | with_reducible exact (st.four e2).1 | with_reducible exact k2.put5 _ _ _ _ _) (first
    | (go_at_call_of 76 (Value.slice aq Nq cq); refine (make_any _ _ _ _ _).mono ?_; rintro e wa ⟨rfl, hba⟩; have e1 := (below_drew0 W9).trans hba)
    | (go_at_call_of 76 (Value.slice ar Nr cr); refine (make_any _ _ _ _ _).mono ?_; rintro e wb ⟨rfl, hbb⟩; have e2 := e1.trans (hbb.mono e1.size); have k2 := st.next e2; obtain ⟨c0, c1, c2, c3, c4, f0, f1, f2, f3, f4, clt⟩ := id k2.res))
  all_goals
    go_wp2_with fail
    refine bodyPost_ret (v := .agg #[.int .i64 0, .bool ((m != m') && decide (0 < Nq)), .slice aq Nq cq, .bool (m' && decide (0 < Nr)), .slice ar Nr cr]) (by simp [results, Try.results48, go_sem, c0, c1, c2, c3, c4]; rfl) rfl ?_
    exact ⟨_, _, Nq, Nr, Dq, Dr, rfl, (Own.set5 (oq.below e2) _ _ _ _ _ _ (by omega)).less (by omega), (Own.set5 (or'.below e2) _ _ _ _ _ _ (by omega)).less (by omega), hq, hr, below_set5 k2.bel _ _ _ _ _ _ (by omega)⟩

end Go.Proofs.Ytpcnmolncoaddaa

