import Derived.Test.YtpcnmolncoaddaaScale
import Derived.Test.YtpcnmolncoaddaaDec
namespace Go.Proofs.Ytpcnmolncoaddaa
open Go.RowKit Go.Joins

/-- A byte of a text; 0 past its end. -/
def bt (s : ByteArray) (i : Nat) : Nat := if h : i < s.size then (s[i]).toNat else 0
theorem bt_in {s : ByteArray} {i : Nat} (h : i < s.size) : (s[i]).toNat = bt s i := by unfold bt; rw [dif_pos h]
theorem bt_le (s : ByteArray) (i : Nat) : bt s i < 256 := by
  unfold bt; split
  · exact UInt8.toNat_lt _
  · omega
/-- The value of k digits. -/
def dv (g : Nat → Nat) : Nat → Nat
  | 0 => 0
  | k + 1 => dv g k * 10 + (g k - 48)
def Dig (s : ByteArray) : Prop := ∀ i, i < s.size → 48 ≤ bt s i ∧ bt s i ≤ 57

theorem dv_lt {g : Nat → Nat} {k : Nat} (h : ∀ i, i < k → g i ≤ 57) : dv g k < 10 ^ k := by
  induction k with
  | zero => simp [dv]
  | succ k ih =>
    have h1 := ih (fun i hi => h i (by omega))
    have h2 := h k (by omega)
    rw [pow10_s]
    unfold dv
    omega
theorem dv_congr {g g' : Nat → Nat} {k : Nat} (h : ∀ i, i < k → g i = g' i) : dv g k = dv g' k := by
  induction k with
  | zero => rfl
  | succ k ih => unfold dv; rw [ih (fun i hi => h i (by omega)), h k (by omega)]
theorem dv_add (g : Nat → Nat) (a t : Nat) : dv g (a + t) = dv g a * 10 ^ t + dv (fun i => g (a + i)) t := by
  induction t with
  | zero => simp [dv]
  | succ t ih =>
    show dv g (a + t) * 10 + (g (a + t) - 48) = dv g a * 10 ^ (t + 1) + (dv (fun i => g (a + i)) t * 10 + (g (a + t) - 48))
    rw [ih, Nat.pow_succ, Nat.add_mul, Nat.mul_assoc]
    omega
theorem dv_mono {g : Nat → Nat} {a b : Nat} (h : a ≤ b) : dv g a ≤ dv g b := by
  obtain ⟨t, rfl⟩ : ∃ t, b = a + t := ⟨b - a, by omega⟩
  rw [dv_add]
  have : 1 ≤ 10 ^ t := Nat.pos_of_ne_zero (by simp)
  have := Nat.mul_le_mul_left (dv g a) this
  omega
theorem dv_ge {g : Nat → Nat} {k : Nat} (hk : 0 < k) (h : 49 ≤ g 0) : 10 ^ (k - 1) ≤ dv g k := by
  obtain ⟨t, rfl⟩ : ∃ t, k = 1 + t := ⟨k - 1, by omega⟩
  rw [dv_add, show 1 + t - 1 = t from by omega]
  have h1 : 1 ≤ dv g 1 := by show 1 ≤ 0 * 10 + (g 0 - 48); omega
  have := Nat.mul_le_mul_right (10 ^ t) h1
  omega

theorem bt_extract (s : ByteArray) (a b i : Nat) (hb : b ≤ s.size) (hi : i < b - a) : bt (s.extract a b) i = bt s (a + i) := by
  have h1 : i < (s.extract a b).size := by rw [ByteArray.size_extract]; omega
  unfold bt
  rw [dif_pos h1, dif_pos (by omega)]
  rw [ByteArray.getElem_extract]

set_option maxHeartbeats 2000000 in
set_option maxRecDepth 100000 in
theorem chunk_any (s : ByteArray) (w : World) (hs : s.size ≤ 9) (hd : Dig s) :
    Calls Try.prog 94 #[.string s] w fun e w' => e = .returned (.int .u32 (dv (bt s) s.size)) ∧ w' = w := by
  have HD : Hid (Dig s) := hd
  clear hd
  go_enter Try.func94, Try.ntmps94
  go_wp2_with fail
  go_loop [3, 7] (fun s3 s7 => ∃ k : Nat, k ≤ s.size ∧ s7 = .int .i64 k ∧ s3 = .int .u32 (dv (bt s) k)) (fun _ s7 => s.size - (intOf s7).toNat)
  case atStart => exact ⟨0, Nat.zero_le _, rfl, rfl⟩
  case round =>
    obtain ⟨k, hk, rfl, rfl⟩ := hrel
    by_cases hlt : k < s.size
    · go_wp2_with fail
      go_round
      case rel =>
        refine ⟨k + 1, by omega, by go_num, ?_⟩
        have h1 := HD.out k hlt
        have h2 : dv (bt s) k < 10 ^ k := dv_lt (fun i hi => (HD.out i (by omega)).2)
        have h3 : 10 ^ k ≤ 10 ^ 8 := Nat.pow_le_pow_right (by omega) (by omega)
        have h4 : dv (bt s) k < 100000000 := Nat.lt_of_lt_of_le h2 h3
        rw [bt_in hlt]
        show Value.int IntKind.u32 _ = .int .u32 ((dv (bt s) k * 10 + (bt s k - 48) : Nat) : Int)
        congr 1
        omega
      case measure => simp [intOf]; omega
    · obtain rfl : k = s.size := by omega
      go_wp2_with fail
      go_ret
      exact ⟨rfl, rfl⟩

end Go.Proofs.Ytpcnmolncoaddaa
