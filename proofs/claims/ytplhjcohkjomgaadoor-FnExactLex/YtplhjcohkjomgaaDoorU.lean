import Derived.Test.YtplhjcohkjomgaaDoorA
import Derived.Lib.DecodeN
import Derived.Laws.RangeAny
namespace Go.Proofs.YtplhjcohkjomgaaDoor
open Go.RowKit Go.Joins

theorem get_bt (s : ByteArray) (i : Nat) : (s.get! i).toNat = bt s i := by
  unfold bt
  split
  · rename_i h
    rw [show s.get! i = s[i] from by
      cases s with
      | mk d => exact getElem!_pos d i h]
  · rename_i h
    rw [show s.get! i = 0 from by
      cases s with
      | mk d => exact getElem!_neg d i h]
    rfl

theorem bt_pos {s : ByteArray} {i : Nat} (h : 0 < bt s i) : i < s.size := by
  unfold bt at h
  split at h
  · assumption
  · omega

theorem dec_low {s : ByteArray} {i : Nat} (h : i < s.size) (hb : bt s i < 128) : Utf8.decode s i = (bt s i, 1) := by
  rw [decode_ascii s i h (by rw [bt_in h]; exact hb), bt_in h]

set_option maxHeartbeats 1000000 in
theorem dec_high {s : ByteArray} {i : Nat} (h : i < s.size) (hb : 128 ≤ bt s i) : 128 ≤ (Utf8.decode s i).1 ∧ (Utf8.decode s i).1 ≤ 1114111 ∧ 1 ≤ (Utf8.decode s i).2 ∧ i + (Utf8.decode s i).2 ≤ s.size ∧ ∀ j, 0 < j → j < (Utf8.decode s i).2 → 128 ≤ bt s (i + j) := by
  have h1 := decode_high s i h (by rw [bt_in h]; exact hb)
  refine ⟨h1.1, ?_⟩
  clear h1
  rw [Lib.decode_at s i, get_bt, get_bt, get_bt, get_bt]
  unfold Lib.decodeN
  rw [if_neg (by omega)]
  split
  · rename_i h2
    split
    · refine ⟨by simp only; omega, by simp only; omega, by simp only; omega, fun j h0 hj => ?_⟩
      simp only at hj
      obtain rfl : j = 1 := by omega
      omega
    · exact ⟨by simp only; omega, by simp only; omega, by simp only; omega, fun j h0 hj => by simp only at hj; omega⟩
  · split
    · rename_i h2
      split
      · rename_i h3
        refine ⟨by simp only; omega, by simp only; omega, by simp only; omega, fun j h0 hj => ?_⟩
        simp only at hj
        rcases (show j = 1 ∨ j = 2 by omega) with rfl | rfl <;> omega
      · exact ⟨by simp only; omega, by simp only; omega, by simp only; omega, fun j h0 hj => by simp only at hj; omega⟩
    · split
      · rename_i h2
        split
        · rename_i h3
          refine ⟨by simp only; omega, by simp only; omega, by simp only; omega, fun j h0 hj => ?_⟩
          simp only at hj
          rcases (show j = 1 ∨ j = 2 ∨ j = 3 by omega) with rfl | rfl | rfl <;> omega
        · exact ⟨by simp only; omega, by simp only; omega, by simp only; omega, fun j h0 hj => by simp only at hj; omega⟩
      · exact ⟨by simp only; omega, by simp only; omega, by simp only; omega, fun j h0 hj => by simp only at hj; omega⟩

end Go.Proofs.YtplhjcohkjomgaaDoor
