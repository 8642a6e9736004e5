import Derived.Test.YtpcnmolncoaddaaRead1
namespace Go.Proofs.Ytpcnmolncoaddaa
open Go.RowKit Go.Joins

theorem bt_data {s : ByteArray} {i : Nat} : bt s i = (s.data.toList[i]?.map UInt8.toNat).getD 0 := by
  unfold bt
  by_cases h : i < s.size
  · rw [dif_pos h]
    have : s.data.toList[i]? = some s[i] := by
      rw [List.getElem?_eq_getElem (by simpa using h)]; rfl
    rw [this]; rfl
  · rw [dif_neg h, List.getElem?_eq_none (by have : s.data.toList.length = s.size := Array.length_toList
                                             omega)]
    rfl
theorem list_one {s : ByteArray} (b : UInt8) : (s.toList == [b]) = true ↔ s.size = 1 ∧ bt s 0 = b.toNat := by
  rw [Lib.toList_data, beq_iff_eq, bt_data]
  have : s.data.toList.length = s.size := Array.length_toList
  rw [← this]
  rcases s.data.toList with _ | ⟨x, _ | ⟨y, t⟩⟩
  · simp
  · simp [UInt8.toNat_inj]
  · simp
theorem list_none {s : ByteArray} : (s.toList == []) = true ↔ s.size = 0 := by
  rw [Lib.toList_data, beq_iff_eq]
  have : s.data.toList.length = s.size := Array.length_toList
  rw [← this]
  rcases s.data.toList with _ | ⟨x, t⟩ <;> simp
theorem head_minus {s : ByteArray} (h : 1 ≤ s.size) : ((s.extract 0 1).toList == [45]) = true ↔ bt s 0 = 45 := by
  rw [list_one, bt_extract s 0 1 0 h (by omega), ByteArray.size_extract]
  constructor
  · rintro ⟨-, h2⟩; exact h2
  · intro h2; exact ⟨by omega, h2⟩

def Form (s : ByteArray) : Prop := Dig s ∧ 0 < s.size ∧ (s.size = 1 ∨ bt s 0 ≠ 48)

set_option maxHeartbeats 2000000 in
set_option maxRecDepth 100000 in
theorem form_any (s : ByteArray) (w : World) (hs : s.size ≤ 1048576) (r : Bool) (hr : r = true ↔ Form s) :
    Calls Try.prog 68 #[.string s] w fun e w' => e = .returned (.bool r) ∧ w' = w := by
  have HR : Hid (r = true ↔ Form s) := hr
  clear hr
  go_enter Try.func68, Try.ntmps68
  go_wp2_with fail
  go_loop [6] (fun s6 => ∃ k : Nat, k ≤ s.size ∧ s6 = .int .i64 k ∧ Hid (∀ i, i < k → 48 ≤ bt s i ∧ bt s i ≤ 57)) (fun s6 => s.size - (intOf s6).toNat)
  case atStart => exact ⟨0, Nat.zero_le _, rfl, fun i hi => by omega⟩
  case round =>
    obtain ⟨k, hk, rfl, hD⟩ := hrel
    by_cases hlt : k < s.size
    · have hb := bt_in hlt
      by_cases h1 : bt s k < 48
      · obtain rfl : r = false := by
          rw [← Bool.not_eq_true, HR.out]; rintro ⟨hd, -⟩; have := hd k hlt; omega
        have h1' : s[k].toNat < 48 := by omega
        clear hb h1
        go_wp2_with fail
        go_ret
        exact ⟨rfl, rfl⟩
      · by_cases h2 : 57 < bt s k
        · obtain rfl : r = false := by
            rw [← Bool.not_eq_true, HR.out]; rintro ⟨hd, -⟩; have := hd k hlt; omega
          have h1' : 57 < s[k].toNat := by omega
          clear hb h1 h2
          go_wp2_with fail
          go_ret
          exact ⟨rfl, rfl⟩
        · have h1' : 48 ≤ s[k].toNat := by omega
          have h2' : s[k].toNat ≤ 57 := by omega
          have hD' : Hid (∀ i, i < k + 1 → 48 ≤ bt s i ∧ bt s i ≤ 57) := fun i hi => by
            by_cases he : i = k
            · subst he; omega
            · exact hD.out i (by omega)
          clear hb h1 h2 hD
          go_wp2_with fail
          go_round
          case rel => exact ⟨k + 1, by omega, by go_num, hD'⟩
          case measure => simp [intOf]; omega
    · obtain rfl : k = s.size := by omega
      clear hlt
      by_cases hz : s.size = 0
      · have f1 : (s.toList == [48]) = false := by rw [← Bool.not_eq_true, list_one]; omega
        have f2 : (s.toList == []) = true := by rw [list_none]; exact hz
        obtain rfl : r = false := by
          rw [← Bool.not_eq_true, HR.out]; rintro ⟨-, hd, -⟩; omega
        clear hz
        go_wp2_with fail
        go_ret
        exact ⟨rfl, rfl⟩
      · have f2 : (s.toList == []) = false := by rw [← Bool.not_eq_true, list_none]; exact hz
        have hp : 0 < s.size := by omega
        clear hz
        have hb := bt_in hp
        by_cases h0 : bt s 0 = 48
        · by_cases ho : s.size = 1
          · have f1 : (s.toList == [48]) = true := by rw [list_one]; exact ⟨ho, h0⟩
            obtain rfl : r = true := by rw [HR.out]; exact ⟨hD.out, hp, Or.inl ho⟩
            clear ho h0 hb
            go_wp2_with fail
            go_ret
            exact ⟨rfl, rfl⟩
          · have f1 : (s.toList == [48]) = false := by rw [← Bool.not_eq_true, list_one]; omega
            obtain rfl : r = false := by
              rw [← Bool.not_eq_true, HR.out]; rintro ⟨-, -, hd⟩; omega
            have f3 : Hid (((s[0].toNat : Int) != 48) = false) := by unfold Hid; rw [hb, h0]; rfl
            clear ho h0 hb
            go_wp2_with fail
            go_ret
            exact ⟨(congrArg (fun b => Ending.returned (Value.bool b)) f3.out : Ending.returned (Value.bool ((s[0].toNat : Int) != 48)) = _), rfl⟩
        · have f1 : (s.toList == [48]) = false := by
            rw [← Bool.not_eq_true, list_one]; rintro ⟨-, h⟩; exact h0 h
          obtain rfl : r = true := by rw [HR.out]; exact ⟨hD.out, hp, Or.inr h0⟩
          have f3 : Hid (((s[0].toNat : Int) != 48) = true) := by unfold Hid; rw [hb]; simp; omega
          clear h0 hb
          go_wp2_with fail
          go_ret
          exact ⟨(congrArg (fun b => Ending.returned (Value.bool b)) f3.out : Ending.returned (Value.bool ((s[0].toNat : Int) != 48)) = _), rfl⟩

set_option maxHeartbeats 2000000 in
set_option maxRecDepth 100000 in
theorem cut_minus (s : ByteArray) (w : World) (h1 : 1 ≤ s.size) (h2 : ((s.extract 0 1).toList == [45]) = true) :
    Calls Try.prog 67 #[.string s, .string ⟨#[45]⟩] w fun e w' => e = .returned (.tuple #[.string (s.extract 1 s.size), .bool true]) ∧ w' = w := by
  go_enter Try.func67, Try.ntmps67
  go_wp2_with fail
  go_enter Try.func93, Try.ntmps93
  go_wp2_with fail
  go_enter Try.func101, Try.ntmps101
  go_wp2_with fail
  exact bodyPost_ret (v := .tuple #[.string (s.extract 1 s.size), .bool true]) (by simp [results, Try.results67, go_sem]) rfl ⟨rfl, rfl⟩
set_option maxHeartbeats 2000000 in
set_option maxRecDepth 100000 in
theorem cut_plain (s : ByteArray) (w : World) (h1 : 1 ≤ s.size) (h2 : ((s.extract 0 1).toList == [45]) = false) :
    Calls Try.prog 67 #[.string s, .string ⟨#[45]⟩] w fun e w' => e = .returned (.tuple #[.string s, .bool false]) ∧ w' = w := by
  go_enter Try.func67, Try.ntmps67
  go_wp2_with fail
  go_enter Try.func93, Try.ntmps93
  go_wp2_with fail
  go_enter Try.func101, Try.ntmps101
  go_wp2_with fail
  exact bodyPost_ret (v := .tuple #[.string s, .bool false]) (by simp [results, Try.results67, go_sem]) rfl ⟨rfl, rfl⟩
set_option maxHeartbeats 2000000 in
set_option maxRecDepth 100000 in
theorem cut_empty (s : ByteArray) (w : World) (h1 : s.size < 1) :
    Calls Try.prog 67 #[.string s, .string ⟨#[45]⟩] w fun e w' => e = .returned (.tuple #[.string s, .bool false]) ∧ w' = w := by
  go_enter Try.func67, Try.ntmps67
  go_wp2_with fail
  go_enter Try.func93, Try.ntmps93
  go_wp2_with fail
  go_enter Try.func101, Try.ntmps101
  go_wp2_with fail
  exact bodyPost_ret (v := .tuple #[.string s, .bool false]) (by simp [results, Try.results67, go_sem]) rfl ⟨rfl, rfl⟩

end Go.Proofs.Ytpcnmolncoaddaa
