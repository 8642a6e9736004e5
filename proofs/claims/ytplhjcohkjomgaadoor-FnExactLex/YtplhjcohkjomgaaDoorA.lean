import Derived.Test.YtplhjcohkjomgaaDoorRows
import Derived.WalkKit
import Derived.WalkSpells
import Derived.WalkLawsBesides
import Derived.Deep.OwnRows
import Derived.Deep.QuietTactic
import Derived.BigQuiet
import Derived.Deep.RegionWith
import Derived.Lib.SmallJoins
namespace Go.Proofs.YtplhjcohkjomgaaDoor
open Go.RowKit Go.Joins

def Hid (p : Prop) : Prop := p
theorem hide {p : Prop} (h : p) : Hid p := h
theorem Hid.out {p : Prop} (h : Hid p) : p := h

/-- The byte i of a text; 0 behind it. -/
def bt (s : ByteArray) (i : Nat) : Nat := if h : i < s.size then (s[i]).toNat else 0
theorem bt_in {s : ByteArray} {i : Nat} (h : i < s.size) : (s[i]).toNat = bt s i := by unfold bt; rw [dif_pos h]
theorem bt_le (s : ByteArray) (i : Nat) : bt s i < 256 := by
  unfold bt; split
  · exact UInt8.toNat_lt _
  · omega

/-- Classes of bytes. -/
def dig (c : Nat) : Bool := decide (48 ≤ c) && decide (c ≤ 57)
def sml (c : Nat) : Bool := decide (97 ≤ c) && decide (c ≤ 122) || decide (c = 95)
def cap (c : Nat) : Bool := decide (65 ≤ c) && decide (c ≤ 90)
def ins (c : Nat) : Bool := sml c || cap c || dig c || decide (c = 39)

theorem ret_b {a b : Bool} (h : a = b) : Ending.returned (.bool a) = .returned (.bool b) := by rw [h]

theorem mDigit (c : Nat) (w : World) : Calls Tryd.prog 46 #[.int .u8 c] w fun e w' => e = .returned (.bool (dig c)) ∧ w' = w := by
  by_cases h : (48 : Int) ≤ c
  · go_enter Tryd.func46, Tryd.ntmps46
    go_wp2
    go_ret
    exact ⟨ret_b (Bool.eq_iff_iff.2 (by simp [dig] <;> omega)), rfl⟩
  · have hd : decide ((48 : Int) ≤ c) = false := by simp; omega
    go_enter Tryd.func46, Tryd.ntmps46
    go_wp2
    go_ret
    exact ⟨ret_b (Bool.eq_iff_iff.2 (by simp [dig] <;> omega)), rfl⟩

theorem mCapital (c : Nat) (w : World) : Calls Tryd.prog 43 #[.int .u8 c] w fun e w' => e = .returned (.bool (cap c)) ∧ w' = w := by
  by_cases h : (65 : Int) ≤ c
  · go_enter Tryd.func43, Tryd.ntmps43
    go_wp2
    go_ret
    exact ⟨ret_b (Bool.eq_iff_iff.2 (by simp [cap] <;> omega)), rfl⟩
  · have hd : decide ((65 : Int) ≤ c) = false := by simp; omega
    go_enter Tryd.func43, Tryd.ntmps43
    go_wp2
    go_ret
    exact ⟨ret_b (Bool.eq_iff_iff.2 (by simp [cap] <;> omega)), rfl⟩

theorem mSmall (c : Nat) (w : World) : Calls Tryd.prog 42 #[.int .u8 c] w fun e w' => e = .returned (.bool (sml c)) ∧ w' = w := by
  by_cases h : (97 : Int) ≤ c
  · by_cases h2 : (c : Int) ≤ 122
    · go_enter Tryd.func42, Tryd.ntmps42
      go_wp2
      go_ret
      exact ⟨ret_b (Bool.eq_iff_iff.2 (by simp [sml] <;> omega)), rfl⟩
    · have hd : decide ((c : Int) ≤ 122) = false := by simp; omega
      go_enter Tryd.func42, Tryd.ntmps42
      go_wp2
      go_ret
      exact ⟨ret_b (Bool.eq_iff_iff.2 (by simp [sml] <;> omega)), rfl⟩
  · have hd : decide ((97 : Int) ≤ c) = false := by simp; omega
    go_enter Tryd.func42, Tryd.ntmps42
    go_wp2
    go_ret
    exact ⟨ret_b (Bool.eq_iff_iff.2 (by simp [sml] <;> omega)), rfl⟩

theorem mInside (c : Nat) (w : World) : Calls Tryd.prog 61 #[.int .u8 c] w fun e w' => e = .returned (.bool (ins c)) ∧ w' = w := by
  rcases h1 : sml c with _ | _
  rcases h2 : cap c with _ | _
  rcases h3 : dig c with _ | _
  all_goals
    go_enter Tryd.func61, Tryd.ntmps61
    go_wp2_with fail
    refine (mSmall c _).mono ?_
    rintro e w1 ⟨rfl, rfl⟩
    rw [h1]
    go_wp2_with fail
  all_goals first
    | (refine (mCapital c _).mono ?_
       rintro e w1 ⟨rfl, rfl⟩
       rw [h2]
       go_wp2_with fail)
    | skip
  all_goals first
    | (refine (mDigit c _).mono ?_
       rintro e w1 ⟨rfl, rfl⟩
       rw [h3]
       go_wp2_with fail)
    | skip
  all_goals
    go_ret
    exact ⟨ret_b (Bool.eq_iff_iff.2 (by simp [ins, *] <;> omega)), rfl⟩

/-- Whether a byte is in a list, as a text. -/
def inL (c : Nat) (s : ByteArray) : Bool := (List.range s.size).any (fun i => bt s i == c)
theorem inL_true {c : Nat} {s : ByteArray} {i : Nat} (h : i < s.size) (he : bt s i = c) : true = inL c s := by
  symm
  simp only [inL, List.any_eq_true, List.mem_range]
  exact ⟨i, h, by simp [he]⟩
theorem inL_false {c : Nat} {s : ByteArray} (h : ∀ i, i < s.size → bt s i ≠ c) : false = inL c s := by
  symm
  simp only [inL, List.any_eq_false, List.mem_range]
  intro i hi
  have := h i hi
  simpa using this

theorem mIn (c : Nat) (s : ByteArray) (w : World) (hs : s.size ≤ 1048576) : Calls Tryd.prog 62 #[.int .u8 c, .string s] w fun e w' => e = .returned (.bool (inL c s)) ∧ w' = w := by
  go_enter Tryd.func62, Tryd.ntmps62
  go_wp2_with fail
  go_loop [5] (fun s5 => ∃ k : Nat, k ≤ s.size ∧ s5 = .int .i64 k ∧ Hid (∀ i, i < k → bt s i ≠ c)) (fun s5 => s.size - (intOf s5).toNat)
  case atStart => exact ⟨0, Nat.zero_le _, rfl, fun i hi => by omega⟩
  case round =>
    obtain ⟨k, hk, rfl, hn⟩ := hrel
    by_cases hlt : k < s.size
    · have hb := bt_in hlt
      by_cases he : bt s k = c
      · have hq : ((s[k].toNat : Int) == (c : Int)) = true := by rw [hb, he]; simp
        have HE := hide he
        clear hb he
        go_wp2_with fail
        go_ret
        exact ⟨ret_b (inL_true hlt HE.out), rfl⟩
      · have hq : ((s[k].toNat : Int) == (c : Int)) = false := by rw [hb]; simp; omega
        clear hb
        go_wp2_with fail
        go_round
        case rel =>
          refine ⟨k + 1, by omega, by go_num, fun i hi => ?_⟩
          by_cases h : i = k
          · rw [h]; exact he
          · exact hn.out i (by omega)
        case measure => simp [intOf]; omega
    · go_wp2_with fail
      go_ret
      exact ⟨ret_b (inL_false (fun i hi => hn.out i (by omega))), rfl⟩

/-- The bytes of symbols and of specials. -/
def sym (c : Nat) : Bool := [33, 35, 36, 37, 38, 42, 43, 46, 47, 60, 61, 62, 63, 64, 92, 94, 124, 45, 126, 58].contains c
def spc (c : Nat) : Bool := [40, 41, 91, 93, 44, 59, 96, 123, 125].contains c

theorem inL_list (c : Nat) (L : List UInt8) : inL c ⟨L.toArray⟩ = (L.map UInt8.toNat).contains c := by
  have hz : (⟨L.toArray⟩ : ByteArray).size = L.length := by simp [ByteArray.size]
  rcases h : (L.map UInt8.toNat).contains c with _ | _
  · symm
    apply inL_false
    intro i hi he
    rw [hz] at hi
    have hm : c ∈ L.map UInt8.toNat := by
      rw [List.mem_map]
      refine ⟨L[i], List.getElem_mem hi, ?_⟩
      rw [← he]
      unfold bt
      rw [dif_pos (by rw [hz]; exact hi)]
      rfl
    rw [List.contains_iff_mem.2 hm] at h
    cases h
  · have hm := List.contains_iff_mem.1 h
    rw [List.mem_map] at hm
    obtain ⟨x, hx, rfl⟩ := hm
    obtain ⟨i, hi, rfl⟩ := List.getElem_of_mem hx
    symm
    apply inL_true (i := i) (by rw [hz]; exact hi)
    unfold bt
    rw [dif_pos (by rw [hz]; exact hi)]
    rfl

theorem mSymbol (c : Nat) (w : World) : Calls Tryd.prog 48 #[.int .u8 c] w fun e w' => e = .returned (.bool (sym c)) ∧ w' = w := by
  go_enter Tryd.func48, Tryd.ntmps48
  go_wp2_with fail
  refine (mIn c _ _ (by decide)).mono ?_
  rintro e w1 ⟨rfl, rfl⟩
  go_wp2_with fail
  go_ret
  exact ⟨ret_b (by rw [show (#[33, 35, 36, 37, 38, 42, 43, 46, 47, 60, 61, 62, 63, 64, 92, 94, 124, 45, 126, 58] : Array UInt8) = [33, 35, 36, 37, 38, 42, 43, 46, 47, 60, 61, 62, 63, 64, 92, 94, 124, 45, 126, 58].toArray from rfl, inL_list]; rfl), rfl⟩

theorem mSpecial (c : Nat) (w : World) : Calls Tryd.prog 50 #[.int .u8 c] w fun e w' => e = .returned (.bool (spc c)) ∧ w' = w := by
  go_enter Tryd.func50, Tryd.ntmps50
  go_wp2_with fail
  refine (mIn c _ _ (by decide)).mono ?_
  rintro e w1 ⟨rfl, rfl⟩
  go_wp2_with fail
  go_ret
  exact ⟨ret_b (by rw [show (#[40, 41, 91, 93, 44, 59, 96, 123, 125] : Array UInt8) = [40, 41, 91, 93, 44, 59, 96, 123, 125].toArray from rfl, inL_list]; rfl), rfl⟩

end Go.Proofs.YtplhjcohkjomgaaDoor
