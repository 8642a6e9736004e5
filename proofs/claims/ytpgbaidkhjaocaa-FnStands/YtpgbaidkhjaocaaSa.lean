import Derived.Test.YtpgbaidkhjaocaaKa
import Derived.Deep.DeepCutAuto
namespace Go.Proofs.Ytpgbaidkhjaocaa
open Go.RowKit Go.Joins

/-- One text begins another. -/
def begF (a b : ByteArray) : Bool := decide ((a.size : Int) ≤ (b.size : Int)) && ((b.extract 0 a.size).toList == a.toList)

set_option maxHeartbeats 4000000 in
theorem m_begins (a b : ByteArray) (W : World) : Calls Try.prog 16 #[.string a, .string b] W fun e W' => e = .returned (.bool (begF a b)) ∧ W' = W := by
  obtain ⟨X, hX⟩ : ∃ X, begF a b = X := ⟨_, rfl⟩
  rw [hX]
  by_cases h : (a.size : Int) ≤ (b.size : Int)
  · rcases hq : ((b.extract 0 a.size).toList == a.toList) with _ | _
    all_goals
      obtain rfl : _ = X := by rw [← hX, begF, hq, decide_eq_true h]
      clear hX
      go_enter Try.func16, Try.ntmps16
      go_wp2_with fail
      go_ret
      exact ⟨rfl, rfl⟩
  · obtain rfl : false = X := by rw [← hX, begF, decide_eq_false h]; exact rfl
    clear hX
    go_enter Try.func16, Try.ntmps16
    go_wp2_with fail
    go_ret
    exact ⟨rfl, rfl⟩

set_option maxHeartbeats 4000000 in
theorem i_prefix (s p : ByteArray) (W : World) : Calls Try.prog 18 #[.string s, .string p] W fun e W' => e = .returned (.bool (begF p s)) ∧ W' = W := by
  obtain ⟨X, hX⟩ : ∃ X, begF p s = X := ⟨_, rfl⟩
  rw [hX]
  by_cases h : (p.size : Int) ≤ (s.size : Int)
  · rcases hq : ((s.extract 0 p.size).toList == p.toList) with _ | _
    all_goals
      obtain rfl : _ = X := by rw [← hX, begF, hq, decide_eq_true h]
      clear hX
      go_enter Try.func18, Try.ntmps18
      go_wp2_with fail
      go_ret
      exact ⟨rfl, rfl⟩
  · obtain rfl : false = X := by rw [← hX, begF, decide_eq_false h]; exact rfl
    clear hX
    go_enter Try.func18, Try.ntmps18
    go_wp2_with fail
    go_ret
    exact ⟨rfl, rfl⟩

theorem i_prefix2 (s p : ByteArray) (W : World) : Calls Try.prog 14 #[.string s, .string p] W fun e W' => e = .returned (.bool (begF p s)) ∧ W' = W := by
  have H := i_prefix s p W
  go_enter Try.func14, Try.ntmps14
  go_wp2_with fail
  refine H.mono ?_
  rintro e w ⟨rfl, rfl⟩
  go_wp2_with fail
  go_ret
  exact ⟨rfl, rfl⟩

/-- An end that may be one of a thing without a value. -/
def endF (e : Int) : Bool := e == 1 || (e == 2 || (e == 3 || (e == 6 || e == 8)))

set_option maxHeartbeats 4000000 in
theorem i_without (e : Int) (W : World) : Calls Try.prog 13 #[.int .i64 e] W fun x W' => x = .returned (.bool (endF e)) ∧ W' = W := by
  obtain ⟨X, hX⟩ : ∃ X, endF e = X := ⟨_, rfl⟩
  rw [hX]
  rcases h1 : (e == 1) with _ | _ <;> rcases h2 : (e == 2) with _ | _ <;> rcases h3 : (e == 3) with _ | _ <;> rcases h6 : (e == 6) with _ | _ <;> rcases h8 : (e == 8) with _ | _
  all_goals
    obtain rfl : _ = X := by rw [← hX, endF, h1, h2, h3, h6, h8]
    clear hX
    go_enter Try.func13, Try.ntmps13
    go_wp2_with fail
    go_ret
    exact ⟨rfl, rfl⟩

set_option maxHeartbeats 4000000 in
theorem m_long (e : Int) (W : World) : Calls Try.prog 15 #[.int .i64 e] W fun x W' => x = .returned (.bool (e == 3 || (e == 6 || e == 8))) ∧ W' = W := by
  rcases h3 : (e == 3) with _ | _ <;> rcases h6 : (e == 6) with _ | _ <;> rcases h8 : (e == 8) with _ | _
  all_goals
    go_enter Try.func15, Try.ntmps15
    go_wp2_with fail
    go_ret
    exact ⟨rfl, rfl⟩
end Go.Proofs.Ytpgbaidkhjaocaa
