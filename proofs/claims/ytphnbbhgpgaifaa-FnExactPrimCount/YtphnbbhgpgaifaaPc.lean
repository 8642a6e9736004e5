import Derived.Test.YtphnbbhgpgaifaaRows
import Derived.ProofKit
import Derived.OpenShut
import Derived.WideShapes
import Derived.ShutString
import Derived.ChangeOld
import Derived.Lib.SmallJoins
import Derived.Deep.DeepCutAuto
namespace Go.Proofs.Ytphnbbhgpgaifaa
open Go.RowKit Go.Joins Go.ChangeShapes Go.WideShapes Go.ChangeAt

theorem Try.own : ownKnob Try.prog.godebug = none := by kernel_rfl
theorem Try.laidOut : laidOutB Try.prog = true := by kernel_rfl
/-- How many kids a prim has. -/
def pcF (s : ByteArray) : Int := if (s.toList == [112, 114, 105, 109, 65, 100, 100]) = true then 2 else if (s.toList == [112, 114, 105, 109, 83, 117, 98]) = true then 2 else if (s.toList == [112, 114, 105, 109, 77, 117, 108]) = true then 2 else if (s.toList == [112, 114, 105, 109, 68, 105, 118]) = true then 2 else if (s.toList == [112, 114, 105, 109, 77, 111, 100]) = true then 2 else if (s.toList == [112, 114, 105, 109, 69, 113]) = true then 2 else if (s.toList == [112, 114, 105, 109, 76, 101, 115, 115]) = true then 2 else if (s.toList == [112, 114, 105, 109, 83, 101, 113]) = true then 2 else if (s.toList == [112, 114, 105, 109, 79, 114, 100]) = true then 1 else if (s.toList == [112, 114, 105, 109, 67, 104, 114]) = true then 1 else if (s.toList == [112, 114, 105, 109, 83, 104, 111, 119]) = true then 1 else if (s.toList == [112, 114, 105, 109, 69, 114, 114, 111, 114]) = true then 1 else 0

set_option maxHeartbeats 4000000 in
theorem mPrim (s : ByteArray) (W : World) : Calls Try.prog 4 #[.string s] W fun e W' => e = .returned (.int .i64 (pcF s)) ∧ W' = W := by
  obtain ⟨X, hX⟩ : ∃ X, pcF s = X := ⟨_, rfl⟩
  rw [hX]
  rcases hb0 : (s.toList == [112, 114, 105, 109, 65, 100, 100]) with _ | _
  rotate_left
  · obtain rfl : 2 = X := by rw [← hX]; simp only [pcF, hb0, ite_true]
    go_enter Try.func4, Try.ntmps4
    go_wp2_with fail
    go_ret
    exact ⟨rfl, rfl⟩
  rcases hb1 : (s.toList == [112, 114, 105, 109, 83, 117, 98]) with _ | _
  rotate_left
  · obtain rfl : 2 = X := by rw [← hX]; simp only [pcF, hb0, hb1, Bool.false_eq_true, ite_false, ite_true]
    go_enter Try.func4, Try.ntmps4
    go_wp2_with fail
    go_ret
    exact ⟨rfl, rfl⟩
  rcases hb2 : (s.toList == [112, 114, 105, 109, 77, 117, 108]) with _ | _
  rotate_left
  · obtain rfl : 2 = X := by rw [← hX]; simp only [pcF, hb0, hb1, hb2, Bool.false_eq_true, ite_false, ite_true]
    go_enter Try.func4, Try.ntmps4
    go_wp2_with fail
    go_ret
    exact ⟨rfl, rfl⟩
  rcases hb3 : (s.toList == [112, 114, 105, 109, 68, 105, 118]) with _ | _
  rotate_left
  · obtain rfl : 2 = X := by rw [← hX]; simp only [pcF, hb0, hb1, hb2, hb3, Bool.false_eq_true, ite_false, ite_true]
    go_enter Try.func4, Try.ntmps4
    go_wp2_with fail
    go_ret
    exact ⟨rfl, rfl⟩
  rcases hb4 : (s.toList == [112, 114, 105, 109, 77, 111, 100]) with _ | _
  rotate_left
  · obtain rfl : 2 = X := by rw [← hX]; simp only [pcF, hb0, hb1, hb2, hb3, hb4, Bool.false_eq_true, ite_false, ite_true]
    go_enter Try.func4, Try.ntmps4
    go_wp2_with fail
    go_ret
    exact ⟨rfl, rfl⟩
  rcases hb5 : (s.toList == [112, 114, 105, 109, 69, 113]) with _ | _
  rotate_left
  · obtain rfl : 2 = X := by rw [← hX]; simp only [pcF, hb0, hb1, hb2, hb3, hb4, hb5, Bool.false_eq_true, ite_false, ite_true]
    go_enter Try.func4, Try.ntmps4
    go_wp2_with fail
    go_ret
    exact ⟨rfl, rfl⟩
  rcases hb6 : (s.toList == [112, 114, 105, 109, 76, 101, 115, 115]) with _ | _
  rotate_left
  · obtain rfl : 2 = X := by rw [← hX]; simp only [pcF, hb0, hb1, hb2, hb3, hb4, hb5, hb6, Bool.false_eq_true, ite_false, ite_true]
    go_enter Try.func4, Try.ntmps4
    go_wp2_with fail
    go_ret
    exact ⟨rfl, rfl⟩
  rcases hb7 : (s.toList == [112, 114, 105, 109, 83, 101, 113]) with _ | _
  rotate_left
  · obtain rfl : 2 = X := by rw [← hX]; simp only [pcF, hb0, hb1, hb2, hb3, hb4, hb5, hb6, hb7, Bool.false_eq_true, ite_false, ite_true]
    go_enter Try.func4, Try.ntmps4
    go_wp2_with fail
    go_ret
    exact ⟨rfl, rfl⟩
  rcases hb8 : (s.toList == [112, 114, 105, 109, 79, 114, 100]) with _ | _
  rotate_left
  · obtain rfl : 1 = X := by rw [← hX]; simp only [pcF, hb0, hb1, hb2, hb3, hb4, hb5, hb6, hb7, hb8, Bool.false_eq_true, ite_false, ite_true]
    go_enter Try.func4, Try.ntmps4
    go_wp2_with fail
    go_ret
    exact ⟨rfl, rfl⟩
  rcases hb9 : (s.toList == [112, 114, 105, 109, 67, 104, 114]) with _ | _
  rotate_left
  · obtain rfl : 1 = X := by rw [← hX]; simp only [pcF, hb0, hb1, hb2, hb3, hb4, hb5, hb6, hb7, hb8, hb9, Bool.false_eq_true, ite_false, ite_true]
    go_enter Try.func4, Try.ntmps4
    go_wp2_with fail
    go_ret
    exact ⟨rfl, rfl⟩
  rcases hb10 : (s.toList == [112, 114, 105, 109, 83, 104, 111, 119]) with _ | _
  rotate_left
  · obtain rfl : 1 = X := by rw [← hX]; simp only [pcF, hb0, hb1, hb2, hb3, hb4, hb5, hb6, hb7, hb8, hb9, hb10, Bool.false_eq_true, ite_false, ite_true]
    go_enter Try.func4, Try.ntmps4
    go_wp2_with fail
    go_ret
    exact ⟨rfl, rfl⟩
  rcases hb11 : (s.toList == [112, 114, 105, 109, 69, 114, 114, 111, 114]) with _ | _
  rotate_left
  · obtain rfl : 1 = X := by rw [← hX]; simp only [pcF, hb0, hb1, hb2, hb3, hb4, hb5, hb6, hb7, hb8, hb9, hb10, hb11, Bool.false_eq_true, ite_false, ite_true]
    go_enter Try.func4, Try.ntmps4
    go_wp2_with fail
    go_ret
    exact ⟨rfl, rfl⟩
  obtain rfl : 0 = X := by rw [← hX]; simp only [pcF, hb0, hb1, hb2, hb3, hb4, hb5, hb6, hb7, hb8, hb9, hb10, hb11, Bool.false_eq_true, ite_false]
  go_enter Try.func4, Try.ntmps4
  go_wp2_with fail
  go_ret
  exact ⟨rfl, rfl⟩

set_option maxHeartbeats 4000000 in
theorem iPrim (s : ByteArray) (W : World) : Calls Try.prog 5 #[.string s] W fun e W' => e = .returned (.int .i64 (pcF s)) ∧ W' = W := by
  obtain ⟨X, hX⟩ : ∃ X, pcF s = X := ⟨_, rfl⟩
  rw [hX]
  rcases hb0 : (s.toList == [112, 114, 105, 109, 65, 100, 100]) with _ | _
  rotate_left
  · obtain rfl : 2 = X := by rw [← hX]; simp only [pcF, hb0, ite_true]
    go_enter Try.func5, Try.ntmps5
    go_wp2_with fail
    go_ret
    exact ⟨rfl, rfl⟩
  rcases hb1 : (s.toList == [112, 114, 105, 109, 83, 117, 98]) with _ | _
  rotate_left
  · obtain rfl : 2 = X := by rw [← hX]; simp only [pcF, hb0, hb1, Bool.false_eq_true, ite_false, ite_true]
    go_enter Try.func5, Try.ntmps5
    go_wp2_with fail
    go_ret
    exact ⟨rfl, rfl⟩
  rcases hb2 : (s.toList == [112, 114, 105, 109, 77, 117, 108]) with _ | _
  rotate_left
  · obtain rfl : 2 = X := by rw [← hX]; simp only [pcF, hb0, hb1, hb2, Bool.false_eq_true, ite_false, ite_true]
    go_enter Try.func5, Try.ntmps5
    go_wp2_with fail
    go_ret
    exact ⟨rfl, rfl⟩
  rcases hb3 : (s.toList == [112, 114, 105, 109, 68, 105, 118]) with _ | _
  rotate_left
  · obtain rfl : 2 = X := by rw [← hX]; simp only [pcF, hb0, hb1, hb2, hb3, Bool.false_eq_true, ite_false, ite_true]
    go_enter Try.func5, Try.ntmps5
    go_wp2_with fail
    go_ret
    exact ⟨rfl, rfl⟩
  rcases hb4 : (s.toList == [112, 114, 105, 109, 77, 111, 100]) with _ | _
  rotate_left
  · obtain rfl : 2 = X := by rw [← hX]; simp only [pcF, hb0, hb1, hb2, hb3, hb4, Bool.false_eq_true, ite_false, ite_true]
    go_enter Try.func5, Try.ntmps5
    go_wp2_with fail
    go_ret
    exact ⟨rfl, rfl⟩
  rcases hb5 : (s.toList == [112, 114, 105, 109, 69, 113]) with _ | _
  rotate_left
  · obtain rfl : 2 = X := by rw [← hX]; simp only [pcF, hb0, hb1, hb2, hb3, hb4, hb5, Bool.false_eq_true, ite_false, ite_true]
    go_enter Try.func5, Try.ntmps5
    go_wp2_with fail
    go_ret
    exact ⟨rfl, rfl⟩
  rcases hb6 : (s.toList == [112, 114, 105, 109, 76, 101, 115, 115]) with _ | _
  rotate_left
  · obtain rfl : 2 = X := by rw [← hX]; simp only [pcF, hb0, hb1, hb2, hb3, hb4, hb5, hb6, Bool.false_eq_true, ite_false, ite_true]
    go_enter Try.func5, Try.ntmps5
    go_wp2_with fail
    go_ret
    exact ⟨rfl, rfl⟩
  rcases hb7 : (s.toList == [112, 114, 105, 109, 83, 101, 113]) with _ | _
  rotate_left
  · obtain rfl : 2 = X := by rw [← hX]; simp only [pcF, hb0, hb1, hb2, hb3, hb4, hb5, hb6, hb7, Bool.false_eq_true, ite_false, ite_true]
    go_enter Try.func5, Try.ntmps5
    go_wp2_with fail
    go_ret
    exact ⟨rfl, rfl⟩
  rcases hb8 : (s.toList == [112, 114, 105, 109, 79, 114, 100]) with _ | _
  rotate_left
  · obtain rfl : 1 = X := by rw [← hX]; simp only [pcF, hb0, hb1, hb2, hb3, hb4, hb5, hb6, hb7, hb8, Bool.false_eq_true, ite_false, ite_true]
    go_enter Try.func5, Try.ntmps5
    go_wp2_with fail
    go_ret
    exact ⟨rfl, rfl⟩
  rcases hb9 : (s.toList == [112, 114, 105, 109, 67, 104, 114]) with _ | _
  rotate_left
  · obtain rfl : 1 = X := by rw [← hX]; simp only [pcF, hb0, hb1, hb2, hb3, hb4, hb5, hb6, hb7, hb8, hb9, Bool.false_eq_true, ite_false, ite_true]
    go_enter Try.func5, Try.ntmps5
    go_wp2_with fail
    go_ret
    exact ⟨rfl, rfl⟩
  rcases hb10 : (s.toList == [112, 114, 105, 109, 83, 104, 111, 119]) with _ | _
  rotate_left
  · obtain rfl : 1 = X := by rw [← hX]; simp only [pcF, hb0, hb1, hb2, hb3, hb4, hb5, hb6, hb7, hb8, hb9, hb10, Bool.false_eq_true, ite_false, ite_true]
    go_enter Try.func5, Try.ntmps5
    go_wp2_with fail
    go_ret
    exact ⟨rfl, rfl⟩
  rcases hb11 : (s.toList == [112, 114, 105, 109, 69, 114, 114, 111, 114]) with _ | _
  rotate_left
  · obtain rfl : 1 = X := by rw [← hX]; simp only [pcF, hb0, hb1, hb2, hb3, hb4, hb5, hb6, hb7, hb8, hb9, hb10, hb11, Bool.false_eq_true, ite_false, ite_true]
    go_enter Try.func5, Try.ntmps5
    go_wp2_with fail
    go_ret
    exact ⟨rfl, rfl⟩
  obtain rfl : 0 = X := by rw [← hX]; simp only [pcF, hb0, hb1, hb2, hb3, hb4, hb5, hb6, hb7, hb8, hb9, hb10, hb11, Bool.false_eq_true, ite_false]
  go_enter Try.func5, Try.ntmps5
  go_wp2_with fail
  go_ret
  exact ⟨rfl, rfl⟩

set_option maxHeartbeats 4000000 in
theorem lawPrim (s : ByteArray) (W : World) : Calls Try.prog 3 #[.string s] W fun e W' => e = .returned (.bool true) ∧ Below W.heap.size W W' := by
  by_cases gp : (1048576 : Int) < ((s.size : Nat) : Int)
  · go_enter Try.func3, Try.ntmps3
    go_wp2_with fail
    go_ret
    exact ⟨rfl, Below.refl _ _⟩
  have HM := mPrim s W
  have HI := iPrim s W
  go_enter Try.func3, Try.ntmps3
  go_wp2_with fail
  refine HM.mono ?_
  rintro e w1 ⟨rfl, rfl⟩
  go_wp2_with fail
  refine HI.mono ?_
  rintro e w2 ⟨rfl, rfl⟩
  go_wp2_with fail
  go_ret
  exact ⟨rfl, Below.refl _ _⟩

end Go.Proofs.Ytphnbbhgpgaifaa
