import Derived.Test.YtplhjcohkjomgaaDoorU
import Derived.Test.YtplhjcohkjomgaaDoorBld
namespace Go.Proofs.YtplhjcohkjomgaaDoor
open Go.RowKit Go.Joins

theorem iCapital (c : Nat) (w : World) : Calls Tryd.prog 79 #[.int .i32 c] w fun e w' => e = .returned (.bool (cap c)) ∧ w' = w := by
  by_cases h : (65 : Int) ≤ c
  · go_enter Tryd.func79, Tryd.ntmps79
    go_wp2
    go_ret
    exact ⟨ret_b (Bool.eq_iff_iff.2 (by simp [cap] <;> omega)), rfl⟩
  · have hd : decide ((65 : Int) ≤ c) = false := by simp; omega
    go_enter Tryd.func79, Tryd.ntmps79
    go_wp2
    go_ret
    exact ⟨ret_b (Bool.eq_iff_iff.2 (by simp [cap] <;> omega)), rfl⟩

theorem iDigit (c : Nat) (w : World) : Calls Tryd.prog 65 #[.int .i32 c] w fun e w' => e = .returned (.bool (dig c)) ∧ w' = w := by
  by_cases h : (48 : Int) ≤ c
  · go_enter Tryd.func65, Tryd.ntmps65
    go_wp2
    go_ret
    exact ⟨ret_b (Bool.eq_iff_iff.2 (by simp [dig] <;> omega)), rfl⟩
  · have hd : decide ((48 : Int) ≤ c) = false := by simp; omega
    go_enter Tryd.func65, Tryd.ntmps65
    go_wp2
    go_ret
    exact ⟨ret_b (Bool.eq_iff_iff.2 (by simp [dig] <;> omega)), rfl⟩

theorem iStays (c : Nat) (w : World) : Calls Tryd.prog 86 #[.int .i32 c] w fun e w' => e = .returned (.bool (c != 10)) ∧ w' = w := by
  go_enter Tryd.func86, Tryd.ntmps86
  go_wp2
  go_ret
  exact ⟨ret_b (Bool.eq_iff_iff.2 (by simp <;> omega)), rfl⟩

theorem iBegins (c : Nat) (w : World) : Calls Tryd.prog 63 #[.int .i32 c] w fun e w' => e = .returned (.bool (cap c || sml c)) ∧ w' = w := by
  rcases q1 : cap c with _ | _
  · by_cases h1 : (97 : Int) ≤ c
    · by_cases h2 : (c : Int) ≤ 122
      · have d1 : decide ((97 : Int) ≤ c) = true := by simp; omega
        have d2 : decide ((c : Int) ≤ 122) = true := by simp; omega
        go_enter Tryd.func63, Tryd.ntmps63
        go_wp2_with fail
        refine (iCapital c _).mono ?_
        rintro e w1 ⟨rfl, rfl⟩
        rw [q1]
        go_wp2_with fail
        go_ret
        exact ⟨ret_b (Bool.eq_iff_iff.2 (by simp [sml] <;> omega)), rfl⟩
      · have d1 : decide ((97 : Int) ≤ c) = true := by simp; omega
        have d2 : decide ((c : Int) ≤ 122) = false := by simp; omega
        go_enter Tryd.func63, Tryd.ntmps63
        go_wp2_with fail
        refine (iCapital c _).mono ?_
        rintro e w1 ⟨rfl, rfl⟩
        rw [q1]
        go_wp2_with fail
        go_ret
        exact ⟨ret_b (Bool.eq_iff_iff.2 (by simp [sml] <;> omega)), rfl⟩
    · have d1 : decide ((97 : Int) ≤ c) = false := by simp; omega
      go_enter Tryd.func63, Tryd.ntmps63
      go_wp2_with fail
      refine (iCapital c _).mono ?_
      rintro e w1 ⟨rfl, rfl⟩
      rw [q1]
      go_wp2_with fail
      go_ret
      exact ⟨ret_b (Bool.eq_iff_iff.2 (by simp [sml] <;> omega)), rfl⟩
  · go_enter Tryd.func63, Tryd.ntmps63
    go_wp2_with fail
    refine (iCapital c _).mono ?_
    rintro e w1 ⟨rfl, rfl⟩
    rw [q1]
    go_wp2_with fail
    go_ret
    exact ⟨rfl, rfl⟩

theorem iCont (c : Nat) (w : World) : Calls Tryd.prog 81 #[.int .i32 c] w fun e w' => e = .returned (.bool (ins c)) ∧ w' = w := by
  rcases q1 : (cap c || sml c) with _ | _
  · rcases q2 : dig c with _ | _
    · go_enter Tryd.func81, Tryd.ntmps81
      go_wp2_with fail
      refine (iBegins c _).mono ?_
      rintro e w1 ⟨rfl, rfl⟩
      rw [q1]
      go_wp2_with fail
      refine (iDigit c _).mono ?_
      rintro e w1 ⟨rfl, rfl⟩
      rw [q2]
      go_wp2_with fail
      go_ret
      refine ⟨ret_b ?_, rfl⟩
      simp only [Bool.or_eq_false_iff] at q1
      simp [ins, q1.1, q1.2, q2]
      exact Bool.eq_iff_iff.2 (by simp <;> omega)
    · go_enter Tryd.func81, Tryd.ntmps81
      go_wp2_with fail
      refine (iBegins c _).mono ?_
      rintro e w1 ⟨rfl, rfl⟩
      rw [q1]
      go_wp2_with fail
      refine (iDigit c _).mono ?_
      rintro e w1 ⟨rfl, rfl⟩
      rw [q2]
      go_wp2_with fail
      go_ret
      exact ⟨ret_b (by simp [ins, q2]), rfl⟩
  · go_enter Tryd.func81, Tryd.ntmps81
    go_wp2_with fail
    refine (iBegins c _).mono ?_
    rintro e w1 ⟨rfl, rfl⟩
    rw [q1]
    go_wp2_with fail
    go_ret
    refine ⟨ret_b ?_, rfl⟩
    simp only [Bool.or_eq_true] at q1
    rcases q1 with q1 | q1 <;> simp [ins, q1]

end Go.Proofs.YtplhjcohkjomgaaDoor
