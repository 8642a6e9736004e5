import Derived.Test.YtpgbaidkhjaocaaSa
namespace Go.Proofs.Ytpgbaidkhjaocaa
open Go.RowKit Go.Joins

/-- What may stand for what. -/
def stF (e : Int) (o : ByteArray) (e' : Int) (o' : ByteArray) : Bool :=
  if e = 7 then true else if e = 5 then true else if e = 0 then (e' == e) && (o'.toList == o.toList) else if e = 4 then (e' == e) && (o'.toList == o.toList) else if e = 1 then (o'.toList == o.toList) && endF e' else if e = 2 then (o'.toList == o.toList) && endF e' else (begF o o' || begF o' o)

set_option maxHeartbeats 8000000 in
theorem i_Stands (e : Int) (o r : ByteArray) (s : Int) (e' : Int) (o' r' : ByteArray) (s' : Int) (W : World) :
    Calls Try.prog 6 #[.agg #[.int .i64 e, .string o, .string r, .int .i64 s], .agg #[.int .i64 e', .string o', .string r', .int .i64 s']] W fun x W' => x = .returned (.bool (stF e o e' o')) ∧ Below W.heap.size W W' := by
  obtain ⟨X, hX⟩ : ∃ X, stF e o e' o' = X := ⟨_, rfl⟩
  rw [hX]
  obtain ⟨V, hV⟩ : ∃ V, (W.alloc (.cells #[.int .i64 e, .string o, .string r, .int .i64 s] 24)).alloc (.cells #[.int .i64 e', .string o', .string r', .int .i64 s'] 24) = V := ⟨_, rfl⟩
  have b0 : Below W.heap.size W V := by rw [← hV]; exact (below_alloc1 _ _).trans ((below_alloc1 _ _).mono (by simp))
  have HB := hide b0
  have HV := hide hV
  clear b0 hV
  by_cases h7 : e = 7
  · subst h7
    obtain rfl : true = X := by rw [← hX]; exact rfl
    clear hX
    go_enter Try.func6, Try.ntmps6
    go_wp2_with fail
    go_ret
    rw [HV.out]
    exact ⟨rfl, HB.out⟩
  by_cases h5 : e = 5
  · subst h5
    obtain rfl : true = X := by rw [← hX]; exact rfl
    clear hX
    go_enter Try.func6, Try.ntmps6
    go_wp2_with fail
    go_ret
    rw [HV.out]
    exact ⟨rfl, HB.out⟩
  by_cases h0 : e = 0
  · subst h0
    rcases q1 : (e' == 0) with _ | _ <;> rcases q2 : (o'.toList == o.toList) with _ | _
    all_goals
      obtain rfl : _ = X := by rw [← hX, stF, if_neg (by decide), if_neg (by decide), if_pos rfl, q1, q2]
      clear hX
      go_enter Try.func6, Try.ntmps6
      try (go_wp2_with fail)
      go_ret
      rw [HV.out]
      exact ⟨rfl, HB.out⟩
  by_cases h4 : e = 4
  · subst h4
    rcases q1 : (e' == 4) with _ | _ <;> rcases q2 : (o'.toList == o.toList) with _ | _
    all_goals
      obtain rfl : _ = X := by rw [← hX, stF, if_neg (by decide), if_neg (by decide), if_neg (by decide), if_pos rfl, q1, q2]
      clear hX
      go_enter Try.func6, Try.ntmps6
      try (go_wp2_with fail)
      go_ret
      rw [HV.out]
      exact ⟨rfl, HB.out⟩
  by_cases h1 : e = 1
  · subst h1
    rcases q2 : (o'.toList == o.toList) with _ | _
    · obtain rfl : false = X := by rw [← hX, stF, if_neg (by decide), if_neg (by decide), if_neg (by decide), if_neg (by decide), if_pos rfl, q2]; rfl
      clear hX
      go_enter Try.func6, Try.ntmps6
      go_wp2_with fail
      go_ret
      rw [HV.out]
      exact ⟨rfl, HB.out⟩
    · obtain ⟨Y, hY⟩ : ∃ Y, endF e' = Y := ⟨_, rfl⟩
      obtain rfl : Y = X := by rw [← hX, stF, if_neg (by decide), if_neg (by decide), if_neg (by decide), if_neg (by decide), if_pos rfl, q2, hY]; rfl
      have HC := hide (i_without e' V)
      rw [hY] at HC
      clear hX hY
      go_enter Try.func6, Try.ntmps6
      go_wp2_with fail
      rw [HV.out]
      refine HC.out.mono ?_
      rintro x w ⟨rfl, rfl⟩
      go_wp2_with fail
      go_ret
      exact ⟨rfl, HB.out⟩
  by_cases h2 : e = 2
  · subst h2
    rcases q2 : (o'.toList == o.toList) with _ | _
    · obtain rfl : false = X := by rw [← hX, stF, if_neg (by decide), if_neg (by decide), if_neg (by decide), if_neg (by decide), if_neg (by decide), if_pos rfl, q2]; rfl
      clear hX
      go_enter Try.func6, Try.ntmps6
      go_wp2_with fail
      go_ret
      rw [HV.out]
      exact ⟨rfl, HB.out⟩
    · obtain ⟨Y, hY⟩ : ∃ Y, endF e' = Y := ⟨_, rfl⟩
      obtain rfl : Y = X := by rw [← hX, stF, if_neg (by decide), if_neg (by decide), if_neg (by decide), if_neg (by decide), if_neg (by decide), if_pos rfl, q2, hY]; rfl
      have HC := hide (i_without e' V)
      rw [hY] at HC
      clear hX hY
      go_enter Try.func6, Try.ntmps6
      go_wp2_with fail
      rw [HV.out]
      refine HC.out.mono ?_
      rintro x w ⟨rfl, rfl⟩
      go_wp2_with fail
      go_ret
      exact ⟨rfl, HB.out⟩
  have k7 : (e == 7) = false := by simp [h7]
  have k5 : (e == 5) = false := by simp [h5]
  have k0 : (e == 0) = false := by simp [h0]
  have k4 : (e == 4) = false := by simp [h4]
  have k1 : (e == 1) = false := by simp [h1]
  have k2 : (e == 2) = false := by simp [h2]
  rw [stF, if_neg h7, if_neg h5, if_neg h0, if_neg h4, if_neg h1, if_neg h2] at hX
  clear h7 h5 h0 h4 h1 h2
  obtain ⟨A, hA⟩ : ∃ A, begF o' o = A := ⟨_, rfl⟩
  obtain ⟨B, hB⟩ : ∃ B, begF o o' = B := ⟨_, rfl⟩
  have HC1 := hide (i_prefix2 o o' V)
  have HC2 := hide (i_prefix2 o' o V)
  rw [hA] at HC1 hX
  rw [hB] at HC2 hX
  clear hA hB
  cases A
  · obtain rfl : B = X := by rw [← hX]; simp
    clear hX
    go_enter Try.func6, Try.ntmps6
    go_wp2_with fail
    rw [HV.out]
    refine HC1.out.mono ?_
    rintro x w ⟨rfl, rfl⟩
    have z1 : w.cell? ⟨W.heap.size + 1, 1, none⟩ = some (.string o') := by rw [← HV.out]; simp
    have z2 : w.cell? ⟨W.heap.size, 1, none⟩ = some (.string o) := by rw [← HV.out]; simp
    go_wp2_with fail
    refine HC2.out.mono ?_
    rintro x w2 ⟨rfl, rfl⟩
    go_wp2_with fail
    go_ret
    exact ⟨rfl, HB.out⟩
  · obtain rfl : true = X := by rw [← hX]; simp
    clear hX HC2
    go_enter Try.func6, Try.ntmps6
    go_wp2_with fail
    rw [HV.out]
    refine HC1.out.mono ?_
    rintro x w ⟨rfl, rfl⟩
    go_wp2_with fail
    go_ret
    exact ⟨rfl, HB.out⟩

set_option maxHeartbeats 8000000 in
theorem m_Stands (e : Int) (o r : ByteArray) (s : Int) (e' : Int) (o' r' : ByteArray) (s' : Int) (W : World) :
    Calls Try.prog 7 #[.agg #[.int .i64 e, .string o, .string r, .int .i64 s], .agg #[.int .i64 e', .string o', .string r', .int .i64 s']] W fun x W' => x = .returned (.bool (stF e o e' o')) ∧ Below W.heap.size W W' := by
  obtain ⟨X, hX⟩ : ∃ X, stF e o e' o' = X := ⟨_, rfl⟩
  rw [hX]
  obtain ⟨V, hV⟩ : ∃ V, (W.alloc (.cells #[.int .i64 e, .string o, .string r, .int .i64 s] 24)).alloc (.cells #[.int .i64 e', .string o', .string r', .int .i64 s'] 24) = V := ⟨_, rfl⟩
  have b0 : Below W.heap.size W V := by rw [← hV]; exact (below_alloc1 _ _).trans ((below_alloc1 _ _).mono (by simp))
  have HB := hide b0
  have HV := hide hV
  clear b0 hV
  by_cases h7 : e = 7
  · subst h7
    obtain rfl : true = X := by rw [← hX]; exact rfl
    clear hX
    go_enter Try.func7, Try.ntmps7
    go_wp2_with fail
    go_ret
    rw [HV.out]
    exact ⟨rfl, HB.out⟩
  by_cases h5 : e = 5
  · subst h5
    obtain rfl : true = X := by rw [← hX]; exact rfl
    clear hX
    go_enter Try.func7, Try.ntmps7
    go_wp2_with fail
    go_ret
    rw [HV.out]
    exact ⟨rfl, HB.out⟩
  by_cases h0 : e = 0
  · subst h0
    rcases q1 : (e' == 0) with _ | _ <;> rcases q2 : (o'.toList == o.toList) with _ | _
    all_goals
      obtain rfl : _ = X := by rw [← hX, stF, if_neg (by decide), if_neg (by decide), if_pos rfl, q1, q2]
      clear hX
      go_enter Try.func7, Try.ntmps7
      try (go_wp2_with fail)
      go_ret
      rw [HV.out]
      exact ⟨rfl, HB.out⟩
  by_cases h4 : e = 4
  · subst h4
    rcases q1 : (e' == 4) with _ | _ <;> rcases q2 : (o'.toList == o.toList) with _ | _
    all_goals
      obtain rfl : _ = X := by rw [← hX, stF, if_neg (by decide), if_neg (by decide), if_neg (by decide), if_pos rfl, q1, q2]
      clear hX
      go_enter Try.func7, Try.ntmps7
      try (go_wp2_with fail)
      go_ret
      rw [HV.out]
      exact ⟨rfl, HB.out⟩
  by_cases h1 : e = 1
  · subst h1
    rcases q2 : (o'.toList == o.toList) with _ | _
    · obtain rfl : false = X := by rw [← hX, stF, if_neg (by decide), if_neg (by decide), if_neg (by decide), if_neg (by decide), if_pos rfl, q2]; rfl
      clear hX
      go_enter Try.func7, Try.ntmps7
      go_wp2_with fail
      go_ret
      rw [HV.out]
      exact ⟨rfl, HB.out⟩
    · obtain ⟨Y, hY⟩ : ∃ Y, endF e' = Y := ⟨_, rfl⟩
      obtain rfl : Y = X := by rw [← hX, stF, if_neg (by decide), if_neg (by decide), if_neg (by decide), if_neg (by decide), if_pos rfl, q2, hY]; rfl
      rw [endF] at hY
      have HC := hide (m_long e' V)
      rcases q3 : (e' == 1) with _ | _
      · rcases q4 : (e' == 2) with _ | _
        · rw [q3, q4] at hY
          simp only [Bool.false_or] at hY
          rw [hY] at HC
          clear hX hY
          go_enter Try.func7, Try.ntmps7
          go_wp2_with fail
          rw [HV.out]
          refine HC.out.mono ?_
          rintro x w ⟨rfl, rfl⟩
          go_wp2_with fail
          go_ret
          exact ⟨rfl, HB.out⟩
        · obtain rfl : true = Y := by rw [← hY, q3, q4]; rfl
          clear hX hY HC
          go_enter Try.func7, Try.ntmps7
          go_wp2_with fail
          go_ret
          rw [HV.out]
          exact ⟨rfl, HB.out⟩
      · obtain rfl : true = Y := by rw [← hY, q3]; rfl
        clear hX hY HC
        go_enter Try.func7, Try.ntmps7
        go_wp2_with fail
        go_ret
        rw [HV.out]
        exact ⟨rfl, HB.out⟩
  by_cases h2 : e = 2
  · subst h2
    rcases q2 : (o'.toList == o.toList) with _ | _
    · obtain rfl : false = X := by rw [← hX, stF, if_neg (by decide), if_neg (by decide), if_neg (by decide), if_neg (by decide), if_neg (by decide), if_pos rfl, q2]; rfl
      clear hX
      go_enter Try.func7, Try.ntmps7
      go_wp2_with fail
      go_ret
      rw [HV.out]
      exact ⟨rfl, HB.out⟩
    · obtain ⟨Y, hY⟩ : ∃ Y, endF e' = Y := ⟨_, rfl⟩
      obtain rfl : Y = X := by rw [← hX, stF, if_neg (by decide), if_neg (by decide), if_neg (by decide), if_neg (by decide), if_neg (by decide), if_pos rfl, q2, hY]; rfl
      rw [endF] at hY
      have HC := hide (m_long e' V)
      rcases q3 : (e' == 1) with _ | _
      · rcases q4 : (e' == 2) with _ | _
        · rw [q3, q4] at hY
          simp only [Bool.false_or] at hY
          rw [hY] at HC
          clear hX hY
          go_enter Try.func7, Try.ntmps7
          go_wp2_with fail
          rw [HV.out]
          refine HC.out.mono ?_
          rintro x w ⟨rfl, rfl⟩
          go_wp2_with fail
          go_ret
          exact ⟨rfl, HB.out⟩
        · obtain rfl : true = Y := by rw [← hY, q3, q4]; rfl
          clear hX hY HC
          go_enter Try.func7, Try.ntmps7
          go_wp2_with fail
          go_ret
          rw [HV.out]
          exact ⟨rfl, HB.out⟩
      · obtain rfl : true = Y := by rw [← hY, q3]; rfl
        clear hX hY HC
        go_enter Try.func7, Try.ntmps7
        go_wp2_with fail
        go_ret
        rw [HV.out]
        exact ⟨rfl, HB.out⟩
  have k7 : (e == 7) = false := by simp [h7]
  have k5 : (e == 5) = false := by simp [h5]
  have k0 : (e == 0) = false := by simp [h0]
  have k4 : (e == 4) = false := by simp [h4]
  have k1 : (e == 1) = false := by simp [h1]
  have k2 : (e == 2) = false := by simp [h2]
  rw [stF, if_neg h7, if_neg h5, if_neg h0, if_neg h4, if_neg h1, if_neg h2] at hX
  clear h7 h5 h0 h4 h1 h2
  obtain ⟨A, hA⟩ : ∃ A, begF o o' = A := ⟨_, rfl⟩
  obtain ⟨B, hB⟩ : ∃ B, begF o' o = B := ⟨_, rfl⟩
  have HC1 := hide (m_begins o o' V)
  have HC2 := hide (m_begins o' o V)
  rw [hA] at HC1 hX
  rw [hB] at HC2 hX
  clear hA hB
  cases A
  · obtain rfl : B = X := by rw [← hX]; simp
    clear hX
    go_enter Try.func7, Try.ntmps7
    go_wp2_with fail
    rw [HV.out]
    refine HC1.out.mono ?_
    rintro x w ⟨rfl, rfl⟩
    have z1 : w.cell? ⟨W.heap.size + 1, 1, none⟩ = some (.string o') := by rw [← HV.out]; simp
    have z2 : w.cell? ⟨W.heap.size, 1, none⟩ = some (.string o) := by rw [← HV.out]; simp
    go_wp2_with fail
    refine HC2.out.mono ?_
    rintro x w2 ⟨rfl, rfl⟩
    go_wp2_with fail
    go_ret
    exact ⟨rfl, HB.out⟩
  · obtain rfl : true = X := by rw [← hX]; simp
    clear hX HC2
    go_enter Try.func7, Try.ntmps7
    go_wp2_with fail
    rw [HV.out]
    refine HC1.out.mono ?_
    rintro x w ⟨rfl, rfl⟩
    go_wp2_with fail
    go_ret
    exact ⟨rfl, HB.out⟩

end Go.Proofs.Ytpgbaidkhjaocaa
