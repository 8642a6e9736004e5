import Derived.Test.YtpgbaidkhjaocaaSe
namespace Go.Proofs.Ytpgbaidkhjaocaa
open Go.RowKit Go.Joins D

theorem beg_refl (o : ByteArray) : begF o o = true := by
  have h : (o.extract 0 o.size) = o := by simp
  unfold begF
  rw [h]
  simp

theorem st_refl (e : Int) (o : ByteArray) : stF e o e o = true := by
  unfold stF
  by_cases h7 : e = 7
  · rw [if_pos h7]
  by_cases h5 : e = 5
  · rw [if_neg h7, if_pos h5]
  by_cases h0 : e = 0
  · rw [if_neg h7, if_neg h5, if_pos h0]; simp
  by_cases h4 : e = 4
  · rw [if_neg h7, if_neg h5, if_neg h0, if_pos h4]; simp
  by_cases h1 : e = 1
  · rw [if_neg h7, if_neg h5, if_neg h0, if_neg h4, if_pos h1]; subst h1; simp [endF]
  by_cases h2 : e = 2
  · rw [if_neg h7, if_neg h5, if_neg h0, if_neg h4, if_neg h1, if_pos h2]; subst h2; simp [endF]
  rw [if_neg h7, if_neg h5, if_neg h0, if_neg h4, if_neg h1, if_neg h2, beg_refl]; rfl

theorem st_zero (o : ByteArray) (e' : Int) (o' : ByteArray) : stF 0 o e' o' = ((e' == 0) && (o'.toList == o.toList)) := rfl

theorem st_trans {o : ByteArray} {e' : Int} {o' : ByteArray} {e'' : Int} {o'' : ByteArray} (h : stF 0 o e' o' = true) (k : stF e' o' e'' o'' = true) : stF 0 o e'' o'' = true := by
  rw [st_zero, Bool.and_eq_true] at h
  obtain ⟨h1, h2⟩ := h
  have h1' : e' = 0 := by simpa using h1
  subst h1'
  rw [st_zero, Bool.and_eq_true] at k
  obtain ⟨k1, k2⟩ := k
  rw [st_zero, Bool.and_eq_true]
  refine ⟨k1, ?_⟩
  have a : o'.toList = o.toList := by simpa using h2
  have b : o''.toList = o'.toList := by simpa using k2
  rw [b, a]
  simp

theorem st_other (o : ByteArray) (e' : Int) : stF 0 o e' (o ++ ⟨#[120]⟩) = false := by
  rw [st_zero]
  have : ((o ++ (⟨#[120]⟩ : ByteArray)).toList == o.toList) = false := by
    apply Bool.eq_false_iff.2
    intro h
    have h' : (o ++ (⟨#[120]⟩ : ByteArray)).toList = o.toList := by simpa using h
    have hl := congrArg List.length h'
    rw [ByteArray.toList_eq, ByteArray.toList_eq] at hl
    simp at hl
  rw [this, Bool.and_false]

theorem i_other (o r : ByteArray) (s : Int) (V : World) : Calls Try.prog 6 #[.agg #[.int .i64 0, .string o, .string r, .int .i64 s], .agg #[.int .i64 0, .string (o ++ ⟨#[120]⟩), .string r, .int .i64 s]] V fun e w' => e = .returned (.bool false) ∧ Below V.heap.size V w' := by
  have h := i_Stands 0 o r s 0 (o ++ ⟨#[120]⟩) r s V
  rw [st_other] at h
  exact h
end Go.Proofs.Ytpgbaidkhjaocaa
