import Derived.Test.YtpgbaidkhjaocaaKa
namespace Go.Proofs.Ytpgbaidkhjaocaa
open Go.RowKit Go.Joins

set_option maxHeartbeats 2000000 in
set_option maxRecDepth 100000 in
theorem sz_C_Outcome (m : Nat) : SzC Try.prog E 8 [.i, .t, .t, .i] m := by
  intro F nb left W hm hf hn h0 h1 hs
  obtain ⟨x0, F0, rfl, hx0, hf⟩ := fit_i hf
  obtain ⟨x1, F1, rfl, hx1, hf⟩ := fit_t hf
  obtain ⟨x2, F2, rfl, hx2, hf⟩ := fit_t hf
  obtain ⟨x3, F3, rfl, hx3, hf⟩ := fit_i hf
  obtain rfl := fit_nil hf
  clear hs
  simp only [Fo.size] at hm
  simp only [Fo.vals, Fo.wt, textSize]
  have hy1 : x1.size ≤ 9223372036854775807 := by simp only [maxLen] at hx1; omega
  have hy2 : x2.size ≤ 9223372036854775807 := by simp only [maxLen] at hx2; omega
  have bA := below_alloc1 W (.cells #[.int .i64 x0, .string x1, .string x2, .int .i64 x3] 29)
  have zA : (W.alloc (.cells #[.int .i64 x0, .string x1, .string x2, .int .i64 x3] 29)).heap.size = W.heap.size + 1 := by simp
  have Q0 := hide (Bx.new W [.int .i64 x0, .string x1, .string x2, .int .i64 x3] 29)
  have HbA := hide bA
  have HzA := hide zA
  clear bA zA
  go_enter Try.func8, Try.ntmps8
  by_cases g1 : left < (x1.size : Int)
  · go_wp2_with fail
    go_ret
    exact ⟨by rw [szV_lt (by omega)]; rfl, HbA.out⟩
  by_cases g2 : left - (x1.size : Int) < (x2.size : Int)
  · go_wp2_with fail
    go_ret
    exact ⟨by rw [szV_lt (by omega)]; rfl, HbA.out⟩
  go_wp2_with fail
  go_ret
  exact ⟨by rw [szV_ge (by omega)]; exact ret_int (by omega), HbA.out⟩

end Go.Proofs.Ytpgbaidkhjaocaa
