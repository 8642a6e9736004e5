import Derived.Test.YtcflciblcdabpaaKx
import Derived.Test.YtcflciblcdabpaaKHdType
namespace Go.Proofs.Ytcflciblcdabpaa
open Go.RowKit Go.Joins

set_option maxHeartbeats 2000000 in
set_option maxRecDepth 100000 in
theorem hd_C_ConInfo (m : Nat) : HdC Try.prog E 12 (E 3) m := by
  intro F nb k W hm hf hn hk0 hk hs
  replace hf : Fit E F [.t, .t, .i, .i, .s 2] := hf
  obtain ⟨x0, F0, rfl, hx0, hf⟩ := fit_t hf
  obtain ⟨x1, F1, rfl, hx1, hf⟩ := fit_t hf
  obtain ⟨x2, F2, rfl, hx2, hf⟩ := fit_i hf
  obtain ⟨x3, F3, rfl, hx3, hf⟩ := fit_i hf
  obtain ⟨a4, n4, c4, k4, F4, rfl, hf4, hf⟩ := fit_s hf
  obtain rfl := fit_nil hf
  simp only [Fo.size] at hm
  simp only [Fo.sct] at hk ⊢
  simp only [Fo.vals]
  have HK := hide hk
  clear hk
  obtain ⟨hs4, -⟩ := hs
  have HS4 := hide hs4
  clear hs4
  have HB0 := hide (below_alloc1 W (.cells #[.string x0, .string x1, .int .i64 x2, .int .i64 x3, .slice a4 n4 c4] 32))
  have Q0 := hide (Bx.new W [.string x0, .string x1, .int .i64 x2, .int .i64 x3, .slice a4 n4 c4] 32)
  obtain ⟨w0, hw0⟩ : ∃ V, W.alloc (.cells #[.string x0, .string x1, .int .i64 x2, .int .i64 x3, .slice a4 n4 c4] 32) = V := ⟨_, rfl⟩
  rw [hw0] at Q0 HB0
  have HE0 := hide hw0
  clear hw0
  go_enter Try.func12, Try.ntmps12
  go_wp2_with fail
  rw [HE0.out]
  have hsj1 := HS4.out
  have eN1 : k = k := by  omega
  skip
  have HC1 := hd_R_TypeS (k4.size + 1) k4 n4 nb a4 c4 k w0 (Nat.lt_succ_self _) hf4 (by have := HB0.out.size; omega) (by  omega) (by have := HK.out;  omega) (Fo.Sub.below HB0.out (fun c hc => by omega) hsj1)
  refine HC1.mono ?_
  clear HC1
  rintro e w1 ⟨rfl, b1⟩
  have HB1 := hide (HB0.out.trans (b1.mono HB0.out.size))
  have Q1 := hide (Q0.out.below b1)
  obtain ⟨q1, hq1⟩ : ∃ q1, k + k4.ct = q1 := ⟨_, rfl⟩
  rw [hq1]
  have HN1 := hide hq1
  have hnn1 : ¬ (q1 : Int) < 0 := by omega
  clear b1 hq1
  go_wp2_with fail
  go_ret
  exact ⟨ret_int (by have := HN1.out; omega), HB1.out⟩

end Go.Proofs.Ytcflciblcdabpaa
