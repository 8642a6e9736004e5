import Derived.Test.YtanjgmmkodlffaaKx
import Derived.Test.YtanjgmmkodlffaaKHdPred
import Derived.Test.YtanjgmmkodlffaaKHdType
namespace Go.Proofs.Ytanjgmmkodlffaa.U
open Go.RowKit Go.Joins

set_option maxHeartbeats 2000000 in
set_option maxRecDepth 100000 in
theorem hd_C_Scheme (m : Nat) : HdC Try.prog E 10 [.i, .s 0, .i, .i, .t, .s 1] m := by
  intro F nb k W hm hf hn hk0 hk hs
  skip
  obtain ⟨x0, F0, rfl, hx0, hf⟩ := fit_i hf
  obtain ⟨a1, n1, c1, k1, F1, rfl, hf1, hf⟩ := fit_s hf
  obtain ⟨x2, F2, rfl, hx2, hf⟩ := fit_i hf
  obtain ⟨x3, F3, rfl, hx3, hf⟩ := fit_i hf
  obtain ⟨x4, F4, rfl, hx4, hf⟩ := fit_t hf
  obtain ⟨a5, n5, c5, k5, F5, rfl, hf5, hf⟩ := fit_s hf
  obtain rfl := fit_nil hf
  simp only [Fo.size] at hm
  simp only [Fo.sct] at hk ⊢
  simp only [Fo.vals]
  have HK := hide hk
  clear hk
  obtain ⟨hs1, hs5, -⟩ := hs
  have HS1 := hide hs1
  have HS5 := hide hs5
  clear hs1 hs5
  have HB0 := hide (below_alloc1 W (.cells #[.int .i64 x0, .slice a1 n1 c1, .int .i64 x2, .int .i64 x3, .string x4, .slice a5 n5 c5] 27))
  have Q0 := hide (Bx.new W [.int .i64 x0, .slice a1 n1 c1, .int .i64 x2, .int .i64 x3, .string x4, .slice a5 n5 c5] 27)
  obtain ⟨w0, hw0⟩ : ∃ V, W.alloc (.cells #[.int .i64 x0, .slice a1 n1 c1, .int .i64 x2, .int .i64 x3, .string x4, .slice a5 n5 c5] 27) = V := ⟨_, rfl⟩
  rw [hw0] at Q0 HB0
  have HE0 := hide hw0
  clear hw0
  go_enter Try.func10, Try.ntmps10
  go_wp2_with fail
  rw [HE0.out]
  have hsj1 := HS1.out
  have eN1 : k = k := by  omega
  skip
  have HC1 := hd_R_PredS (k1.size + 1) k1 n1 nb a1 c1 k w0 (Nat.lt_succ_self _) hf1 (by have := HB0.out.size; omega) (by  omega) (by have := HK.out;  omega) (Fo.Sub.below HB0.out (fun c hc => by omega) hsj1)
  refine HC1.mono ?_
  clear HC1
  rintro e w1 ⟨rfl, b1⟩
  have HB1 := hide (HB0.out.trans (b1.mono HB0.out.size))
  have Q1 := hide (Q0.out.below b1)
  obtain ⟨q1, hq1⟩ : ∃ q1, k + k1.ct = q1 := ⟨_, rfl⟩
  rw [hq1]
  have HN1 := hide hq1
  have hnn1 : ¬ (q1 : Int) < 0 := by omega
  clear b1 hq1
  have y12 : w1.cell? ⟨W.heap.size, 2, none⟩ = some (.int .i64 x2) := Q1.out.cel 2 _ rfl
  have y13 : w1.cell? ⟨W.heap.size, 3, none⟩ = some (.int .i64 x3) := Q1.out.cel 3 _ rfl
  have y14 : w1.cell? ⟨W.heap.size, 4, none⟩ = some (.string x4) := Q1.out.cel 4 _ rfl
  have y15 : w1.cell? ⟨W.heap.size, 5, none⟩ = some (.slice a5 n5 c5) := Q1.out.cel 5 _ rfl
  go_wp2_with fail
  have eN2 : k + k1.ct = q1 := by have := HN1.out; omega
  have hsj2_3 := HS5.out
  rw [eN2] at hsj2_3
  have HC2 := hd_C_Type (Fo.size (.v (.int .i64 x2) (.v (.int .i64 x3) (.v (.string x4) (.s a5 n5 c5 k5 .nil)))) + 1) (.v (.int .i64 x2) (.v (.int .i64 x3) (.v (.string x4) (.s a5 n5 c5 k5 .nil)))) nb q1 w1 (Nat.lt_succ_self _) ⟨hx2, hx3, hx4, hf5, trivial⟩ (by have := HB1.out.size; omega) (by have := HN1.out; omega) (by have := HK.out; have := HN1.out; simp only [Fo.sct]; omega) ⟨Fo.Sub.below HB1.out (fun c hc => by omega) hsj2_3, trivial⟩
  simp only [Fo.vals, Fo.sct] at HC2
  refine HC2.mono ?_
  clear HC2
  rintro e w2 ⟨rfl, b2⟩
  have HB2 := hide (HB1.out.trans (b2.mono HB1.out.size))
  have Q2 := hide (Q1.out.below b2)
  obtain ⟨q2, hq2⟩ : ∃ q2, q1 + (k5.ct + 0) = q2 := ⟨_, rfl⟩
  rw [hq2]
  have HN2 := hide hq2
  have hnn2 : ¬ (q2 : Int) < 0 := by omega
  clear b2 hq2
  go_wp2_with fail
  go_ret
  exact ⟨ret_int (by have := HN1.out; have := HN2.out; omega), HB2.out⟩

end Go.Proofs.Ytanjgmmkodlffaa.U
