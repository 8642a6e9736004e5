import Derived.Test.YtanjgmmkodlffaaKx
import Derived.Test.YtanjgmmkodlffaaKMkPred
import Derived.Test.YtanjgmmkodlffaaKMkType
namespace Go.Proofs.Ytanjgmmkodlffaa.U
open Go.RowKit Go.Joins

set_option maxHeartbeats 2000000 in
set_option maxRecDepth 100000 in
theorem mk_C_Scheme (m : Nat) : MkC Try.prog E 9 [.i, .s 0, .i, .i, .t, .s 1] m := by
  intro F k W hm hf hk0 hk hs hnd hlv
  have HI := hide (MkS.start (k0 := k) hs hnd hlv)
  clear hs hnd hlv
  skip
  obtain ⟨x0, F0, rfl, hx0, hf⟩ := fit_i hf
  obtain ⟨a1, n1, c1, k1, F1, rfl, hf1, hf⟩ := fit_s hf
  obtain ⟨x2, F2, rfl, hx2, hf⟩ := fit_i hf
  obtain ⟨x3, F3, rfl, hx3, hf⟩ := fit_i hf
  obtain ⟨x4, F4, rfl, hx4, hf⟩ := fit_t hf
  obtain ⟨a5, n5, c5, k5, F5, rfl, hf5, hf⟩ := fit_s hf
  obtain rfl := fit_nil hf
  simp only [Fo.size] at hm
  simp only [Fo.sct] at hk ⊢
  simp only [Fo.vals]
  have HK := hide hk
  clear hk
  have HV0 := hide (below_alloc1 W (.cells #[.int .i64 x0, .slice a1 n1 c1, .int .i64 x2, .int .i64 x3, .string x4, .slice a5 n5 c5] 27))
  have Q0 := hide (Bx.new W [.int .i64 x0, .slice a1 n1 c1, .int .i64 x2, .int .i64 x3, .string x4, .slice a5 n5 c5] 27)
  have I0 := hide (HI.out.below HV0.out)
  obtain ⟨w0, hw0⟩ : ∃ V, W.alloc (.cells #[.int .i64 x0, .slice a1 n1 c1, .int .i64 x2, .int .i64 x3, .string x4, .slice a5 n5 c5] 27) = V := ⟨_, rfl⟩
  rw [hw0] at Q0 I0 HV0
  have HE0 := hide hw0
  clear hw0 HI
  go_enter Try.func9, Try.ntmps9
  have hq : Hid (k + Fo.sct .nil = k) := rfl
  have I0_0 := hide (I0.out.skip)
  have hq_0 : Hid (k + ((Fo.nil).app (.v (.int .i64 x0) .nil)).sct = k) := by
    have := hq.out
    show _ = _
    simp only [Fo.app_sct, Fo.sct] at this ⊢
    omega
  go_wp2_with fail
  rw [HE0.out]
  have hb1 : k + Fo.sct (.s a1 n1 c1 k1 .nil) ≤ 4294967296 := by have := HK.out; have := hq_0.out; simp only [Fo.app_sct, Fo.sct] at this ⊢;  omega
  have S1 := MkS.sub (X := (.s a1 n1 c1 k1 .nil)) I0_0.out
  have HC1 := mk_R_PredS (k1.size + 1) k1 n1 a1 c1 k w0 (Nat.lt_succ_self _) hf1 (by  omega) (by simp only [Fo.sct] at hb1; omega) S1.1 S1.2.1 S1.2.2
  refine HC1.mono ?_
  clear HC1 S1
  rintro e w1 ⟨rfl, s1, b1, l1⟩
  have I1 := hide (MkS.call (X := (.s a1 n1 c1 k1 .nil)) I0_0.out hq_0.out b1 s1 l1)
  obtain ⟨q1, hq1⟩ : ∃ q1, k + k1.ct = q1 := ⟨_, rfl⟩
  rw [hq1]
  have Q1 := hide (Q0.out.kept b1 (MkS.away (X := (.s a1 n1 c1 k1 .nil)) I0_0.out (Nat.le_refl _)))
  have HN1 : Hid (k + k1.ct = q1) := by
    have := hq1
    show _ = _
    skip
    omega
  have hqq1 : Hid (k + (((Fo.nil).app (.v (.int .i64 x0) .nil)).app (.s a1 n1 c1 k1 .nil)).sct = q1) := by
    have := hq_0.out
    have := HN1.out
    show _ = _
    simp only [Fo.app_sct, Fo.sct] at *
    omega
  clear b1 s1 l1 hq1 hb1
  have y12 : w1.cell? ⟨W.heap.size, 2, none⟩ = some (.int .i64 x2) := Q1.out.cel 2 _ rfl
  have y13 : w1.cell? ⟨W.heap.size, 3, none⟩ = some (.int .i64 x3) := Q1.out.cel 3 _ rfl
  have y14 : w1.cell? ⟨W.heap.size, 4, none⟩ = some (.string x4) := Q1.out.cel 4 _ rfl
  have y15 : w1.cell? ⟨W.heap.size, 5, none⟩ = some (.slice a5 n5 c5) := Q1.out.cel 5 _ rfl
  go_wp2_with fail
  have hb2 : q1 + Fo.sct (.v (.int .i64 x2) (.v (.int .i64 x3) (.v (.string x4) (.s a5 n5 c5 k5 .nil)))) ≤ 4294967296 := by have := HK.out; have := hqq1.out; simp only [Fo.app_sct, Fo.sct] at this ⊢; have := HN1.out; omega
  have S2 := MkS.sub (X := (.v (.int .i64 x2) (.v (.int .i64 x3) (.v (.string x4) (.s a5 n5 c5 k5 .nil))))) I1.out
  have HC2 := mk_C_Type (Fo.size (.v (.int .i64 x2) (.v (.int .i64 x3) (.v (.string x4) (.s a5 n5 c5 k5 .nil)))) + 1) (.v (.int .i64 x2) (.v (.int .i64 x3) (.v (.string x4) (.s a5 n5 c5 k5 .nil)))) q1 w1 (Nat.lt_succ_self _) ⟨hx2, hx3, hx4, hf5, trivial⟩ (by have := HN1.out; omega) hb2 S2.1 S2.2.1 S2.2.2
  simp only [Fo.vals] at HC2
  refine HC2.mono ?_
  clear HC2 S2
  rintro e w2 ⟨rfl, s2, b2, l2⟩
  have I2 := hide (MkS.call (X := (.v (.int .i64 x2) (.v (.int .i64 x3) (.v (.string x4) (.s a5 n5 c5 k5 .nil))))) I1.out hqq1.out b2 s2 l2)
  obtain ⟨q2, hq2⟩ : ∃ q2, q1 + Fo.sct (.v (.int .i64 x2) (.v (.int .i64 x3) (.v (.string x4) (.s a5 n5 c5 k5 .nil)))) = q2 := ⟨_, rfl⟩
  rw [hq2]
  have Q2 := hide (Q1.out.kept b2 (MkS.away (X := (.v (.int .i64 x2) (.v (.int .i64 x3) (.v (.string x4) (.s a5 n5 c5 k5 .nil))))) I1.out (Nat.le_refl _)))
  have HN2 : Hid (q1 + (k5.ct + 0) = q2) := by
    have := hq2
    show _ = _
    simp only [Fo.sct] at this
    omega
  have hqq2 : Hid (k + ((((Fo.nil).app (.v (.int .i64 x0) .nil)).app (.s a1 n1 c1 k1 .nil)).app (.v (.int .i64 x2) (.v (.int .i64 x3) (.v (.string x4) (.s a5 n5 c5 k5 .nil))))).sct = q2) := by
    have := hqq1.out
    have := HN2.out
    show _ = _
    simp only [Fo.app_sct, Fo.sct] at *
    omega
  clear b2 s2 l2 hq2 hb2
  have h1 := hide (I2.out.finish)
  go_wp2_with fail
  go_ret
  exact ⟨ret_int (by have := HN1.out; have := HN2.out; omega), h1.out.1, h1.out.2.1, h1.out.2.2⟩

end Go.Proofs.Ytanjgmmkodlffaa.U
