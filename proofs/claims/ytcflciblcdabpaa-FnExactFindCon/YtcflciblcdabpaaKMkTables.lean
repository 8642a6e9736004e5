import Derived.Test.YtcflciblcdabpaaKx
import Derived.Test.YtcflciblcdabpaaKMkConInfo
import Derived.Test.YtcflciblcdabpaaJG
import Derived.Test.YtcflciblcdabpaaKMkMethodInfo
import Derived.Test.YtcflciblcdabpaaKMkClassInfo
import Derived.Test.YtcflciblcdabpaaKMkInstInfo
namespace Go.Proofs.Ytcflciblcdabpaa
open Go.RowKit Go.Joins

set_option maxHeartbeats 2000000 in
set_option maxRecDepth 100000 in
theorem mk_C_Tables (m : Nat) : MkC Try.prog E 10 [.s 3, .s 4, .s 7, .s 1, .s 6] m := by
  intro F k W hm hf hk0 hk hs hnd hlv
  have HI := hide (MkS.start (k0 := k) hs hnd hlv)
  clear hs hnd hlv
  skip
  obtain ⟨a0, n0, c0, k0, F0, rfl, hf0, hf⟩ := fit_s hf
  obtain ⟨a1, n1, c1, k1, F1, rfl, hf1, hf⟩ := fit_s hf
  obtain ⟨a2, n2, c2, k2, F2, rfl, hf2, hf⟩ := fit_s hf
  obtain ⟨a3, n3, c3, k3, F3, rfl, hf3, hf⟩ := fit_s hf
  obtain ⟨a4, n4, c4, k4, F4, rfl, hf4, hf⟩ := fit_s hf
  obtain rfl := fit_nil hf
  simp only [Fo.size] at hm
  simp only [Fo.sct] at hk ⊢
  simp only [Fo.vals]
  have HK := hide hk
  clear hk
  have HV0 := hide (below_alloc1 W (.cells #[.slice a0 n0 c0, .slice a1 n1 c1, .slice a2 n2 c2, .slice a3 n3 c3, .slice a4 n4 c4] 40))
  have Q0 := hide (Bx.new W [.slice a0 n0 c0, .slice a1 n1 c1, .slice a2 n2 c2, .slice a3 n3 c3, .slice a4 n4 c4] 40)
  have I0 := hide (HI.out.below HV0.out)
  obtain ⟨w0, hw0⟩ : ∃ V, W.alloc (.cells #[.slice a0 n0 c0, .slice a1 n1 c1, .slice a2 n2 c2, .slice a3 n3 c3, .slice a4 n4 c4] 40) = V := ⟨_, rfl⟩
  rw [hw0] at Q0 I0 HV0
  have HE0 := hide hw0
  clear hw0 HI
  go_enter Try.func10, Try.ntmps10
  have hq : Hid (k + Fo.sct .nil = k) := rfl
  go_wp2_with fail
  rw [HE0.out]
  have hb1 : k + Fo.sct (.s a0 n0 c0 k0 .nil) ≤ 4294967296 := by have := HK.out; have := hq.out; simp only [Fo.sct] at this ⊢;  omega
  have S1 := MkS.sub (X := (.s a0 n0 c0 k0 .nil)) I0.out
  have HC1 := mk_R_ConInfoS (k0.size + 1) k0 n0 a0 c0 k w0 (Nat.lt_succ_self _) hf0 (by  omega) (by simp only [Fo.sct] at hb1; omega) S1.1 S1.2.1 S1.2.2
  refine HC1.mono ?_
  clear HC1 S1
  rintro e w1 ⟨rfl, s1, b1, l1⟩
  have I1 := hide (MkS.call (X := (.s a0 n0 c0 k0 .nil)) I0.out hq.out b1 s1 l1)
  obtain ⟨q1, hq1⟩ : ∃ q1, k + k0.ct = q1 := ⟨_, rfl⟩
  rw [hq1]
  have Q1 := hide (Q0.out.kept b1 (MkS.away (X := (.s a0 n0 c0 k0 .nil)) I0.out (Nat.le_refl _)))
  have HN1 : Hid (k + k0.ct = q1) := by
    have := hq1
    show _ = _
    skip
    omega
  have hqq1 : Hid (k + ((Fo.nil).app (.s a0 n0 c0 k0 .nil)).sct = q1) := by
    have := hq.out
    have := HN1.out
    show _ = _
    simp only [Fo.app_sct, Fo.sct] at *
    omega
  clear b1 s1 l1 hq1 hb1
  have y11 : w1.cell? ⟨W.heap.size, 1, none⟩ = some (.slice a1 n1 c1) := Q1.out.cel 1 _ rfl
  have y12 : w1.cell? ⟨W.heap.size, 2, none⟩ = some (.slice a2 n2 c2) := Q1.out.cel 2 _ rfl
  have y13 : w1.cell? ⟨W.heap.size, 3, none⟩ = some (.slice a3 n3 c3) := Q1.out.cel 3 _ rfl
  have y14 : w1.cell? ⟨W.heap.size, 4, none⟩ = some (.slice a4 n4 c4) := Q1.out.cel 4 _ rfl
  go_wp2_with fail
  have hb2 : q1 + Fo.sct (.s a1 n1 c1 k1 .nil) ≤ 4294967296 := by have := HK.out; have := hqq1.out; simp only [Fo.app_sct, Fo.sct] at this ⊢; have := HN1.out; omega
  have S2 := MkS.sub (X := (.s a1 n1 c1 k1 .nil)) I1.out
  have HC2 := mk_R_DataInfoS (k1.size + 1) k1 n1 a1 c1 q1 w1 (Nat.lt_succ_self _) hf1 (by have := HN1.out; omega) (by simp only [Fo.sct] at hb2; omega) S2.1 S2.2.1 S2.2.2
  refine HC2.mono ?_
  clear HC2 S2
  rintro e w2 ⟨rfl, s2, b2, l2⟩
  have I2 := hide (MkS.call (X := (.s a1 n1 c1 k1 .nil)) I1.out hqq1.out b2 s2 l2)
  obtain ⟨q2, hq2⟩ : ∃ q2, q1 + k1.ct = q2 := ⟨_, rfl⟩
  rw [hq2]
  have Q2 := hide (Q1.out.kept b2 (MkS.away (X := (.s a1 n1 c1 k1 .nil)) I1.out (Nat.le_refl _)))
  have HN2 : Hid (q1 + k1.ct = q2) := by
    have := hq2
    show _ = _
    skip
    omega
  have hqq2 : Hid (k + (((Fo.nil).app (.s a0 n0 c0 k0 .nil)).app (.s a1 n1 c1 k1 .nil)).sct = q2) := by
    have := hqq1.out
    have := HN2.out
    show _ = _
    simp only [Fo.app_sct, Fo.sct] at *
    omega
  clear b2 s2 l2 hq2 hb2
  have y22 : w2.cell? ⟨W.heap.size, 2, none⟩ = some (.slice a2 n2 c2) := Q2.out.cel 2 _ rfl
  have y23 : w2.cell? ⟨W.heap.size, 3, none⟩ = some (.slice a3 n3 c3) := Q2.out.cel 3 _ rfl
  have y24 : w2.cell? ⟨W.heap.size, 4, none⟩ = some (.slice a4 n4 c4) := Q2.out.cel 4 _ rfl
  go_wp2_with fail
  have hb3 : q2 + Fo.sct (.s a2 n2 c2 k2 .nil) ≤ 4294967296 := by have := HK.out; have := hqq2.out; simp only [Fo.app_sct, Fo.sct] at this ⊢; have := HN1.out; have := HN2.out; omega
  have S3 := MkS.sub (X := (.s a2 n2 c2 k2 .nil)) I2.out
  have HC3 := mk_R_MethodInfoS (k2.size + 1) k2 n2 a2 c2 q2 w2 (Nat.lt_succ_self _) hf2 (by have := HN1.out; have := HN2.out; omega) (by simp only [Fo.sct] at hb3; omega) S3.1 S3.2.1 S3.2.2
  refine HC3.mono ?_
  clear HC3 S3
  rintro e w3 ⟨rfl, s3, b3, l3⟩
  have I3 := hide (MkS.call (X := (.s a2 n2 c2 k2 .nil)) I2.out hqq2.out b3 s3 l3)
  obtain ⟨q3, hq3⟩ : ∃ q3, q2 + k2.ct = q3 := ⟨_, rfl⟩
  rw [hq3]
  have Q3 := hide (Q2.out.kept b3 (MkS.away (X := (.s a2 n2 c2 k2 .nil)) I2.out (Nat.le_refl _)))
  have HN3 : Hid (q2 + k2.ct = q3) := by
    have := hq3
    show _ = _
    skip
    omega
  have hqq3 : Hid (k + ((((Fo.nil).app (.s a0 n0 c0 k0 .nil)).app (.s a1 n1 c1 k1 .nil)).app (.s a2 n2 c2 k2 .nil)).sct = q3) := by
    have := hqq2.out
    have := HN3.out
    show _ = _
    simp only [Fo.app_sct, Fo.sct] at *
    omega
  clear b3 s3 l3 hq3 hb3
  have y33 : w3.cell? ⟨W.heap.size, 3, none⟩ = some (.slice a3 n3 c3) := Q3.out.cel 3 _ rfl
  have y34 : w3.cell? ⟨W.heap.size, 4, none⟩ = some (.slice a4 n4 c4) := Q3.out.cel 4 _ rfl
  go_wp2_with fail
  have hb4 : q3 + Fo.sct (.s a3 n3 c3 k3 .nil) ≤ 4294967296 := by have := HK.out; have := hqq3.out; simp only [Fo.app_sct, Fo.sct] at this ⊢; have := HN1.out; have := HN2.out; have := HN3.out; omega
  have S4 := MkS.sub (X := (.s a3 n3 c3 k3 .nil)) I3.out
  have HC4 := mk_R_ClassInfoS (k3.size + 1) k3 n3 a3 c3 q3 w3 (Nat.lt_succ_self _) hf3 (by have := HN1.out; have := HN2.out; have := HN3.out; omega) (by simp only [Fo.sct] at hb4; omega) S4.1 S4.2.1 S4.2.2
  refine HC4.mono ?_
  clear HC4 S4
  rintro e w4 ⟨rfl, s4, b4, l4⟩
  have I4 := hide (MkS.call (X := (.s a3 n3 c3 k3 .nil)) I3.out hqq3.out b4 s4 l4)
  obtain ⟨q4, hq4⟩ : ∃ q4, q3 + k3.ct = q4 := ⟨_, rfl⟩
  rw [hq4]
  have Q4 := hide (Q3.out.kept b4 (MkS.away (X := (.s a3 n3 c3 k3 .nil)) I3.out (Nat.le_refl _)))
  have HN4 : Hid (q3 + k3.ct = q4) := by
    have := hq4
    show _ = _
    skip
    omega
  have hqq4 : Hid (k + (((((Fo.nil).app (.s a0 n0 c0 k0 .nil)).app (.s a1 n1 c1 k1 .nil)).app (.s a2 n2 c2 k2 .nil)).app (.s a3 n3 c3 k3 .nil)).sct = q4) := by
    have := hqq3.out
    have := HN4.out
    show _ = _
    simp only [Fo.app_sct, Fo.sct] at *
    omega
  clear b4 s4 l4 hq4 hb4
  have y44 : w4.cell? ⟨W.heap.size, 4, none⟩ = some (.slice a4 n4 c4) := Q4.out.cel 4 _ rfl
  go_wp2_with fail
  have hb5 : q4 + Fo.sct (.s a4 n4 c4 k4 .nil) ≤ 4294967296 := by have := HK.out; have := hqq4.out; simp only [Fo.app_sct, Fo.sct] at this ⊢; have := HN1.out; have := HN2.out; have := HN3.out; have := HN4.out; omega
  have S5 := MkS.sub (X := (.s a4 n4 c4 k4 .nil)) I4.out
  have HC5 := mk_R_InstInfoS (k4.size + 1) k4 n4 a4 c4 q4 w4 (Nat.lt_succ_self _) hf4 (by have := HN1.out; have := HN2.out; have := HN3.out; have := HN4.out; omega) (by simp only [Fo.sct] at hb5; omega) S5.1 S5.2.1 S5.2.2
  refine HC5.mono ?_
  clear HC5 S5
  rintro e w5 ⟨rfl, s5, b5, l5⟩
  have I5 := hide (MkS.call (X := (.s a4 n4 c4 k4 .nil)) I4.out hqq4.out b5 s5 l5)
  obtain ⟨q5, hq5⟩ : ∃ q5, q4 + k4.ct = q5 := ⟨_, rfl⟩
  rw [hq5]
  have Q5 := hide (Q4.out.kept b5 (MkS.away (X := (.s a4 n4 c4 k4 .nil)) I4.out (Nat.le_refl _)))
  have HN5 : Hid (q4 + k4.ct = q5) := by
    have := hq5
    show _ = _
    skip
    omega
  have hqq5 : Hid (k + ((((((Fo.nil).app (.s a0 n0 c0 k0 .nil)).app (.s a1 n1 c1 k1 .nil)).app (.s a2 n2 c2 k2 .nil)).app (.s a3 n3 c3 k3 .nil)).app (.s a4 n4 c4 k4 .nil)).sct = q5) := by
    have := hqq4.out
    have := HN5.out
    show _ = _
    simp only [Fo.app_sct, Fo.sct] at *
    omega
  clear b5 s5 l5 hq5 hb5
  have h1 := hide (I5.out.finish)
  go_wp2_with fail
  go_ret
  exact ⟨ret_int (by have := HN1.out; have := HN2.out; have := HN3.out; have := HN4.out; have := HN5.out; omega), h1.out.1, h1.out.2.1, h1.out.2.2⟩

end Go.Proofs.Ytcflciblcdabpaa
