import Derived.Test.YtkjbkmhmghmodaaKx
import Derived.Test.YtkjbkmhmghmodaaKHdConInfo
import Derived.Test.YtkjbkmhmghmodaaKHdDataInfo
import Derived.Test.YtkjbkmhmghmodaaKHdMethodInfo
import Derived.Test.YtkjbkmhmghmodaaKHdClassInfo
import Derived.Test.YtkjbkmhmghmodaaKHdInstInfo
namespace Go.Proofs.Ytkjbkmhmghmodaa
open Go.RowKit Go.Joins

set_option maxHeartbeats 2000000 in
set_option maxRecDepth 100000 in
theorem hd_C_Tables (m : Nat) : HdC Try.prog E 11 [.s 3, .s 4, .s 7, .s 1, .s 6] m := by
  intro F nb k W hm hf hn hk0 hk hs
  skip
  obtain ⟨a0, n0, c0, k0, F0, rfl, hf0, hf⟩ := fit_s hf
  obtain ⟨a1, n1, c1, k1, F1, rfl, hf1, hf⟩ := fit_s hf
  obtain ⟨a2, n2, c2, k2, F2, rfl, hf2, hf⟩ := fit_s hf
  obtain ⟨a3, n3, c3, k3, F3, rfl, hf3, hf⟩ := fit_s hf
  obtain ⟨a4, n4, c4, k4, F4, rfl, hf4, hf⟩ := fit_s hf
  obtain rfl := fit_nil hf
  simp only [Fo.size] at hm
  simp only [Fo.sct] at hk ⊢
  simp only [Fo.vals]
  have HK := hide hk
  clear hk
  obtain ⟨hs0, hs1, hs2, hs3, hs4, -⟩ := hs
  have HS0 := hide hs0
  have HS1 := hide hs1
  have HS2 := hide hs2
  have HS3 := hide hs3
  have HS4 := hide hs4
  clear hs0 hs1 hs2 hs3 hs4
  have HB0 := hide (below_alloc1 W (.cells #[.slice a0 n0 c0, .slice a1 n1 c1, .slice a2 n2 c2, .slice a3 n3 c3, .slice a4 n4 c4] 28))
  have Q0 := hide (Bx.new W [.slice a0 n0 c0, .slice a1 n1 c1, .slice a2 n2 c2, .slice a3 n3 c3, .slice a4 n4 c4] 28)
  obtain ⟨w0, hw0⟩ : ∃ V, W.alloc (.cells #[.slice a0 n0 c0, .slice a1 n1 c1, .slice a2 n2 c2, .slice a3 n3 c3, .slice a4 n4 c4] 28) = V := ⟨_, rfl⟩
  rw [hw0] at Q0 HB0
  have HE0 := hide hw0
  clear hw0
  go_enter Try.func11, Try.ntmps11
  go_wp2_with fail
  rw [HE0.out]
  have hsj1 := HS0.out
  have eN1 : k = k := by  omega
  skip
  have HC1 := hd_R_ConInfoS (k0.size + 1) k0 n0 nb a0 c0 k w0 (Nat.lt_succ_self _) hf0 (by have := HB0.out.size; omega) (by  omega) (by have := HK.out;  omega) (Fo.Sub.below HB0.out (fun c hc => by omega) hsj1)
  refine HC1.mono ?_
  clear HC1
  rintro e w1 ⟨rfl, b1⟩
  have HB1 := hide (HB0.out.trans (b1.mono HB0.out.size))
  have Q1 := hide (Q0.out.below b1)
  obtain ⟨q1, hq1⟩ : ∃ q1, k + k0.ct = q1 := ⟨_, rfl⟩
  rw [hq1]
  have HN1 := hide hq1
  have hnn1 : ¬ (q1 : Int) < 0 := by omega
  clear b1 hq1
  have y11 : w1.cell? ⟨W.heap.size, 1, none⟩ = some (.slice a1 n1 c1) := Q1.out.cel 1 _ rfl
  have y12 : w1.cell? ⟨W.heap.size, 2, none⟩ = some (.slice a2 n2 c2) := Q1.out.cel 2 _ rfl
  have y13 : w1.cell? ⟨W.heap.size, 3, none⟩ = some (.slice a3 n3 c3) := Q1.out.cel 3 _ rfl
  have y14 : w1.cell? ⟨W.heap.size, 4, none⟩ = some (.slice a4 n4 c4) := Q1.out.cel 4 _ rfl
  go_wp2_with fail
  have hsj2 := HS1.out
  have eN2 : k + k0.ct = q1 := by have := HN1.out; omega
  rw [eN2] at hsj2
  have HC2 := hd_R_DataInfoS (k1.size + 1) k1 n1 nb a1 c1 q1 w1 (Nat.lt_succ_self _) hf1 (by have := HB1.out.size; omega) (by have := HN1.out; omega) (by have := HK.out; have := HN1.out; omega) (Fo.Sub.below HB1.out (fun c hc => by omega) hsj2)
  refine HC2.mono ?_
  clear HC2
  rintro e w2 ⟨rfl, b2⟩
  have HB2 := hide (HB1.out.trans (b2.mono HB1.out.size))
  have Q2 := hide (Q1.out.below b2)
  obtain ⟨q2, hq2⟩ : ∃ q2, q1 + k1.ct = q2 := ⟨_, rfl⟩
  rw [hq2]
  have HN2 := hide hq2
  have hnn2 : ¬ (q2 : Int) < 0 := by omega
  clear b2 hq2
  have y22 : w2.cell? ⟨W.heap.size, 2, none⟩ = some (.slice a2 n2 c2) := Q2.out.cel 2 _ rfl
  have y23 : w2.cell? ⟨W.heap.size, 3, none⟩ = some (.slice a3 n3 c3) := Q2.out.cel 3 _ rfl
  have y24 : w2.cell? ⟨W.heap.size, 4, none⟩ = some (.slice a4 n4 c4) := Q2.out.cel 4 _ rfl
  go_wp2_with fail
  have hsj3 := HS2.out
  have eN3 : k + k0.ct + k1.ct = q2 := by have := HN1.out; have := HN2.out; omega
  rw [eN3] at hsj3
  have HC3 := hd_R_MethodInfoS (k2.size + 1) k2 n2 nb a2 c2 q2 w2 (Nat.lt_succ_self _) hf2 (by have := HB2.out.size; omega) (by have := HN1.out; have := HN2.out; omega) (by have := HK.out; have := HN1.out; have := HN2.out; omega) (Fo.Sub.below HB2.out (fun c hc => by omega) hsj3)
  refine HC3.mono ?_
  clear HC3
  rintro e w3 ⟨rfl, b3⟩
  have HB3 := hide (HB2.out.trans (b3.mono HB2.out.size))
  have Q3 := hide (Q2.out.below b3)
  obtain ⟨q3, hq3⟩ : ∃ q3, q2 + k2.ct = q3 := ⟨_, rfl⟩
  rw [hq3]
  have HN3 := hide hq3
  have hnn3 : ¬ (q3 : Int) < 0 := by omega
  clear b3 hq3
  have y33 : w3.cell? ⟨W.heap.size, 3, none⟩ = some (.slice a3 n3 c3) := Q3.out.cel 3 _ rfl
  have y34 : w3.cell? ⟨W.heap.size, 4, none⟩ = some (.slice a4 n4 c4) := Q3.out.cel 4 _ rfl
  go_wp2_with fail
  have hsj4 := HS3.out
  have eN4 : k + k0.ct + k1.ct + k2.ct = q3 := by have := HN1.out; have := HN2.out; have := HN3.out; omega
  rw [eN4] at hsj4
  have HC4 := hd_R_ClassInfoS (k3.size + 1) k3 n3 nb a3 c3 q3 w3 (Nat.lt_succ_self _) hf3 (by have := HB3.out.size; omega) (by have := HN1.out; have := HN2.out; have := HN3.out; omega) (by have := HK.out; have := HN1.out; have := HN2.out; have := HN3.out; omega) (Fo.Sub.below HB3.out (fun c hc => by omega) hsj4)
  refine HC4.mono ?_
  clear HC4
  rintro e w4 ⟨rfl, b4⟩
  have HB4 := hide (HB3.out.trans (b4.mono HB3.out.size))
  have Q4 := hide (Q3.out.below b4)
  obtain ⟨q4, hq4⟩ : ∃ q4, q3 + k3.ct = q4 := ⟨_, rfl⟩
  rw [hq4]
  have HN4 := hide hq4
  have hnn4 : ¬ (q4 : Int) < 0 := by omega
  clear b4 hq4
  have y44 : w4.cell? ⟨W.heap.size, 4, none⟩ = some (.slice a4 n4 c4) := Q4.out.cel 4 _ rfl
  go_wp2_with fail
  have hsj5 := HS4.out
  have eN5 : k + k0.ct + k1.ct + k2.ct + k3.ct = q4 := by have := HN1.out; have := HN2.out; have := HN3.out; have := HN4.out; omega
  rw [eN5] at hsj5
  have HC5 := hd_R_InstInfoS (k4.size + 1) k4 n4 nb a4 c4 q4 w4 (Nat.lt_succ_self _) hf4 (by have := HB4.out.size; omega) (by have := HN1.out; have := HN2.out; have := HN3.out; have := HN4.out; omega) (by have := HK.out; have := HN1.out; have := HN2.out; have := HN3.out; have := HN4.out; omega) (Fo.Sub.below HB4.out (fun c hc => by omega) hsj5)
  refine HC5.mono ?_
  clear HC5
  rintro e w5 ⟨rfl, b5⟩
  have HB5 := hide (HB4.out.trans (b5.mono HB4.out.size))
  have Q5 := hide (Q4.out.below b5)
  obtain ⟨q5, hq5⟩ : ∃ q5, q4 + k4.ct = q5 := ⟨_, rfl⟩
  rw [hq5]
  have HN5 := hide hq5
  have hnn5 : ¬ (q5 : Int) < 0 := by omega
  clear b5 hq5
  go_wp2_with fail
  go_ret
  exact ⟨ret_int (by have := HN1.out; have := HN2.out; have := HN3.out; have := HN4.out; have := HN5.out; omega), HB5.out⟩

end Go.Proofs.Ytkjbkmhmghmodaa
