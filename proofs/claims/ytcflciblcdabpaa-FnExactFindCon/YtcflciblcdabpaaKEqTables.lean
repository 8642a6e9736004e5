import Derived.Test.YtcflciblcdabpaaKe
import Derived.Test.YtcflciblcdabpaaKEqConInfo
import Derived.Test.YtcflciblcdabpaaJF
import Derived.Test.YtcflciblcdabpaaKEqMethodInfo
import Derived.Test.YtcflciblcdabpaaKEqClassInfo
import Derived.Test.YtcflciblcdabpaaKEqInstInfo
namespace Go.Proofs.Ytcflciblcdabpaa
open Go.RowKit Go.Joins

set_option maxHeartbeats 2000000 in
set_option maxRecDepth 100000 in
theorem eq_C_Tables (m : Nat) : EqC Try.prog E 9 [.s 3, .s 4, .s 7, .s 1, .s 6] m := by
  intro F G nb W hm hf hn hsim hs ht
  obtain ⟨a0, n0, c0, k0, F0, rfl, hf0, hf⟩ := fit_s hf
  obtain ⟨a1, n1, c1, k1, F1, rfl, hf1, hf⟩ := fit_s hf
  obtain ⟨a2, n2, c2, k2, F2, rfl, hf2, hf⟩ := fit_s hf
  obtain ⟨a3, n3, c3, k3, F3, rfl, hf3, hf⟩ := fit_s hf
  obtain ⟨a4, n4, c4, k4, F4, rfl, hf4, hf⟩ := fit_s hf
  obtain rfl := fit_nil hf
  obtain ⟨d0, e0, t0, u0, rfl, r0, s_1⟩ := Fo.sim_s hsim
  obtain ⟨d1, e1, t1, u1, rfl, r1, s_2⟩ := Fo.sim_s s_1
  obtain ⟨d2, e2, t2, u2, rfl, r2, s_3⟩ := Fo.sim_s s_2
  obtain ⟨d3, e3, t3, u3, rfl, r3, s_4⟩ := Fo.sim_s s_3
  obtain ⟨d4, e4, t4, u4, rfl, r4, s_5⟩ := Fo.sim_s s_4
  obtain rfl := Fo.sim_nil s_5
  clear hsim s_1 s_2 s_3 s_4 s_5
  obtain ⟨hs0, hs1, hs2, hs3, hs4, -⟩ := hs
  obtain ⟨ht0, ht1, ht2, ht3, ht4, -⟩ := ht
  simp only [Fo.size] at hm
  simp only [Fo.vals]
  have HS0 : Hid (Fo.Sub W (fun c => c < nb) a0 n0 c0 k0) := hs0
  have HT0 : Hid (Fo.Sub W (fun c => c < nb) d0 n0 e0 t0) := ht0
  have HS1 : Hid (Fo.Sub W (fun c => c < nb) a1 n1 c1 k1) := hs1
  have HT1 : Hid (Fo.Sub W (fun c => c < nb) d1 n1 e1 t1) := ht1
  have HS2 : Hid (Fo.Sub W (fun c => c < nb) a2 n2 c2 k2) := hs2
  have HT2 : Hid (Fo.Sub W (fun c => c < nb) d2 n2 e2 t2) := ht2
  have HS3 : Hid (Fo.Sub W (fun c => c < nb) a3 n3 c3 k3) := hs3
  have HT3 : Hid (Fo.Sub W (fun c => c < nb) d3 n3 e3 t3) := ht3
  have HS4 : Hid (Fo.Sub W (fun c => c < nb) a4 n4 c4 k4) := hs4
  have HT4 : Hid (Fo.Sub W (fun c => c < nb) d4 n4 e4 t4) := ht4
  clear hs0 ht0 hs1 ht1 hs2 ht2 hs3 ht3 hs4 ht4
  obtain ⟨w0, hV0⟩ : ∃ V0, (W.alloc (.cells #[.slice a0 n0 c0, .slice a1 n1 c1, .slice a2 n2 c2, .slice a3 n3 c3, .slice a4 n4 c4] 40)).alloc (.cells #[.slice d0 n0 e0, .slice d1 n1 e1, .slice d2 n2 e2, .slice d3 n3 e3, .slice d4 n4 e4] 40) = V0 := ⟨_, rfl⟩
  have HB0 : Hid (Below W.heap.size W w0) := by rw [← hV0]; exact below_alloc2 _ _ _
  have Q0 : Hid (Bx w0 W.heap.size [.slice a0 n0 c0, .slice a1 n1 c1, .slice a2 n2 c2, .slice a3 n3 c3, .slice a4 n4 c4]) := by
    rw [← hV0]
    exact (Bx.new _ _ _).kept (Kept.alloc (fun _ => True) _ _) trivial
  have R0 : Hid (Bx w0 (W.heap.size + 1) [.slice d0 n0 e0, .slice d1 n1 e1, .slice d2 n2 e2, .slice d3 n3 e3, .slice d4 n4 e4]) := by
    rw [← hV0]
    have := Bx.new (W.alloc (.cells #[.slice a0 n0 c0, .slice a1 n1 c1, .slice a2 n2 c2, .slice a3 n3 c3, .slice a4 n4 c4] 40)) [.slice d0 n0 e0, .slice d1 n1 e1, .slice d2 n2 e2, .slice d3 n3 e3, .slice d4 n4 e4] 40
    rwa [World.size_alloc] at this
  have HV0 := hide hV0
  clear hV0
  go_enter Try.func9, Try.ntmps9
  go_wp2_with fail
  rw [HV0.out]
  clear HV0
  have HC1 := eq_R_ConInfoS m k0 t0 n0 nb w0 a0 d0 c0 e0 (by omega) hf0 (by have := HB0.out.size; omega) r0 (HS0.out.below HB0.out (fun c hc => by omega)) (HT0.out.below HB0.out (fun c hc => by omega))
  refine HC1.mono ?_
  clear HC1
  rintro e w1 ⟨rfl, b1⟩
  have HB1 := hide (HB0.out.trans (b1.mono HB0.out.size))
  have Q1 := hide (Q0.out.below b1)
  have R1 := hide (R0.out.below b1)
  clear b1
  have y11 : w1.cell? ⟨W.heap.size, 1, none⟩ = some (.slice a1 n1 c1) := Q1.out.cel 1 _ rfl
  have Y11 : w1.cell? ⟨W.heap.size + 1, 1, none⟩ = some (.slice d1 n1 e1) := R1.out.cel 1 _ rfl
  have y12 : w1.cell? ⟨W.heap.size, 2, none⟩ = some (.slice a2 n2 c2) := Q1.out.cel 2 _ rfl
  have Y12 : w1.cell? ⟨W.heap.size + 1, 2, none⟩ = some (.slice d2 n2 e2) := R1.out.cel 2 _ rfl
  have y13 : w1.cell? ⟨W.heap.size, 3, none⟩ = some (.slice a3 n3 c3) := Q1.out.cel 3 _ rfl
  have Y13 : w1.cell? ⟨W.heap.size + 1, 3, none⟩ = some (.slice d3 n3 e3) := R1.out.cel 3 _ rfl
  have y14 : w1.cell? ⟨W.heap.size, 4, none⟩ = some (.slice a4 n4 c4) := Q1.out.cel 4 _ rfl
  have Y14 : w1.cell? ⟨W.heap.size + 1, 4, none⟩ = some (.slice d4 n4 e4) := R1.out.cel 4 _ rfl
  go_wp2_with fail
  have HC2 := eq_R_DataInfoS m k1 t1 n1 nb w1 a1 d1 c1 e1 (by omega) hf1 (by have := HB1.out.size; omega) r1 (HS1.out.below HB1.out (fun c hc => by omega)) (HT1.out.below HB1.out (fun c hc => by omega))
  refine HC2.mono ?_
  clear HC2
  rintro e w2 ⟨rfl, b2⟩
  have HB2 := hide (HB1.out.trans (b2.mono HB1.out.size))
  have Q2 := hide (Q1.out.below b2)
  have R2 := hide (R1.out.below b2)
  clear b2
  have y22 : w2.cell? ⟨W.heap.size, 2, none⟩ = some (.slice a2 n2 c2) := Q2.out.cel 2 _ rfl
  have Y22 : w2.cell? ⟨W.heap.size + 1, 2, none⟩ = some (.slice d2 n2 e2) := R2.out.cel 2 _ rfl
  have y23 : w2.cell? ⟨W.heap.size, 3, none⟩ = some (.slice a3 n3 c3) := Q2.out.cel 3 _ rfl
  have Y23 : w2.cell? ⟨W.heap.size + 1, 3, none⟩ = some (.slice d3 n3 e3) := R2.out.cel 3 _ rfl
  have y24 : w2.cell? ⟨W.heap.size, 4, none⟩ = some (.slice a4 n4 c4) := Q2.out.cel 4 _ rfl
  have Y24 : w2.cell? ⟨W.heap.size + 1, 4, none⟩ = some (.slice d4 n4 e4) := R2.out.cel 4 _ rfl
  go_wp2_with fail
  have HC3 := eq_R_MethodInfoS m k2 t2 n2 nb w2 a2 d2 c2 e2 (by omega) hf2 (by have := HB2.out.size; omega) r2 (HS2.out.below HB2.out (fun c hc => by omega)) (HT2.out.below HB2.out (fun c hc => by omega))
  refine HC3.mono ?_
  clear HC3
  rintro e w3 ⟨rfl, b3⟩
  have HB3 := hide (HB2.out.trans (b3.mono HB2.out.size))
  have Q3 := hide (Q2.out.below b3)
  have R3 := hide (R2.out.below b3)
  clear b3
  have y33 : w3.cell? ⟨W.heap.size, 3, none⟩ = some (.slice a3 n3 c3) := Q3.out.cel 3 _ rfl
  have Y33 : w3.cell? ⟨W.heap.size + 1, 3, none⟩ = some (.slice d3 n3 e3) := R3.out.cel 3 _ rfl
  have y34 : w3.cell? ⟨W.heap.size, 4, none⟩ = some (.slice a4 n4 c4) := Q3.out.cel 4 _ rfl
  have Y34 : w3.cell? ⟨W.heap.size + 1, 4, none⟩ = some (.slice d4 n4 e4) := R3.out.cel 4 _ rfl
  go_wp2_with fail
  have HC4 := eq_R_ClassInfoS m k3 t3 n3 nb w3 a3 d3 c3 e3 (by omega) hf3 (by have := HB3.out.size; omega) r3 (HS3.out.below HB3.out (fun c hc => by omega)) (HT3.out.below HB3.out (fun c hc => by omega))
  refine HC4.mono ?_
  clear HC4
  rintro e w4 ⟨rfl, b4⟩
  have HB4 := hide (HB3.out.trans (b4.mono HB3.out.size))
  have Q4 := hide (Q3.out.below b4)
  have R4 := hide (R3.out.below b4)
  clear b4
  have y44 : w4.cell? ⟨W.heap.size, 4, none⟩ = some (.slice a4 n4 c4) := Q4.out.cel 4 _ rfl
  have Y44 : w4.cell? ⟨W.heap.size + 1, 4, none⟩ = some (.slice d4 n4 e4) := R4.out.cel 4 _ rfl
  go_wp2_with fail
  have HC5 := eq_R_InstInfoS m k4 t4 n4 nb w4 a4 d4 c4 e4 (by omega) hf4 (by have := HB4.out.size; omega) r4 (HS4.out.below HB4.out (fun c hc => by omega)) (HT4.out.below HB4.out (fun c hc => by omega))
  refine HC5.mono ?_
  clear HC5
  rintro e w5 ⟨rfl, b5⟩
  have HB5 := hide (HB4.out.trans (b5.mono HB4.out.size))
  have Q5 := hide (Q4.out.below b5)
  have R5 := hide (R4.out.below b5)
  clear b5
  go_wp2_with fail
  go_ret
  exact ⟨rfl, HB5.out⟩

end Go.Proofs.Ytcflciblcdabpaa
