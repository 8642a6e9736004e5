import Derived.Test.YtcflciblcdabpaaKa
import Derived.Test.YtcflciblcdabpaaKToConInfo
import Derived.Test.YtcflciblcdabpaaJE
import Derived.Test.YtcflciblcdabpaaKToMethodInfo
import Derived.Test.YtcflciblcdabpaaKToClassInfo
import Derived.Test.YtcflciblcdabpaaKToInstInfo
namespace Go.Proofs.Ytcflciblcdabpaa
open Go.RowKit Go.Joins

set_option maxHeartbeats 2000000 in
set_option maxRecDepth 100000 in
theorem to_C_Tables (m : Nat) : ToC Try.prog E 6 [.s 3, .s 4, .s 7, .s 1, .s 6] m := by
  intro F nb W hm hf hn h1 hs
  obtain ⟨a0, n0, c0, k0, F0, rfl, hf0, hf⟩ := fit_s hf
  obtain ⟨a1, n1, c1, k1, F1, rfl, hf1, hf⟩ := fit_s hf
  obtain ⟨a2, n2, c2, k2, F2, rfl, hf2, hf⟩ := fit_s hf
  obtain ⟨a3, n3, c3, k3, F3, rfl, hf3, hf⟩ := fit_s hf
  obtain ⟨a4, n4, c4, k4, F4, rfl, hf4, hf⟩ := fit_s hf
  obtain rfl := fit_nil hf
  obtain ⟨hs0, hs1, hs2, hs3, hs4, -⟩ := hs
  simp only [Fo.size] at hm
  simp only [Fo.wt] at h1
  simp only [Fo.vals]
  have HS0 : Hid (Fo.Sub W (fun c => c < nb) a0 n0 c0 k0) := hs0
  have HS1 : Hid (Fo.Sub W (fun c => c < nb) a1 n1 c1 k1) := hs1
  have HS2 : Hid (Fo.Sub W (fun c => c < nb) a2 n2 c2 k2) := hs2
  have HS3 : Hid (Fo.Sub W (fun c => c < nb) a3 n3 c3 k3) := hs3
  have HS4 : Hid (Fo.Sub W (fun c => c < nb) a4 n4 c4 k4) := hs4
  clear hs0 hs1 hs2 hs3 hs4
  obtain ⟨V0, hV0⟩ : ∃ V0, ((W.alloc (.cells #[.slice a0 n0 c0, .slice a1 n1 c1, .slice a2 n2 c2, .slice a3 n3 c3, .slice a4 n4 c4] 28)).alloc (.cells #[.slice none 0 0, .slice none 0 0, .slice none 0 0, .slice none 0 0, .slice none 0 0] 40)).alloc (.cells #[.slice none 0 0, .slice none 0 0, .slice none 0 0, .slice none 0 0, .slice none 0 0] 40) = V0 := ⟨_, rfl⟩
  have b0 : Below W.heap.size W V0 := by rw [← hV0]; exact below_alloc3 _ _ _ _
  have z0 : V0.heap.size = W.heap.size + 1 + 1 + 1 := by rw [← hV0]; simp
  have q1 : Bx V0 W.heap.size [.slice a0 n0 c0, .slice a1 n1 c1, .slice a2 n2 c2, .slice a3 n3 c3, .slice a4 n4 c4] := by
    rw [← hV0]
    exact (Bx.new _ _ _).kept ((Kept.alloc (fun _ => True) _ _).trans (Kept.alloc _ _ _)) trivial
  have q2 : Bx V0 (W.heap.size + 1) [.slice none 0 0, .slice none 0 0, .slice none 0 0, .slice none 0 0, .slice none 0 0] := by
    rw [← hV0]
    have := (Bx.new (W.alloc (.cells #[.slice a0 n0 c0, .slice a1 n1 c1, .slice a2 n2 c2, .slice a3 n3 c3, .slice a4 n4 c4] 28)) [.slice none 0 0, .slice none 0 0, .slice none 0 0, .slice none 0 0, .slice none 0 0] 40).kept (Kept.alloc (fun _ => True) _ (.cells #[.slice none 0 0, .slice none 0 0, .slice none 0 0, .slice none 0 0, .slice none 0 0] 40)) trivial
    rwa [World.size_alloc] at this
  have q3 : Bx V0 (W.heap.size + 1 + 1) [.slice none 0 0, .slice none 0 0, .slice none 0 0, .slice none 0 0, .slice none 0 0] := by
    rw [← hV0]
    have := Bx.new ((W.alloc (.cells #[.slice a0 n0 c0, .slice a1 n1 c1, .slice a2 n2 c2, .slice a3 n3 c3, .slice a4 n4 c4] 28)).alloc (.cells #[.slice none 0 0, .slice none 0 0, .slice none 0 0, .slice none 0 0, .slice none 0 0] 40)) [.slice none 0 0, .slice none 0 0, .slice none 0 0, .slice none 0 0, .slice none 0 0] 40
    rwa [World.size_alloc, World.size_alloc] at this
  have HV0 := hide hV0
  clear hV0
  have HB0 := hide b0
  have HZ0 := hide z0
  have HQ10 := hide q1
  have HQ20 := hide q2
  have HQ30 := hide q3
  clear b0 z0 q1 q2 q3
  go_enter Try.func6, Try.ntmps6
  go_wp2_with fail
  rw [HV0.out]
  clear HV0
  have HC1 := to_R_ConInfoS m k0 n0 nb V0 a0 c0 (by omega) hf0 (by have := HB0.out.size; omega) (by omega) (HS0.out.below HB0.out (fun c hc => by omega))
  refine HC1.mono ?_
  clear HC1
  rintro e w1 ⟨d0, g0, rfl, s0, b1, o0⟩
  have z1 := b1.size
  have Q1 := HQ10.out.below b1
  have Q2 := HQ20.out.below b1
  have Q3 := HQ30.out.below b1
  have HO1 := hide o0
  have HBe1 := hide b1
  obtain ⟨V1, hV1⟩ : ∃ V, (w1.setCell ⟨W.heap.size + 1 + 1, 0, none⟩ (.slice (some ⟨d0, 0, none⟩) n0 n0)) = V := ⟨_, rfl⟩
  have kV1 : Kept (fun c => c ≠ (W.heap.size + 1 + 1)) w1 V1 := by
    rw [← hV1]
    repeat first | (with_reducible refine Kept.set ?_ (by simp)) | with_reducible exact Kept.refl _ _
  have zV1 : V1.heap.size = w1.heap.size := by rw [← hV1]; simp [World.setCell]
  have Q3' : Bx V1 (W.heap.size + 1 + 1) [.slice (some ⟨d0, 0, none⟩) n0 n0, .slice none 0 0, .slice none 0 0, .slice none 0 0, .slice none 0 0] := by
    rw [← hV1]
    exact (Q3.put 0 (.slice (some ⟨d0, 0, none⟩) n0 n0) (by simp))
  have hz0 := HZ0.out
  have hbz := HB0.out.size
  have Hk1 := hide kV1
  have HV1 := hide hV1
  have Hz1 := hide (And.intro z1 zV1)
  have HB1 : Hid (Below W.heap.size W V1) := Below.kept (HB0.out.trans (b1.mono hbz)) kV1 (fun c hc => by show c ≠ _; omega) (Nat.le_refl _)
  have HQ11 := hide (Q1.kept kV1 (by show _ ≠ _; omega))
  have HQ21 := hide (Q2.kept kV1 (by show _ ≠ _; omega))
  have HQ31 := hide Q3'
  have y11 : w1.cell? ⟨W.heap.size, 1, none⟩ = some (.slice a1 n1 c1) := Q1.cel 1 _ rfl
  have Y11 : V1.cell? ⟨W.heap.size, 1, none⟩ = some (.slice a1 n1 c1) := HQ11.out.cel 1 _ rfl
  have y12 : w1.cell? ⟨W.heap.size, 2, none⟩ = some (.slice a2 n2 c2) := Q1.cel 2 _ rfl
  have Y12 : V1.cell? ⟨W.heap.size, 2, none⟩ = some (.slice a2 n2 c2) := HQ11.out.cel 2 _ rfl
  have y13 : w1.cell? ⟨W.heap.size, 3, none⟩ = some (.slice a3 n3 c3) := Q1.cel 3 _ rfl
  have Y13 : V1.cell? ⟨W.heap.size, 3, none⟩ = some (.slice a3 n3 c3) := HQ11.out.cel 3 _ rfl
  have y14 : w1.cell? ⟨W.heap.size, 4, none⟩ = some (.slice a4 n4 c4) := Q1.cel 4 _ rfl
  have Y14 : V1.cell? ⟨W.heap.size, 4, none⟩ = some (.slice a4 n4 c4) := HQ11.out.cel 4 _ rfl
  have l10 : w1.cell? ⟨W.heap.size + 1 + 1, 0, none⟩ = some (.slice none 0 0) := Q3.cel 0 _ rfl
  have f10 := Q3.live 0
  clear z1 Q1 Q2 Q3 Q3' o0 b1 kV1 zV1 hz0 hbz hV1
  go_wp2_with fail
  rw [HV1.out]
  clear HV1
  have HC2 := to_R_DataInfoS m k1 n1 nb V1 a1 c1 (by omega) hf1 (by have := HB1.out.size; omega) (by omega) (HS1.out.below HB1.out (fun c hc => by omega))
  refine HC2.mono ?_
  clear HC2
  rintro e w2 ⟨d1, g1, rfl, s1, b2, o1⟩
  have z2 := b2.size
  have Q1 := HQ11.out.below b2
  have Q2 := HQ21.out.below b2
  have Q3 := HQ31.out.below b2
  have HO2 := hide o1
  have HBe2 := hide b2
  obtain ⟨V2, hV2⟩ : ∃ V, (w2.setCell ⟨W.heap.size + 1 + 1, 1, none⟩ (.slice (some ⟨d1, 0, none⟩) n1 n1)) = V := ⟨_, rfl⟩
  have kV2 : Kept (fun c => c ≠ (W.heap.size + 1 + 1)) w2 V2 := by
    rw [← hV2]
    repeat first | (with_reducible refine Kept.set ?_ (by simp)) | with_reducible exact Kept.refl _ _
  have zV2 : V2.heap.size = w2.heap.size := by rw [← hV2]; simp [World.setCell]
  have Q3' : Bx V2 (W.heap.size + 1 + 1) [.slice (some ⟨d0, 0, none⟩) n0 n0, .slice (some ⟨d1, 0, none⟩) n1 n1, .slice none 0 0, .slice none 0 0, .slice none 0 0] := by
    rw [← hV2]
    exact (Q3.put 1 (.slice (some ⟨d1, 0, none⟩) n1 n1) (by simp))
  have hz0 := HZ0.out
  have hbz := HB1.out.size
  have Hk2 := hide kV2
  have HV2 := hide hV2
  have Hz2 := hide (And.intro z2 zV2)
  have HB2 : Hid (Below W.heap.size W V2) := Below.kept (HB1.out.trans (b2.mono hbz)) kV2 (fun c hc => by show c ≠ _; omega) (Nat.le_refl _)
  have HQ12 := hide (Q1.kept kV2 (by show _ ≠ _; omega))
  have HQ22 := hide (Q2.kept kV2 (by show _ ≠ _; omega))
  have HQ32 := hide Q3'
  have y22 : w2.cell? ⟨W.heap.size, 2, none⟩ = some (.slice a2 n2 c2) := Q1.cel 2 _ rfl
  have Y22 : V2.cell? ⟨W.heap.size, 2, none⟩ = some (.slice a2 n2 c2) := HQ12.out.cel 2 _ rfl
  have y23 : w2.cell? ⟨W.heap.size, 3, none⟩ = some (.slice a3 n3 c3) := Q1.cel 3 _ rfl
  have Y23 : V2.cell? ⟨W.heap.size, 3, none⟩ = some (.slice a3 n3 c3) := HQ12.out.cel 3 _ rfl
  have y24 : w2.cell? ⟨W.heap.size, 4, none⟩ = some (.slice a4 n4 c4) := Q1.cel 4 _ rfl
  have Y24 : V2.cell? ⟨W.heap.size, 4, none⟩ = some (.slice a4 n4 c4) := HQ12.out.cel 4 _ rfl
  have l21 : w2.cell? ⟨W.heap.size + 1 + 1, 1, none⟩ = some (.slice none 0 0) := Q3.cel 1 _ rfl
  have f21 := Q3.live 1
  clear z2 Q1 Q2 Q3 Q3' o1 b2 kV2 zV2 hz0 hbz hV2
  go_wp2_with fail
  rw [HV2.out]
  clear HV2
  have HC3 := to_R_MethodInfoS m k2 n2 nb V2 a2 c2 (by omega) hf2 (by have := HB2.out.size; omega) (by omega) (HS2.out.below HB2.out (fun c hc => by omega))
  refine HC3.mono ?_
  clear HC3
  rintro e w3 ⟨d2, g2, rfl, s2, b3, o2⟩
  have z3 := b3.size
  have Q1 := HQ12.out.below b3
  have Q2 := HQ22.out.below b3
  have Q3 := HQ32.out.below b3
  have HO3 := hide o2
  have HBe3 := hide b3
  obtain ⟨V3, hV3⟩ : ∃ V, (w3.setCell ⟨W.heap.size + 1 + 1, 2, none⟩ (.slice (some ⟨d2, 0, none⟩) n2 n2)) = V := ⟨_, rfl⟩
  have kV3 : Kept (fun c => c ≠ (W.heap.size + 1 + 1)) w3 V3 := by
    rw [← hV3]
    repeat first | (with_reducible refine Kept.set ?_ (by simp)) | with_reducible exact Kept.refl _ _
  have zV3 : V3.heap.size = w3.heap.size := by rw [← hV3]; simp [World.setCell]
  have Q3' : Bx V3 (W.heap.size + 1 + 1) [.slice (some ⟨d0, 0, none⟩) n0 n0, .slice (some ⟨d1, 0, none⟩) n1 n1, .slice (some ⟨d2, 0, none⟩) n2 n2, .slice none 0 0, .slice none 0 0] := by
    rw [← hV3]
    exact (Q3.put 2 (.slice (some ⟨d2, 0, none⟩) n2 n2) (by simp))
  have hz0 := HZ0.out
  have hbz := HB2.out.size
  have Hk3 := hide kV3
  have HV3 := hide hV3
  have Hz3 := hide (And.intro z3 zV3)
  have HB3 : Hid (Below W.heap.size W V3) := Below.kept (HB2.out.trans (b3.mono hbz)) kV3 (fun c hc => by show c ≠ _; omega) (Nat.le_refl _)
  have HQ13 := hide (Q1.kept kV3 (by show _ ≠ _; omega))
  have HQ23 := hide (Q2.kept kV3 (by show _ ≠ _; omega))
  have HQ33 := hide Q3'
  have y33 : w3.cell? ⟨W.heap.size, 3, none⟩ = some (.slice a3 n3 c3) := Q1.cel 3 _ rfl
  have Y33 : V3.cell? ⟨W.heap.size, 3, none⟩ = some (.slice a3 n3 c3) := HQ13.out.cel 3 _ rfl
  have y34 : w3.cell? ⟨W.heap.size, 4, none⟩ = some (.slice a4 n4 c4) := Q1.cel 4 _ rfl
  have Y34 : V3.cell? ⟨W.heap.size, 4, none⟩ = some (.slice a4 n4 c4) := HQ13.out.cel 4 _ rfl
  have l32 : w3.cell? ⟨W.heap.size + 1 + 1, 2, none⟩ = some (.slice none 0 0) := Q3.cel 2 _ rfl
  have f32 := Q3.live 2
  clear z3 Q1 Q2 Q3 Q3' o2 b3 kV3 zV3 hz0 hbz hV3
  go_wp2_with fail
  rw [HV3.out]
  clear HV3
  have HC4 := to_R_ClassInfoS m k3 n3 nb V3 a3 c3 (by omega) hf3 (by have := HB3.out.size; omega) (by omega) (HS3.out.below HB3.out (fun c hc => by omega))
  refine HC4.mono ?_
  clear HC4
  rintro e w4 ⟨d3, g3, rfl, s3, b4, o3⟩
  have z4 := b4.size
  have Q1 := HQ13.out.below b4
  have Q2 := HQ23.out.below b4
  have Q3 := HQ33.out.below b4
  have HO4 := hide o3
  have HBe4 := hide b4
  obtain ⟨V4, hV4⟩ : ∃ V, (w4.setCell ⟨W.heap.size + 1 + 1, 3, none⟩ (.slice (some ⟨d3, 0, none⟩) n3 n3)) = V := ⟨_, rfl⟩
  have kV4 : Kept (fun c => c ≠ (W.heap.size + 1 + 1)) w4 V4 := by
    rw [← hV4]
    repeat first | (with_reducible refine Kept.set ?_ (by simp)) | with_reducible exact Kept.refl _ _
  have zV4 : V4.heap.size = w4.heap.size := by rw [← hV4]; simp [World.setCell]
  have Q3' : Bx V4 (W.heap.size + 1 + 1) [.slice (some ⟨d0, 0, none⟩) n0 n0, .slice (some ⟨d1, 0, none⟩) n1 n1, .slice (some ⟨d2, 0, none⟩) n2 n2, .slice (some ⟨d3, 0, none⟩) n3 n3, .slice none 0 0] := by
    rw [← hV4]
    exact (Q3.put 3 (.slice (some ⟨d3, 0, none⟩) n3 n3) (by simp))
  have hz0 := HZ0.out
  have hbz := HB3.out.size
  have Hk4 := hide kV4
  have HV4 := hide hV4
  have Hz4 := hide (And.intro z4 zV4)
  have HB4 : Hid (Below W.heap.size W V4) := Below.kept (HB3.out.trans (b4.mono hbz)) kV4 (fun c hc => by show c ≠ _; omega) (Nat.le_refl _)
  have HQ14 := hide (Q1.kept kV4 (by show _ ≠ _; omega))
  have HQ24 := hide (Q2.kept kV4 (by show _ ≠ _; omega))
  have HQ34 := hide Q3'
  have y44 : w4.cell? ⟨W.heap.size, 4, none⟩ = some (.slice a4 n4 c4) := Q1.cel 4 _ rfl
  have Y44 : V4.cell? ⟨W.heap.size, 4, none⟩ = some (.slice a4 n4 c4) := HQ14.out.cel 4 _ rfl
  have l43 : w4.cell? ⟨W.heap.size + 1 + 1, 3, none⟩ = some (.slice none 0 0) := Q3.cel 3 _ rfl
  have f43 := Q3.live 3
  clear z4 Q1 Q2 Q3 Q3' o3 b4 kV4 zV4 hz0 hbz hV4
  go_wp2_with fail
  rw [HV4.out]
  clear HV4
  have HC5 := to_R_InstInfoS m k4 n4 nb V4 a4 c4 (by omega) hf4 (by have := HB4.out.size; omega) (by omega) (HS4.out.below HB4.out (fun c hc => by omega))
  refine HC5.mono ?_
  clear HC5
  rintro e w5 ⟨d4, g4, rfl, s4, b5, o4⟩
  have z5 := b5.size
  have Q1 := HQ14.out.below b5
  have Q2 := HQ24.out.below b5
  have Q3 := HQ34.out.below b5
  have HO5 := hide o4
  have HBe5 := hide b5
  have l50 : w5.cell? ⟨W.heap.size + 1 + 1, 0, none⟩ = some (.slice (some ⟨d0, 0, none⟩) n0 n0) := Q3.cel 0 _ rfl
  have f50 := Q3.live 0
  have m50 : w5.cell? ⟨W.heap.size + 1, 0, none⟩ = some (.slice none 0 0) := Q2.cel 0 _ rfl
  have v50 := Q2.live 0
  have l51 : w5.cell? ⟨W.heap.size + 1 + 1, 1, none⟩ = some (.slice (some ⟨d1, 0, none⟩) n1 n1) := Q3.cel 1 _ rfl
  have f51 := Q3.live 1
  have m51 : w5.cell? ⟨W.heap.size + 1, 1, none⟩ = some (.slice none 0 0) := Q2.cel 1 _ rfl
  have v51 := Q2.live 1
  have l52 : w5.cell? ⟨W.heap.size + 1 + 1, 2, none⟩ = some (.slice (some ⟨d2, 0, none⟩) n2 n2) := Q3.cel 2 _ rfl
  have f52 := Q3.live 2
  have m52 : w5.cell? ⟨W.heap.size + 1, 2, none⟩ = some (.slice none 0 0) := Q2.cel 2 _ rfl
  have v52 := Q2.live 2
  have l53 : w5.cell? ⟨W.heap.size + 1 + 1, 3, none⟩ = some (.slice (some ⟨d3, 0, none⟩) n3 n3) := Q3.cel 3 _ rfl
  have f53 := Q3.live 3
  have m53 : w5.cell? ⟨W.heap.size + 1, 3, none⟩ = some (.slice none 0 0) := Q2.cel 3 _ rfl
  have v53 := Q2.live 3
  have l54 : w5.cell? ⟨W.heap.size + 1 + 1, 4, none⟩ = some (.slice none 0 0) := Q3.cel 4 _ rfl
  have f54 := Q3.live 4
  have m54 : w5.cell? ⟨W.heap.size + 1, 4, none⟩ = some (.slice none 0 0) := Q2.cel 4 _ rfl
  have v54 := Q2.live 4
  have Hz5 := hide z5
  clear z5 Q1 Q2 Q3 o4 b5
  go_wp2_with fail
  have hz0 := HZ0.out
  refine bodyPost_ret (v := .agg #[.slice (some ⟨d0, 0, none⟩) n0 n0, .slice (some ⟨d1, 0, none⟩) n1 n1, .slice (some ⟨d2, 0, none⟩) n2 n2, .slice (some ⟨d3, 0, none⟩) n3 n3, .slice (some ⟨d4, 0, none⟩) n4 n4]) (by simp [results, Try.results6, go_sem, m50, m51, m52, m53, m54]) rfl ⟨(.s (some ⟨d0, 0, none⟩) n0 n0 g0 (.s (some ⟨d1, 0, none⟩) n1 n1 g1 (.s (some ⟨d2, 0, none⟩) n2 n2 g2 (.s (some ⟨d3, 0, none⟩) n3 n3 g3 (.s (some ⟨d4, 0, none⟩) n4 n4 g4 .nil))))), rfl, ⟨rfl, s0, rfl, s1, rfl, s2, rfl, s3, rfl, s4, trivial⟩, ?_⟩
  refine (fun (V : World) (kV : Kept (fun c => c ≠ W.heap.size + 1 ∧ c ≠ W.heap.size + 1 + 1) w5 V) => (?_ : Below W.heap.size W V ∧ Own W.heap.size V (.s (some ⟨d0, 0, none⟩) n0 n0 g0 (.s (some ⟨d1, 0, none⟩) n1 n1 g1 (.s (some ⟨d2, 0, none⟩) n2 n2 g2 (.s (some ⟨d3, 0, none⟩) n3 n3 g3 (.s (some ⟨d4, 0, none⟩) n4 n4 g4 .nil))))))) _ ?_
  · have hbz := HB4.out.size
    have hzl := Hz5.out
    have Bl := HB4.out.trans (HBe5.out.mono hbz)
    refine ⟨Below.kept Bl kV (fun c hc => by omega) (Nat.le_refl _), ?_⟩
    have R5 : Own V4.heap.size w5 (.s (some ⟨d4, 0, none⟩) n4 n4 g4 .nil) := HO5.out
    have hs4z := Hz4.out
    have P4 : Own V3.heap.size V4 (.s (some ⟨d3, 0, none⟩) n3 n3 g3 .nil) := HO4.out.kept Hk4.out (fun c hc _ => by show c ≠ _; have := HB3.out.size; have := HZ0.out; have := Hz1.out; have := Hz2.out; have := Hz3.out; have := HBe1.out.size; have := HBe2.out.size; have := HBe3.out.size; have := HBe4.out.size; omega)
    have K4 : Kept (fun c => c ≠ (W.heap.size + 1 + 1)) V4 w5 := kt HBe5.out
    have R4 : Own V3.heap.size w5 (.s (some ⟨d3, 0, none⟩) n3 n3 g3 (.s (some ⟨d4, 0, none⟩) n4 n4 g4 .nil)) := P4.appk K4 (fun c hc _ => by show c ≠ _; have := HZ0.out; have := Hz1.out; have := Hz2.out; have := Hz3.out; have := Hz4.out; have := HBe1.out.size; have := HBe2.out.size; have := HBe3.out.size; have := HBe4.out.size; omega) (by have := HZ0.out; have := Hz1.out; have := Hz2.out; have := Hz3.out; have := Hz4.out; have := HBe1.out.size; have := HBe2.out.size; have := HBe3.out.size; have := HBe4.out.size; omega) R5
    have hs3z := Hz3.out
    have P3 : Own V2.heap.size V3 (.s (some ⟨d2, 0, none⟩) n2 n2 g2 .nil) := HO3.out.kept Hk3.out (fun c hc _ => by show c ≠ _; have := HB2.out.size; have := HZ0.out; have := Hz1.out; have := Hz2.out; have := HBe1.out.size; have := HBe2.out.size; have := HBe3.out.size; omega)
    have K3 : Kept (fun c => c ≠ (W.heap.size + 1 + 1)) V3 w5 := ((kt HBe4.out).trans Hk4.out).trans (kt HBe5.out)
    have R3 : Own V2.heap.size w5 (.s (some ⟨d2, 0, none⟩) n2 n2 g2 (.s (some ⟨d3, 0, none⟩) n3 n3 g3 (.s (some ⟨d4, 0, none⟩) n4 n4 g4 .nil))) := P3.appk K3 (fun c hc _ => by show c ≠ _; have := HZ0.out; have := Hz1.out; have := Hz2.out; have := Hz3.out; have := HBe1.out.size; have := HBe2.out.size; have := HBe3.out.size; omega) (by have := HZ0.out; have := Hz1.out; have := Hz2.out; have := Hz3.out; have := HBe1.out.size; have := HBe2.out.size; have := HBe3.out.size; omega) R4
    have hs2z := Hz2.out
    have P2 : Own V1.heap.size V2 (.s (some ⟨d1, 0, none⟩) n1 n1 g1 .nil) := HO2.out.kept Hk2.out (fun c hc _ => by show c ≠ _; have := HB1.out.size; have := HZ0.out; have := Hz1.out; have := HBe1.out.size; have := HBe2.out.size; omega)
    have K2 : Kept (fun c => c ≠ (W.heap.size + 1 + 1)) V2 w5 := ((((kt HBe3.out).trans Hk3.out).trans (kt HBe4.out)).trans Hk4.out).trans (kt HBe5.out)
    have R2 : Own V1.heap.size w5 (.s (some ⟨d1, 0, none⟩) n1 n1 g1 (.s (some ⟨d2, 0, none⟩) n2 n2 g2 (.s (some ⟨d3, 0, none⟩) n3 n3 g3 (.s (some ⟨d4, 0, none⟩) n4 n4 g4 .nil)))) := P2.appk K2 (fun c hc _ => by show c ≠ _; have := HZ0.out; have := Hz1.out; have := Hz2.out; have := HBe1.out.size; have := HBe2.out.size; omega) (by have := HZ0.out; have := Hz1.out; have := Hz2.out; have := HBe1.out.size; have := HBe2.out.size; omega) R3
    have hs1z := Hz1.out
    have P1 : Own V0.heap.size V1 (.s (some ⟨d0, 0, none⟩) n0 n0 g0 .nil) := HO1.out.kept Hk1.out (fun c hc _ => by show c ≠ _; have := HB0.out.size; have := HZ0.out;  have := HBe1.out.size; omega)
    have K1 : Kept (fun c => c ≠ (W.heap.size + 1 + 1)) V1 w5 := ((((((kt HBe2.out).trans Hk2.out).trans (kt HBe3.out)).trans Hk3.out).trans (kt HBe4.out)).trans Hk4.out).trans (kt HBe5.out)
    have R1 : Own V0.heap.size w5 (.s (some ⟨d0, 0, none⟩) n0 n0 g0 (.s (some ⟨d1, 0, none⟩) n1 n1 g1 (.s (some ⟨d2, 0, none⟩) n2 n2 g2 (.s (some ⟨d3, 0, none⟩) n3 n3 g3 (.s (some ⟨d4, 0, none⟩) n4 n4 g4 .nil))))) := P1.appk K1 (fun c hc _ => by show c ≠ _; have := HZ0.out; have := Hz1.out; have := HBe1.out.size; omega) (by have := HZ0.out; have := Hz1.out; have := HBe1.out.size; omega) R2
    exact Own.mono (show Own V0.heap.size V (.s (some ⟨d0, 0, none⟩) n0 n0 g0 (.s (some ⟨d1, 0, none⟩) n1 n1 g1 (.s (some ⟨d2, 0, none⟩) n2 n2 g2 (.s (some ⟨d3, 0, none⟩) n3 n3 g3 (.s (some ⟨d4, 0, none⟩) n4 n4 g4 .nil))))) from R1.kept kV (fun c hc _ => by omega)) (by omega)
  · repeat first | (with_reducible refine Kept.set ?_ (by simp)) | with_reducible exact Kept.refl _ _

end Go.Proofs.Ytcflciblcdabpaa
