import Derived.Test.YtcflciblcdabpaaKa
import Derived.Test.YtcflciblcdabpaaKToPred
import Derived.Test.YtcflciblcdabpaaKToType
namespace Go.Proofs.Ytcflciblcdabpaa
open Go.RowKit Go.Joins

set_option maxHeartbeats 2000000 in
set_option maxRecDepth 100000 in
theorem to_C_Scheme (m : Nat) : ToC Try.prog E 68 [.i, .s 5, .i, .i, .t, .s 2] m := by
  intro F nb W hm hf hn h1 hs
  obtain ⟨x0, F0, rfl, hx0, hf⟩ := fit_i hf
  obtain ⟨a1, n1, c1, k1, F1, rfl, hf1, hf⟩ := fit_s hf
  obtain ⟨x2, F2, rfl, hx2, hf⟩ := fit_i hf
  obtain ⟨x3, F3, rfl, hx3, hf⟩ := fit_i hf
  obtain ⟨x4, F4, rfl, hx4, hf⟩ := fit_t hf
  obtain ⟨a5, n5, c5, k5, F5, rfl, hf5, hf⟩ := fit_s hf
  obtain rfl := fit_nil hf
  obtain ⟨hs1, hs5, -⟩ := hs
  simp only [Fo.size] at hm
  simp only [Fo.wt, textSize] at h1
  simp only [Fo.vals]
  have HS1 : Hid (Fo.Sub W (fun c => c < nb) a1 n1 c1 k1) := hs1
  have HS5 : Hid (Fo.Sub W (fun c => c < nb) a5 n5 c5 k5) := hs5
  clear hs1 hs5
  obtain ⟨V0, hV0⟩ : ∃ V0, ((W.alloc (.cells #[.int .i64 x0, .slice a1 n1 c1, .int .i64 x2, .int .i64 x3, .string x4, .slice a5 n5 c5] 89)).alloc (.cells #[.int .i64 0, .slice none 0 0, .int .i64 0, .int .i64 0, .string ⟨#[]⟩, .slice none 0 0] 103)).alloc (.cells #[.int .i64 x0, .slice none 0 0, .int .i64 0, .int .i64 0, .string ⟨#[]⟩, .slice none 0 0] 103) = V0 := ⟨_, rfl⟩
  have b0 : Below W.heap.size W V0 := by rw [← hV0]; exact below_alloc3 _ _ _ _
  have z0 : V0.heap.size = W.heap.size + 1 + 1 + 1 := by rw [← hV0]; simp
  have q1 : Bx V0 W.heap.size [.int .i64 x0, .slice a1 n1 c1, .int .i64 x2, .int .i64 x3, .string x4, .slice a5 n5 c5] := by
    rw [← hV0]
    exact (Bx.new _ _ _).kept ((Kept.alloc (fun _ => True) _ _).trans (Kept.alloc _ _ _)) trivial
  have q2 : Bx V0 (W.heap.size + 1) [.int .i64 0, .slice none 0 0, .int .i64 0, .int .i64 0, .string ⟨#[]⟩, .slice none 0 0] := by
    rw [← hV0]
    have := (Bx.new (W.alloc (.cells #[.int .i64 x0, .slice a1 n1 c1, .int .i64 x2, .int .i64 x3, .string x4, .slice a5 n5 c5] 89)) [.int .i64 0, .slice none 0 0, .int .i64 0, .int .i64 0, .string ⟨#[]⟩, .slice none 0 0] 103).kept (Kept.alloc (fun _ => True) _ (.cells #[.int .i64 x0, .slice none 0 0, .int .i64 0, .int .i64 0, .string ⟨#[]⟩, .slice none 0 0] 103)) trivial
    rwa [World.size_alloc] at this
  have q3 : Bx V0 (W.heap.size + 1 + 1) [.int .i64 x0, .slice none 0 0, .int .i64 0, .int .i64 0, .string ⟨#[]⟩, .slice none 0 0] := by
    rw [← hV0]
    have := Bx.new ((W.alloc (.cells #[.int .i64 x0, .slice a1 n1 c1, .int .i64 x2, .int .i64 x3, .string x4, .slice a5 n5 c5] 89)).alloc (.cells #[.int .i64 0, .slice none 0 0, .int .i64 0, .int .i64 0, .string ⟨#[]⟩, .slice none 0 0] 103)) [.int .i64 x0, .slice none 0 0, .int .i64 0, .int .i64 0, .string ⟨#[]⟩, .slice none 0 0] 103
    rwa [World.size_alloc, World.size_alloc] at this
  have HV0 := hide hV0
  clear hV0
  have HB0 := hide b0
  have HZ0 := hide z0
  have HQ10 := hide q1
  have HQ20 := hide q2
  have HQ30 := hide q3
  clear b0 z0 q1 q2 q3
  go_enter Try.func68, Try.ntmps68
  go_wp2_with fail
  rw [HV0.out]
  clear HV0
  have HC1 := to_R_PredS m k1 n1 nb V0 a1 c1 (by omega) hf1 (by have := HB0.out.size; omega) (by omega) (HS1.out.below HB0.out (fun c hc => by omega))
  refine HC1.mono ?_
  clear HC1
  rintro e w1 ⟨d1, g1, rfl, s1, b1, o1⟩
  have z1 := b1.size
  have Q1 := HQ10.out.below b1
  have Q2 := HQ20.out.below b1
  have Q3 := HQ30.out.below b1
  have HO1 := hide o1
  have HBe1 := hide b1
  obtain ⟨V1, hV1⟩ : ∃ V, (w1.setCell ⟨W.heap.size + 1 + 1, 1, none⟩ (.slice (some ⟨d1, 0, none⟩) n1 n1)) = V := ⟨_, rfl⟩
  have kV1 : Kept (fun c => c ≠ (W.heap.size + 1 + 1)) w1 V1 := by
    rw [← hV1]
    repeat first | (with_reducible refine Kept.set ?_ (by simp)) | with_reducible exact Kept.refl _ _
  have zV1 : V1.heap.size = w1.heap.size := by rw [← hV1]; simp [World.setCell]
  have Q3' : Bx V1 (W.heap.size + 1 + 1) [.int .i64 x0, .slice (some ⟨d1, 0, none⟩) n1 n1, .int .i64 0, .int .i64 0, .string ⟨#[]⟩, .slice none 0 0] := by
    rw [← hV1]
    exact (Q3.put 1 (.slice (some ⟨d1, 0, none⟩) n1 n1) (by simp))
  have hz0 := HZ0.out
  have hbz := HB0.out.size
  have Hk1 := hide kV1
  have HV1 := hide hV1
  have Hz1 := hide (And.intro z1 zV1)
  have HB1 : Hid (Below W.heap.size W V1) := Below.kept (HB0.out.trans (b1.mono hbz)) kV1 (fun c hc => by show c ≠ _; omega) (Nat.le_refl _)
  have HQ11 := hide (Q1.kept kV1 (by show _ ≠ _; omega))
  have HQ21 := hide (Q2.kept kV1 (by show _ ≠ _; omega))
  have HQ31 := hide Q3'
  have y12 : w1.cell? ⟨W.heap.size, 2, none⟩ = some (.int .i64 x2) := Q1.cel 2 _ rfl
  have Y12 : V1.cell? ⟨W.heap.size, 2, none⟩ = some (.int .i64 x2) := HQ11.out.cel 2 _ rfl
  have y13 : w1.cell? ⟨W.heap.size, 3, none⟩ = some (.int .i64 x3) := Q1.cel 3 _ rfl
  have Y13 : V1.cell? ⟨W.heap.size, 3, none⟩ = some (.int .i64 x3) := HQ11.out.cel 3 _ rfl
  have y14 : w1.cell? ⟨W.heap.size, 4, none⟩ = some (.string x4) := Q1.cel 4 _ rfl
  have Y14 : V1.cell? ⟨W.heap.size, 4, none⟩ = some (.string x4) := HQ11.out.cel 4 _ rfl
  have y15 : w1.cell? ⟨W.heap.size, 5, none⟩ = some (.slice a5 n5 c5) := Q1.cel 5 _ rfl
  have Y15 : V1.cell? ⟨W.heap.size, 5, none⟩ = some (.slice a5 n5 c5) := HQ11.out.cel 5 _ rfl
  have l11 : w1.cell? ⟨W.heap.size + 1 + 1, 1, none⟩ = some (.slice none 0 0) := Q3.cel 1 _ rfl
  have f11 := Q3.live 1
  clear z1 Q1 Q2 Q3 Q3' o1 b1 kV1 zV1 hz0 hbz hV1
  go_wp2_with fail
  rw [HV1.out]
  clear HV1
  have HC2 := to_C_Type_all m (.v (.int .i64 x2) (.v (.int .i64 x3) (.v (.string x4) (.s a5 n5 c5 k5 .nil)))) nb V1 (by simp only [Fo.size]; omega) ⟨hx2, hx3, hx4, hf5, trivial⟩ (by have := HB1.out.size; omega) (by simp only [Fo.wt, textSize]; omega) ⟨(HS5.out.below HB1.out (fun c hc => by omega)), trivial⟩
  simp only [Fo.vals] at HC2
  refine HC2.mono ?_
  clear HC2
  rintro e w2 ⟨g2, rfl, s2, b2, o2⟩
  obtain ⟨u2, rfl, s2_1⟩ := Fo.sim_v s2
  obtain ⟨u3, rfl, s2_2⟩ := Fo.sim_v s2_1
  obtain ⟨u4, rfl, s2_3⟩ := Fo.sim_v s2_2
  obtain ⟨d5, e5, t5, u5, rfl, r5, s2_4⟩ := Fo.sim_s s2_3
  obtain rfl := Fo.sim_nil s2_4
  simp only [Fo.vals]
  have z2 := b2.size
  have Q1 := HQ11.out.below b2
  have Q2 := HQ21.out.below b2
  have Q3 := HQ31.out.below b2
  have HO2 := hide o2
  have HBe2 := hide b2
  have l20 : w2.cell? ⟨W.heap.size + 1 + 1, 0, none⟩ = some (.int .i64 x0) := Q3.cel 0 _ rfl
  have f20 := Q3.live 0
  have m20 : w2.cell? ⟨W.heap.size + 1, 0, none⟩ = some (.int .i64 0) := Q2.cel 0 _ rfl
  have v20 := Q2.live 0
  have l21 : w2.cell? ⟨W.heap.size + 1 + 1, 1, none⟩ = some (.slice (some ⟨d1, 0, none⟩) n1 n1) := Q3.cel 1 _ rfl
  have f21 := Q3.live 1
  have m21 : w2.cell? ⟨W.heap.size + 1, 1, none⟩ = some (.slice none 0 0) := Q2.cel 1 _ rfl
  have v21 := Q2.live 1
  have l22 : w2.cell? ⟨W.heap.size + 1 + 1, 2, none⟩ = some (.int .i64 0) := Q3.cel 2 _ rfl
  have f22 := Q3.live 2
  have m22 : w2.cell? ⟨W.heap.size + 1, 2, none⟩ = some (.int .i64 0) := Q2.cel 2 _ rfl
  have v22 := Q2.live 2
  have l23 : w2.cell? ⟨W.heap.size + 1 + 1, 3, none⟩ = some (.int .i64 0) := Q3.cel 3 _ rfl
  have f23 := Q3.live 3
  have m23 : w2.cell? ⟨W.heap.size + 1, 3, none⟩ = some (.int .i64 0) := Q2.cel 3 _ rfl
  have v23 := Q2.live 3
  have l24 : w2.cell? ⟨W.heap.size + 1 + 1, 4, none⟩ = some (.string ⟨#[]⟩) := Q3.cel 4 _ rfl
  have f24 := Q3.live 4
  have m24 : w2.cell? ⟨W.heap.size + 1, 4, none⟩ = some (.string ⟨#[]⟩) := Q2.cel 4 _ rfl
  have v24 := Q2.live 4
  have l25 : w2.cell? ⟨W.heap.size + 1 + 1, 5, none⟩ = some (.slice none 0 0) := Q3.cel 5 _ rfl
  have f25 := Q3.live 5
  have m25 : w2.cell? ⟨W.heap.size + 1, 5, none⟩ = some (.slice none 0 0) := Q2.cel 5 _ rfl
  have v25 := Q2.live 5
  have Hz2 := hide z2
  clear z2 Q1 Q2 Q3 o2 b2
  go_wp2_with fail
  have hz0 := HZ0.out
  refine bodyPost_ret (v := .agg #[.int .i64 x0, .slice (some ⟨d1, 0, none⟩) n1 n1, .int .i64 x2, .int .i64 x3, .string x4, .slice d5 n5 e5]) (by simp [results, Try.results68, go_sem, m20, m21, m22, m23, m24, m25]) rfl ⟨(.v (.int .i64 x0) (.s (some ⟨d1, 0, none⟩) n1 n1 g1 (.v (.int .i64 x2) (.v (.int .i64 x3) (.v (.string x4) (.s d5 n5 e5 t5 .nil)))))), rfl, ⟨rfl, rfl, s1, rfl, rfl, rfl, rfl, r5, trivial⟩, ?_⟩
  refine (fun (V : World) (kV : Kept (fun c => c ≠ W.heap.size + 1 ∧ c ≠ W.heap.size + 1 + 1) w2 V) => (?_ : Below W.heap.size W V ∧ Own W.heap.size V (.v (.int .i64 x0) (.s (some ⟨d1, 0, none⟩) n1 n1 g1 (.v (.int .i64 x2) (.v (.int .i64 x3) (.v (.string x4) (.s d5 n5 e5 t5 .nil)))))))) _ ?_
  · have hbz := HB1.out.size
    have hzl := Hz2.out
    have Bl := HB1.out.trans (HBe2.out.mono hbz)
    refine ⟨Below.kept Bl kV (fun c hc => by omega) (Nat.le_refl _), ?_⟩
    have R2 : Own V1.heap.size w2 (.v (.int .i64 x2) (.v (.int .i64 x3) (.v (.string x4) (.s d5 n5 e5 t5 .nil)))) := HO2.out
    have hs1z := Hz1.out
    have P1 : Own V0.heap.size V1 (.s (some ⟨d1, 0, none⟩) n1 n1 g1 .nil) := HO1.out.kept Hk1.out (fun c hc _ => by show c ≠ _; have := HB0.out.size; have := HZ0.out;  have := HBe1.out.size; omega)
    have K1 : Kept (fun c => c ≠ (W.heap.size + 1 + 1)) V1 w2 := kt HBe2.out
    have R1 : Own V0.heap.size w2 (.s (some ⟨d1, 0, none⟩) n1 n1 g1 (.v (.int .i64 x2) (.v (.int .i64 x3) (.v (.string x4) (.s d5 n5 e5 t5 .nil))))) := P1.appk K1 (fun c hc _ => by show c ≠ _; have := HZ0.out; have := Hz1.out; have := HBe1.out.size; omega) (by have := HZ0.out; have := Hz1.out; have := HBe1.out.size; omega) R2
    exact Own.mono (show Own V0.heap.size V (.v (.int .i64 x0) (.s (some ⟨d1, 0, none⟩) n1 n1 g1 (.v (.int .i64 x2) (.v (.int .i64 x3) (.v (.string x4) (.s d5 n5 e5 t5 .nil)))))) from (R1.kept kV (fun c hc _ => by omega)).v _) (by omega)
  · repeat first | (with_reducible refine Kept.set ?_ (by simp)) | with_reducible exact Kept.refl _ _

end Go.Proofs.Ytcflciblcdabpaa
