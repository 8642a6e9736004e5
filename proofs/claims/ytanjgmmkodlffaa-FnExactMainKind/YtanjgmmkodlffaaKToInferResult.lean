import Derived.Test.YtanjgmmkodlffaaKa
import Derived.Test.YtanjgmmkodlffaaKToTyped
import Derived.Test.YtanjgmmkodlffaaKToNode
namespace Go.Proofs.Ytanjgmmkodlffaa.U
open Go.RowKit Go.Joins

set_option maxHeartbeats 2000000 in
set_option maxRecDepth 100000 in
theorem to_C_InferResult (m : Nat) : ToC Try.prog E 13 [.i, .t, .s 2, .s 3] m := by
  intro F nb W hm hf hn h1 hs
  obtain ⟨x0, F0, rfl, hx0, hf⟩ := fit_i hf
  obtain ⟨x1, F1, rfl, hx1, hf⟩ := fit_t hf
  obtain ⟨a2, n2, c2, k2, F2, rfl, hf2, hf⟩ := fit_s hf
  obtain ⟨a3, n3, c3, k3, F3, rfl, hf3, hf⟩ := fit_s hf
  obtain rfl := fit_nil hf
  obtain ⟨hs2, hs3, -⟩ := hs
  simp only [Fo.size] at hm
  simp only [Fo.wt, textSize] at h1
  simp only [Fo.vals]
  have HS2 : Hid (Fo.Sub W (fun c => c < nb) a2 n2 c2 k2) := hs2
  have HS3 : Hid (Fo.Sub W (fun c => c < nb) a3 n3 c3 k3) := hs3
  clear hs2 hs3
  obtain ⟨V0, hV0⟩ : ∃ V0, ((W.alloc (.cells #[.int .i64 x0, .string x1, .slice a2 n2 c2, .slice a3 n3 c3] 35)).alloc (.cells #[.int .i64 0, .string ⟨#[]⟩, .slice none 0 0, .slice none 0 0] 41)).alloc (.cells #[.int .i64 x0, .string x1, .slice none 0 0, .slice none 0 0] 41) = V0 := ⟨_, rfl⟩
  have b0 : Below W.heap.size W V0 := by rw [← hV0]; exact below_alloc3 _ _ _ _
  have z0 : V0.heap.size = W.heap.size + 1 + 1 + 1 := by rw [← hV0]; simp
  have q1 : Bx V0 W.heap.size [.int .i64 x0, .string x1, .slice a2 n2 c2, .slice a3 n3 c3] := by
    rw [← hV0]
    exact (Bx.new _ _ _).kept ((Kept.alloc (fun _ => True) _ _).trans (Kept.alloc _ _ _)) trivial
  have q2 : Bx V0 (W.heap.size + 1) [.int .i64 0, .string ⟨#[]⟩, .slice none 0 0, .slice none 0 0] := by
    rw [← hV0]
    have := (Bx.new (W.alloc (.cells #[.int .i64 x0, .string x1, .slice a2 n2 c2, .slice a3 n3 c3] 35)) [.int .i64 0, .string ⟨#[]⟩, .slice none 0 0, .slice none 0 0] 41).kept (Kept.alloc (fun _ => True) _ (.cells #[.int .i64 x0, .string x1, .slice none 0 0, .slice none 0 0] 41)) trivial
    rwa [World.size_alloc] at this
  have q3 : Bx V0 (W.heap.size + 1 + 1) [.int .i64 x0, .string x1, .slice none 0 0, .slice none 0 0] := by
    rw [← hV0]
    have := Bx.new ((W.alloc (.cells #[.int .i64 x0, .string x1, .slice a2 n2 c2, .slice a3 n3 c3] 35)).alloc (.cells #[.int .i64 0, .string ⟨#[]⟩, .slice none 0 0, .slice none 0 0] 41)) [.int .i64 x0, .string x1, .slice none 0 0, .slice none 0 0] 41
    rwa [World.size_alloc, World.size_alloc] at this
  have HV0 := hide hV0
  clear hV0
  have HB0 := hide b0
  have HZ0 := hide z0
  have HQ10 := hide q1
  have HQ20 := hide q2
  have HQ30 := hide q3
  clear b0 z0 q1 q2 q3
  go_enter Try.func13, Try.ntmps13
  go_wp2_with fail
  rw [HV0.out]
  clear HV0
  have HC1 := to_R_TypedS m k2 n2 nb V0 a2 c2 (by omega) hf2 (by have := HB0.out.size; omega) (by omega) (HS2.out.below HB0.out (fun c hc => by omega))
  refine HC1.mono ?_
  clear HC1
  rintro e w1 ⟨d2, g2, rfl, s2, b1, o2⟩
  have z1 := b1.size
  have Q1 := HQ10.out.below b1
  have Q2 := HQ20.out.below b1
  have Q3 := HQ30.out.below b1
  have HO1 := hide o2
  have HBe1 := hide b1
  obtain ⟨V1, hV1⟩ : ∃ V, (w1.setCell ⟨W.heap.size + 1 + 1, 2, none⟩ (.slice (some ⟨d2, 0, none⟩) n2 n2)) = V := ⟨_, rfl⟩
  have kV1 : Kept (fun c => c ≠ (W.heap.size + 1 + 1)) w1 V1 := by
    rw [← hV1]
    repeat first | (with_reducible refine Kept.set ?_ (by simp)) | with_reducible exact Kept.refl _ _
  have zV1 : V1.heap.size = w1.heap.size := by rw [← hV1]; simp [World.setCell]
  have Q3' : Bx V1 (W.heap.size + 1 + 1) [.int .i64 x0, .string x1, .slice (some ⟨d2, 0, none⟩) n2 n2, .slice none 0 0] := by
    rw [← hV1]
    exact (Q3.put 2 (.slice (some ⟨d2, 0, none⟩) n2 n2) (by simp))
  have hz0 := HZ0.out
  have hbz := HB0.out.size
  have Hk1 := hide kV1
  have HV1 := hide hV1
  have Hz1 := hide (And.intro z1 zV1)
  have HB1 : Hid (Below W.heap.size W V1) := Below.kept (HB0.out.trans (b1.mono hbz)) kV1 (fun c hc => by show c ≠ _; omega) (Nat.le_refl _)
  have HQ11 := hide (Q1.kept kV1 (by show _ ≠ _; omega))
  have HQ21 := hide (Q2.kept kV1 (by show _ ≠ _; omega))
  have HQ31 := hide Q3'
  have y13 : w1.cell? ⟨W.heap.size, 3, none⟩ = some (.slice a3 n3 c3) := Q1.cel 3 _ rfl
  have Y13 : V1.cell? ⟨W.heap.size, 3, none⟩ = some (.slice a3 n3 c3) := HQ11.out.cel 3 _ rfl
  have l12 : w1.cell? ⟨W.heap.size + 1 + 1, 2, none⟩ = some (.slice none 0 0) := Q3.cel 2 _ rfl
  have f12 := Q3.live 2
  clear z1 Q1 Q2 Q3 Q3' o2 b1 kV1 zV1 hz0 hbz hV1
  go_wp2_with fail
  rw [HV1.out]
  clear HV1
  have HC2 := to_R_NodeS m k3 n3 nb V1 a3 c3 (by omega) hf3 (by have := HB1.out.size; omega) (by omega) (HS3.out.below HB1.out (fun c hc => by omega))
  refine HC2.mono ?_
  clear HC2
  rintro e w2 ⟨d3, g3, rfl, s3, b2, o3⟩
  have z2 := b2.size
  have Q1 := HQ11.out.below b2
  have Q2 := HQ21.out.below b2
  have Q3 := HQ31.out.below b2
  have HO2 := hide o3
  have HBe2 := hide b2
  have l20 : w2.cell? ⟨W.heap.size + 1 + 1, 0, none⟩ = some (.int .i64 x0) := Q3.cel 0 _ rfl
  have f20 := Q3.live 0
  have m20 : w2.cell? ⟨W.heap.size + 1, 0, none⟩ = some (.int .i64 0) := Q2.cel 0 _ rfl
  have v20 := Q2.live 0
  have l21 : w2.cell? ⟨W.heap.size + 1 + 1, 1, none⟩ = some (.string x1) := Q3.cel 1 _ rfl
  have f21 := Q3.live 1
  have m21 : w2.cell? ⟨W.heap.size + 1, 1, none⟩ = some (.string ⟨#[]⟩) := Q2.cel 1 _ rfl
  have v21 := Q2.live 1
  have l22 : w2.cell? ⟨W.heap.size + 1 + 1, 2, none⟩ = some (.slice (some ⟨d2, 0, none⟩) n2 n2) := Q3.cel 2 _ rfl
  have f22 := Q3.live 2
  have m22 : w2.cell? ⟨W.heap.size + 1, 2, none⟩ = some (.slice none 0 0) := Q2.cel 2 _ rfl
  have v22 := Q2.live 2
  have l23 : w2.cell? ⟨W.heap.size + 1 + 1, 3, none⟩ = some (.slice none 0 0) := Q3.cel 3 _ rfl
  have f23 := Q3.live 3
  have m23 : w2.cell? ⟨W.heap.size + 1, 3, none⟩ = some (.slice none 0 0) := Q2.cel 3 _ rfl
  have v23 := Q2.live 3
  have Hz2 := hide z2
  clear z2 Q1 Q2 Q3 o3 b2
  go_wp2_with fail
  have hz0 := HZ0.out
  refine bodyPost_ret (v := .agg #[.int .i64 x0, .string x1, .slice (some ⟨d2, 0, none⟩) n2 n2, .slice (some ⟨d3, 0, none⟩) n3 n3]) (by simp [results, Try.results13, go_sem, m20, m21, m22, m23]) rfl ⟨(.v (.int .i64 x0) (.v (.string x1) (.s (some ⟨d2, 0, none⟩) n2 n2 g2 (.s (some ⟨d3, 0, none⟩) n3 n3 g3 .nil)))), rfl, ⟨rfl, rfl, rfl, s2, rfl, s3, trivial⟩, ?_⟩
  refine (fun (V : World) (kV : Kept (fun c => c ≠ W.heap.size + 1 ∧ c ≠ W.heap.size + 1 + 1) w2 V) => (?_ : Below W.heap.size W V ∧ Own W.heap.size V (.v (.int .i64 x0) (.v (.string x1) (.s (some ⟨d2, 0, none⟩) n2 n2 g2 (.s (some ⟨d3, 0, none⟩) n3 n3 g3 .nil)))))) _ ?_
  · have hbz := HB1.out.size
    have hzl := Hz2.out
    have Bl := HB1.out.trans (HBe2.out.mono hbz)
    refine ⟨Below.kept Bl kV (fun c hc => by omega) (Nat.le_refl _), ?_⟩
    have R2 : Own V1.heap.size w2 (.s (some ⟨d3, 0, none⟩) n3 n3 g3 .nil) := HO2.out
    have hs1z := Hz1.out
    have P1 : Own V0.heap.size V1 (.s (some ⟨d2, 0, none⟩) n2 n2 g2 .nil) := HO1.out.kept Hk1.out (fun c hc _ => by show c ≠ _; have := HB0.out.size; have := HZ0.out;  have := HBe1.out.size; omega)
    have K1 : Kept (fun c => c ≠ (W.heap.size + 1 + 1)) V1 w2 := kt HBe2.out
    have R1 : Own V0.heap.size w2 (.s (some ⟨d2, 0, none⟩) n2 n2 g2 (.s (some ⟨d3, 0, none⟩) n3 n3 g3 .nil)) := P1.appk K1 (fun c hc _ => by show c ≠ _; have := HZ0.out; have := Hz1.out; have := HBe1.out.size; omega) (by have := HZ0.out; have := Hz1.out; have := HBe1.out.size; omega) R2
    exact Own.mono (show Own V0.heap.size V (.v (.int .i64 x0) (.v (.string x1) (.s (some ⟨d2, 0, none⟩) n2 n2 g2 (.s (some ⟨d3, 0, none⟩) n3 n3 g3 .nil)))) from ((R1.kept kV (fun c hc _ => by omega)).v _).v _) (by omega)
  · repeat first | (with_reducible refine Kept.set ?_ (by simp)) | with_reducible exact Kept.refl _ _

end Go.Proofs.Ytanjgmmkodlffaa.U
