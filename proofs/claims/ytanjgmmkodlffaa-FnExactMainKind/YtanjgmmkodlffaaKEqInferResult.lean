import Derived.Test.YtanjgmmkodlffaaKe
import Derived.Test.YtanjgmmkodlffaaKEqTyped
import Derived.Test.YtanjgmmkodlffaaKEqNode
namespace Go.Proofs.Ytanjgmmkodlffaa.U
open Go.RowKit Go.Joins

set_option maxHeartbeats 2000000 in
set_option maxRecDepth 100000 in
theorem eq_C_InferResult (m : Nat) : EqC Try.prog E 15 [.i, .t, .s 2, .s 3] m := by
  intro F G nb W hm hf hn hsim hs ht
  obtain ⟨x0, F0, rfl, hx0, hf⟩ := fit_i hf
  obtain ⟨x1, F1, rfl, hx1, hf⟩ := fit_t hf
  obtain ⟨a2, n2, c2, k2, F2, rfl, hf2, hf⟩ := fit_s hf
  obtain ⟨a3, n3, c3, k3, F3, rfl, hf3, hf⟩ := fit_s hf
  obtain rfl := fit_nil hf
  obtain ⟨u0, rfl, s_1⟩ := Fo.sim_v hsim
  obtain ⟨u1, rfl, s_2⟩ := Fo.sim_v s_1
  obtain ⟨d2, e2, t2, u2, rfl, r2, s_3⟩ := Fo.sim_s s_2
  obtain ⟨d3, e3, t3, u3, rfl, r3, s_4⟩ := Fo.sim_s s_3
  obtain rfl := Fo.sim_nil s_4
  clear hsim s_1 s_2 s_3 s_4
  obtain ⟨hs2, hs3, -⟩ := hs
  obtain ⟨ht2, ht3, -⟩ := ht
  simp only [Fo.size] at hm
  simp only [Fo.vals]
  have HS2 : Hid (Fo.Sub W (fun c => c < nb) a2 n2 c2 k2) := hs2
  have HT2 : Hid (Fo.Sub W (fun c => c < nb) d2 n2 e2 t2) := ht2
  have HS3 : Hid (Fo.Sub W (fun c => c < nb) a3 n3 c3 k3) := hs3
  have HT3 : Hid (Fo.Sub W (fun c => c < nb) d3 n3 e3 t3) := ht3
  clear hs2 ht2 hs3 ht3
  obtain ⟨w0, hV0⟩ : ∃ V0, (W.alloc (.cells #[.int .i64 x0, .string x1, .slice a2 n2 c2, .slice a3 n3 c3] 41)).alloc (.cells #[.int .i64 x0, .string x1, .slice d2 n2 e2, .slice d3 n3 e3] 41) = V0 := ⟨_, rfl⟩
  have HB0 : Hid (Below W.heap.size W w0) := by rw [← hV0]; exact below_alloc2 _ _ _
  have Q0 : Hid (Bx w0 W.heap.size [.int .i64 x0, .string x1, .slice a2 n2 c2, .slice a3 n3 c3]) := by
    rw [← hV0]
    exact (Bx.new _ _ _).kept (Kept.alloc (fun _ => True) _ _) trivial
  have R0 : Hid (Bx w0 (W.heap.size + 1) [.int .i64 x0, .string x1, .slice d2 n2 e2, .slice d3 n3 e3]) := by
    rw [← hV0]
    have := Bx.new (W.alloc (.cells #[.int .i64 x0, .string x1, .slice a2 n2 c2, .slice a3 n3 c3] 41)) [.int .i64 x0, .string x1, .slice d2 n2 e2, .slice d3 n3 e3] 41
    rwa [World.size_alloc] at this
  have HV0 := hide hV0
  clear hV0
  go_enter Try.func15, Try.ntmps15
  go_wp2_with fail
  rw [HV0.out]
  clear HV0
  have HC1 := eq_R_TypedS m k2 t2 n2 nb w0 a2 d2 c2 e2 (by omega) hf2 (by have := HB0.out.size; omega) r2 (HS2.out.below HB0.out (fun c hc => by omega)) (HT2.out.below HB0.out (fun c hc => by omega))
  refine HC1.mono ?_
  clear HC1
  rintro e w1 ⟨rfl, b1⟩
  have HB1 := hide (HB0.out.trans (b1.mono HB0.out.size))
  have Q1 := hide (Q0.out.below b1)
  have R1 := hide (R0.out.below b1)
  clear b1
  have y13 : w1.cell? ⟨W.heap.size, 3, none⟩ = some (.slice a3 n3 c3) := Q1.out.cel 3 _ rfl
  have Y13 : w1.cell? ⟨W.heap.size + 1, 3, none⟩ = some (.slice d3 n3 e3) := R1.out.cel 3 _ rfl
  go_wp2_with fail
  have HC2 := eq_R_NodeS m k3 t3 n3 nb w1 a3 d3 c3 e3 (by omega) hf3 (by have := HB1.out.size; omega) r3 (HS3.out.below HB1.out (fun c hc => by omega)) (HT3.out.below HB1.out (fun c hc => by omega))
  refine HC2.mono ?_
  clear HC2
  rintro e w2 ⟨rfl, b2⟩
  have HB2 := hide (HB1.out.trans (b2.mono HB1.out.size))
  have Q2 := hide (Q1.out.below b2)
  have R2 := hide (R1.out.below b2)
  clear b2
  go_wp2_with fail
  go_ret
  exact ⟨rfl, HB2.out⟩

end Go.Proofs.Ytanjgmmkodlffaa.U
