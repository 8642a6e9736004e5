import Derived.Test.YtcflciblcdabpaaKe
import Derived.Test.YtcflciblcdabpaaKEqPred
import Derived.Test.YtcflciblcdabpaaKEqType
namespace Go.Proofs.Ytcflciblcdabpaa
open Go.RowKit Go.Joins

set_option maxHeartbeats 2000000 in
set_option maxRecDepth 100000 in
theorem eq_C_Scheme (m : Nat) : EqC Try.prog E 74 [.i, .s 5, .i, .i, .t, .s 2] m := by
  intro F G nb W hm hf hn hsim hs ht
  obtain ⟨x0, F0, rfl, hx0, hf⟩ := fit_i hf
  obtain ⟨a1, n1, c1, k1, F1, rfl, hf1, hf⟩ := fit_s hf
  obtain ⟨x2, F2, rfl, hx2, hf⟩ := fit_i hf
  obtain ⟨x3, F3, rfl, hx3, hf⟩ := fit_i hf
  obtain ⟨x4, F4, rfl, hx4, hf⟩ := fit_t hf
  obtain ⟨a5, n5, c5, k5, F5, rfl, hf5, hf⟩ := fit_s hf
  obtain rfl := fit_nil hf
  obtain ⟨u0, rfl, s_1⟩ := Fo.sim_v hsim
  obtain ⟨d1, e1, t1, u1, rfl, r1, s_2⟩ := Fo.sim_s s_1
  obtain ⟨u2, rfl, s_3⟩ := Fo.sim_v s_2
  obtain ⟨u3, rfl, s_4⟩ := Fo.sim_v s_3
  obtain ⟨u4, rfl, s_5⟩ := Fo.sim_v s_4
  obtain ⟨d5, e5, t5, u5, rfl, r5, s_6⟩ := Fo.sim_s s_5
  obtain rfl := Fo.sim_nil s_6
  clear hsim s_1 s_2 s_3 s_4 s_5 s_6
  obtain ⟨hs1, hs5, -⟩ := hs
  obtain ⟨ht1, ht5, -⟩ := ht
  simp only [Fo.size] at hm
  simp only [Fo.vals]
  have HS1 : Hid (Fo.Sub W (fun c => c < nb) a1 n1 c1 k1) := hs1
  have HT1 : Hid (Fo.Sub W (fun c => c < nb) d1 n1 e1 t1) := ht1
  have HS5 : Hid (Fo.Sub W (fun c => c < nb) a5 n5 c5 k5) := hs5
  have HT5 : Hid (Fo.Sub W (fun c => c < nb) d5 n5 e5 t5) := ht5
  clear hs1 ht1 hs5 ht5
  obtain ⟨w0, hV0⟩ : ∃ V0, (W.alloc (.cells #[.int .i64 x0, .slice a1 n1 c1, .int .i64 x2, .int .i64 x3, .string x4, .slice a5 n5 c5] 103)).alloc (.cells #[.int .i64 x0, .slice d1 n1 e1, .int .i64 x2, .int .i64 x3, .string x4, .slice d5 n5 e5] 103) = V0 := ⟨_, rfl⟩
  have HB0 : Hid (Below W.heap.size W w0) := by rw [← hV0]; exact below_alloc2 _ _ _
  have Q0 : Hid (Bx w0 W.heap.size [.int .i64 x0, .slice a1 n1 c1, .int .i64 x2, .int .i64 x3, .string x4, .slice a5 n5 c5]) := by
    rw [← hV0]
    exact (Bx.new _ _ _).kept (Kept.alloc (fun _ => True) _ _) trivial
  have R0 : Hid (Bx w0 (W.heap.size + 1) [.int .i64 x0, .slice d1 n1 e1, .int .i64 x2, .int .i64 x3, .string x4, .slice d5 n5 e5]) := by
    rw [← hV0]
    have := Bx.new (W.alloc (.cells #[.int .i64 x0, .slice a1 n1 c1, .int .i64 x2, .int .i64 x3, .string x4, .slice a5 n5 c5] 103)) [.int .i64 x0, .slice d1 n1 e1, .int .i64 x2, .int .i64 x3, .string x4, .slice d5 n5 e5] 103
    rwa [World.size_alloc] at this
  have HV0 := hide hV0
  clear hV0
  go_enter Try.func74, Try.ntmps74
  go_wp2_with fail
  rw [HV0.out]
  clear HV0
  have HC1 := eq_R_PredS m k1 t1 n1 nb w0 a1 d1 c1 e1 (by omega) hf1 (by have := HB0.out.size; omega) r1 (HS1.out.below HB0.out (fun c hc => by omega)) (HT1.out.below HB0.out (fun c hc => by omega))
  refine HC1.mono ?_
  clear HC1
  rintro e w1 ⟨rfl, b1⟩
  have HB1 := hide (HB0.out.trans (b1.mono HB0.out.size))
  have Q1 := hide (Q0.out.below b1)
  have R1 := hide (R0.out.below b1)
  clear b1
  have y12 : w1.cell? ⟨W.heap.size, 2, none⟩ = some (.int .i64 x2) := Q1.out.cel 2 _ rfl
  have Y12 : w1.cell? ⟨W.heap.size + 1, 2, none⟩ = some (.int .i64 x2) := R1.out.cel 2 _ rfl
  have y13 : w1.cell? ⟨W.heap.size, 3, none⟩ = some (.int .i64 x3) := Q1.out.cel 3 _ rfl
  have Y13 : w1.cell? ⟨W.heap.size + 1, 3, none⟩ = some (.int .i64 x3) := R1.out.cel 3 _ rfl
  have y14 : w1.cell? ⟨W.heap.size, 4, none⟩ = some (.string x4) := Q1.out.cel 4 _ rfl
  have Y14 : w1.cell? ⟨W.heap.size + 1, 4, none⟩ = some (.string x4) := R1.out.cel 4 _ rfl
  have y15 : w1.cell? ⟨W.heap.size, 5, none⟩ = some (.slice a5 n5 c5) := Q1.out.cel 5 _ rfl
  have Y15 : w1.cell? ⟨W.heap.size + 1, 5, none⟩ = some (.slice d5 n5 e5) := R1.out.cel 5 _ rfl
  go_wp2_with fail
  have HC2 := eq_C_Type_all m (.v (.int .i64 x2) (.v (.int .i64 x3) (.v (.string x4) (.s a5 n5 c5 k5 .nil)))) (.v (.int .i64 x2) (.v (.int .i64 x3) (.v (.string x4) (.s d5 n5 e5 t5 .nil)))) nb w1 (by simp only [Fo.size]; omega) ⟨hx2, hx3, hx4, hf5, trivial⟩ (by have := HB1.out.size; omega) ⟨rfl, rfl, rfl, rfl, r5, trivial⟩ ⟨(HS5.out.below HB1.out (fun c hc => by omega)), trivial⟩ ⟨(HT5.out.below HB1.out (fun c hc => by omega)), trivial⟩
  simp only [Fo.vals] at HC2
  refine HC2.mono ?_
  clear HC2
  rintro e w2 ⟨rfl, b2⟩
  have HB2 := hide (HB1.out.trans (b2.mono HB1.out.size))
  have Q2 := hide (Q1.out.below b2)
  have R2 := hide (R1.out.below b2)
  clear b2
  go_wp2_with fail
  go_ret
  exact ⟨rfl, HB2.out⟩

end Go.Proofs.Ytcflciblcdabpaa
