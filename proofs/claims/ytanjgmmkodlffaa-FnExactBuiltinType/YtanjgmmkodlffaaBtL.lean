import Derived.Test.YtanjgmmkodlffaaBe
import Derived.Test.YtanjgmmkodlffaaUw
import Derived.Test.YtanjgmmkodlffaaUx
import Derived.Test.YtanjgmmkodlffaaKEqScheme
import Derived.Test.YtanjgmmkodlffaaKMkScheme
import Derived.Test.YtanjgmmkodlffaaKHdScheme
import Derived.Deep.DeepCutAuto
namespace Go.Proofs.Ytanjgmmkodlffaa.U
open Go.RowKit Go.Joins

set_option maxHeartbeats 8000000 in
set_option maxRecDepth 100000 in
theorem lawBt (s : ByteArray) (W : World) : Calls Try.prog 3 #[.string s] W fun e W' => e = .returned (.bool true) ∧ Below W.heap.size W W' := by
  by_cases gp : (1048576 : Int) < ((s.size : Nat) : Int)
  · go_enter Try.func3, Try.ntmps3
    go_wp2_with fail
    go_ret
    exact ⟨rfl, Below.refl _ _⟩
  obtain ⟨AN, hAN⟩ := bt_ex s
  have hAF : Fit E AN [.i, .s 0, .i, .i, .t, .s 1] := (bt_fit hAN).1
  have hAS : 1 + AN.sct ≤ 4294967296 := (bt_fit hAN).2
  have hr : ∃ (y0 : Int) (y2 : Int) (y3 : Int) (y4 : ByteArray) (ym1 ym5 : Nat), ∀ G : Fo, G.sim AN → ∃ (d1 d5 : Option Addr) (e1 e5 : Nat), G.vals = [.int .i64 y0, .slice d1 ym1 e1, .int .i64 y2, .int .i64 y3, .string y4, .slice d5 ym5 e5] := by
    clear hAN hAS
    replace hAF : Fit E AN [.i, .s 0, .i, .i, .t, .s 1] := hAF
    obtain ⟨y0, F0, rfl, -, hAF⟩ := fit_i hAF
    obtain ⟨a1, n1, c1, k1, F1, rfl, -, hAF⟩ := fit_s hAF
    obtain ⟨y2, F2, rfl, -, hAF⟩ := fit_i hAF
    obtain ⟨y3, F3, rfl, -, hAF⟩ := fit_i hAF
    obtain ⟨y4, F4, rfl, -, hAF⟩ := fit_t hAF
    obtain ⟨a5, n5, c5, k5, F5, rfl, -, hAF⟩ := fit_s hAF
    obtain rfl := fit_nil hAF
    refine ⟨y0, y2, y3, y4, n1, n5, fun G s_0 => ?_⟩
    obtain ⟨u0, rfl, s_1⟩ := Fo.sim_v s_0
    obtain ⟨d1, e1, t1, u1, rfl, -, s_2⟩ := Fo.sim_s s_1
    obtain ⟨u2, rfl, s_3⟩ := Fo.sim_v s_2
    obtain ⟨u3, rfl, s_4⟩ := Fo.sim_v s_3
    obtain ⟨u4, rfl, s_5⟩ := Fo.sim_v s_4
    obtain ⟨d5, e5, t5, u5, rfl, -, s_6⟩ := Fo.sim_s s_5
    obtain rfl := Fo.sim_nil s_6
    exact ⟨d1, d5, e1, e5, rfl⟩
  obtain ⟨y0, y2, y3, y4, ym1, ym5, hR⟩ := hr
  have HMo : Hid (∀ V, Calls Try.prog 6 #[.string s] V fun e w' => ∃ (p1 p5 : Option Addr) (q1 q5 : Nat) (R : Fo), e = .returned (.agg #[.int .i64 y0, .slice p1 ym1 q1, .int .i64 y2, .int .i64 y3, .string y4, .slice p5 ym5 q5]) ∧ Hid (R.vals = [.int .i64 y0, .slice p1 ym1 q1, .int .i64 y2, .int .i64 y3, .string y4, .slice p5 ym5 q5] ∧ R.sim AN ∧ R.Subs w' (fun c => c < w'.heap.size)) ∧ Hid (Below V.heap.size V w')) := fun V => by
    refine (m_bt s AN hAN V).mono ?_
    rintro e w' ⟨R, rfl, r1, r2, r3⟩
    obtain ⟨p1, p5, q1, q5, r4⟩ := hR R r1
    exact ⟨p1, p5, q1, q5, R, by rw [r4], ⟨r4, r1, r3⟩, r2⟩
  have HPr : Hid (∀ V, Calls Try.prog 7 #[.string s] V fun e w' => ∃ (p1 p5 : Option Addr) (q1 q5 : Nat) (R : Fo), e = .returned (.agg #[.int .i64 y0, .slice p1 ym1 q1, .int .i64 y2, .int .i64 y3, .string y4, .slice p5 ym5 q5]) ∧ Hid (R.vals = [.int .i64 y0, .slice p1 ym1 q1, .int .i64 y2, .int .i64 y3, .string y4, .slice p5 ym5 q5] ∧ R.sim AN ∧ Own V.heap.size w' R) ∧ Hid (Below V.heap.size V w')) := fun V => by
    refine (i_bt s AN hAN V).mono ?_
    rintro e w' ⟨R, rfl, r1, r2, r3⟩
    obtain ⟨p1, p5, q1, q5, r4⟩ := hR R r1
    exact ⟨p1, p5, q1, q5, R, by rw [r4], ⟨r4, r1, r3⟩, r2⟩
  have HEr : Hid (∀ V (d1 d5 : Option Addr) (e1 e5 : Nat) (p1 p5 : Option Addr) (q1 q5 : Nat) (Q R : Fo), Hid (Q.vals = [.int .i64 y0, .slice d1 ym1 e1, .int .i64 y2, .int .i64 y3, .string y4, .slice d5 ym5 e5] ∧ Q.sim AN ∧ Q.Subs V (fun c => c < V.heap.size)) → Hid (R.vals = [.int .i64 y0, .slice p1 ym1 q1, .int .i64 y2, .int .i64 y3, .string y4, .slice p5 ym5 q5] ∧ R.sim AN ∧ R.Subs V (fun c => c < V.heap.size)) → Calls Try.prog 8 #[.agg #[.int .i64 y0, .slice d1 ym1 e1, .int .i64 y2, .int .i64 y3, .string y4, .slice d5 ym5 e5], .agg #[.int .i64 y0, .slice p1 ym1 q1, .int .i64 y2, .int .i64 y3, .string y4, .slice p5 ym5 q5]] V fun e w' => e = .returned (.bool true) ∧ Hid (Below V.heap.size V w')) := fun V d1 d5 e1 e5 p1 p5 q1 q5 Q R h h2 => by
    have h1 := eq_C_Scheme Q.size Q R V.heap.size V (Nat.le_refl _) (h.out.2.1.fit hAF) (Nat.le_refl _) (h2.out.2.1.trans h.out.2.1.symm) h.out.2.2 h2.out.2.2
    rw [h.out.1, h2.out.1] at h1
    exact h1
  obtain ⟨KR, hKR⟩ : ∃ KR : Nat, 1 + AN.sct = KR := ⟨_, rfl⟩
  have hkr : ¬ (KR : Int) < 0 := by omega
  have HMr : Hid (∀ V (d1 d5 : Option Addr) (e1 e5 : Nat) (G : Fo) (lo : Nat), Hid (G.vals = [.int .i64 y0, .slice d1 ym1 e1, .int .i64 y2, .int .i64 y3, .string y4, .slice d5 ym5 e5] ∧ G.sim AN ∧ Own lo V G) → Calls Try.prog 9 #[.agg #[.int .i64 y0, .slice d1 ym1 e1, .int .i64 y2, .int .i64 y3, .string y4, .slice d5 ym5 e5], .int .i64 1] V fun e w' => e = .returned (.int .i64 (KR : Int)) ∧ Hid ((G.mks 1).Subs w' (fun c => c < w'.heap.size)) ∧ Hid (Kept (fun c => c ∉ G.inn) V w')) := fun V d1 d5 e1 e5 G lo h => by
    obtain ⟨g4, g1, g3⟩ := h.out
    have h1 := mk_C_Scheme (G.size + 1) G 1 V (Nat.lt_succ_self _) (g1.fit hAF) (by omega) (by rw [g1.sct]; omega) (g3.subs.mono (fun _ x => x.2)) g3.nodup g3.live
    rw [g4, g1.sct, hKR] at h1
    exact h1.mono (fun e w' h => ⟨h.1, h.2.1.mono (fun c hc => Nat.lt_of_lt_of_le hc h.2.2.1.size), h.2.2.1⟩)
  have HHr : Hid (∀ V (d1 d5 : Option Addr) (e1 e5 : Nat) (G : Fo), G.vals = [.int .i64 y0, .slice d1 ym1 e1, .int .i64 y2, .int .i64 y3, .string y4, .slice d5 ym5 e5] → G.sim AN → (G.mks 1).Subs V (fun c => c < V.heap.size) → Calls Try.prog 10 #[.agg #[.int .i64 y0, .slice d1 ym1 e1, .int .i64 y2, .int .i64 y3, .string y4, .slice d5 ym5 e5], .int .i64 1] V fun e w' => e = .returned (.int .i64 (KR : Int)) ∧ Hid (Below V.heap.size V w')) := fun V d1 d5 e1 e5 G g4 g1 g3 => by
    have h1 := hd_C_Scheme (G.size + 1) G V.heap.size 1 V (Nat.lt_succ_self _) (g1.fit hAF) (Nat.le_refl _) (by omega) (by rw [g1.sct]; omega) g3
    rw [g4, g1.sct, hKR] at h1
    exact h1
  have HM1 := hide (HMo.out W)
  clear hR hAF hAN hAS hKR HMo
  go_enter Try.func3, Try.ntmps3
  go_wp2_with fail
  refine HM1.out.mono ?_
  rintro e w3 ⟨pa1, pa5, qa1, qa5, R0, rfl, r0, b3⟩
  obtain ⟨V3, hV3⟩ : ∃ V3, w3.alloc (.cells #[.int .i64 y0, .slice pa1 ym1 qa1, .int .i64 y2, .int .i64 y3, .string y4, .slice pa5 ym5 qa5] 27) = V3 := ⟨_, rfl⟩
  have HL3 : Hid (Law W [(w3.heap.size, [.int .i64 y0, .slice pa1 ym1 qa1, .int .i64 y2, .int .i64 y3, .string y4, .slice pa5 ym5 qa5])] [R0] [] V3) := by unfold Hid; rw [← hV3]; exact (((Law.start W).below b3.out).add r0.out.2.2).box _ _
  have HR0 : Hid (R0.vals = [.int .i64 y0, .slice pa1 ym1 qa1, .int .i64 y2, .int .i64 y3, .string y4, .slice pa5 ym5 qa5] ∧ R0.sim AN ∧ ∀ c ∈ R0.inn, c < w3.heap.size) := ⟨r0.out.1, r0.out.2.1, r0.out.2.2.inn_of⟩
  have HZ3 : Hid (V3.heap.size = w3.heap.size + 1 ∧ W.heap.size ≤ w3.heap.size) := ⟨by rw [← hV3]; simp, b3.out.size⟩
  have HP1 := hide (HPr.out V3)
  have HV3 := hide hV3
  clear HM1 r0 b3 hV3
  go_upto_region 4 with fail
  rw [HV3.out]
  clear HV3
  go_wp2_with fail
  refine HP1.out.mono ?_
  rintro e w5 ⟨pb1, pb5, qb1, qb5, R1, rfl, r1, b5⟩
  obtain ⟨V5, hV5⟩ : ∃ V5, w5.alloc (.cells #[.int .i64 y0, .slice pb1 ym1 qb1, .int .i64 y2, .int .i64 y3, .string y4, .slice pb5 ym5 qb5] 27) = V5 := ⟨_, rfl⟩
  have HL5 : Hid (Law W [(w5.heap.size, [.int .i64 y0, .slice pb1 ym1 qb1, .int .i64 y2, .int .i64 y3, .string y4, .slice pb5 ym5 qb5]), (w3.heap.size, [.int .i64 y0, .slice pa1 ym1 qa1, .int .i64 y2, .int .i64 y3, .string y4, .slice pa5 ym5 qa5])] [R1, R0] [(V3.heap.size, R1)] V5) := by unfold Hid; rw [← hV5]; exact ((HL3.out.below b5.out).adds r1.out.2.2).box _ _
  have HR1 : Hid (R1.vals = [.int .i64 y0, .slice pb1 ym1 qb1, .int .i64 y2, .int .i64 y3, .string y4, .slice pb5 ym5 qb5] ∧ R1.sim AN ∧ ∀ c ∈ R1.inn, V3.heap.size ≤ c ∧ c < w5.heap.size) := ⟨r1.out.1, r1.out.2.1, r1.out.2.2.subs.inn_of⟩
  have HV5 := hide hV5
  clear HP1 HL3 r1 b5 hV5
  go_upto_region 5 with fail
  rw [HV5.out]
  clear HV5
  have cc := HL5.out.cell w5.heap.size _ (by first | with_reducible exact List.mem_cons_self | with_reducible exact List.mem_cons_of_mem _ List.mem_cons_self | with_reducible exact List.mem_cons_of_mem _ (List.mem_cons_of_mem _ List.mem_cons_self) | with_reducible exact List.mem_cons_of_mem _ (List.mem_cons_of_mem _ (List.mem_cons_of_mem _ List.mem_cons_self)) | with_reducible exact List.mem_cons_of_mem _ (List.mem_cons_of_mem _ (List.mem_cons_of_mem _ (List.mem_cons_of_mem _ List.mem_cons_self))))
  have z0 := cc 0 _ rfl
  have z1 := cc 1 _ rfl
  have z2 := cc 2 _ rfl
  have z3 := cc 3 _ rfl
  have z4 := cc 4 _ rfl
  have z5 := cc 5 _ rfl
  clear cc
  have cc := HL5.out.cell w3.heap.size _ (by first | with_reducible exact List.mem_cons_self | with_reducible exact List.mem_cons_of_mem _ List.mem_cons_self | with_reducible exact List.mem_cons_of_mem _ (List.mem_cons_of_mem _ List.mem_cons_self) | with_reducible exact List.mem_cons_of_mem _ (List.mem_cons_of_mem _ (List.mem_cons_of_mem _ List.mem_cons_self)) | with_reducible exact List.mem_cons_of_mem _ (List.mem_cons_of_mem _ (List.mem_cons_of_mem _ (List.mem_cons_of_mem _ List.mem_cons_self))))
  have u0 := cc 0 _ rfl
  have u1 := cc 1 _ rfl
  have u2 := cc 2 _ rfl
  have u3 := cc 3 _ rfl
  have u4 := cc 4 _ rfl
  have u5 := cc 5 _ rfl
  clear cc
  have HE1 := hide (HEr.out V5 pb1 pb5 qb1 qb5 pa1 pa5 qa1 qa5 R1 R0 ⟨HR1.out.1, HR1.out.2.1, HL5.out.fo R1 (by simp)⟩ ⟨HR0.out.1, HR0.out.2.1, HL5.out.fo R0 (by simp)⟩)
  go_wp2_with fail
  refine HE1.out.mono ?_
  rintro e w11 ⟨rfl, b11⟩
  have HLB := hide (HL5.out.below b11.out)
  clear HE1 HL5 b11 z0 u0 z1 u1 z2 u2 z3 u3 z4 u4 z5 u5
  have cc := HLB.out.cell w5.heap.size _ (by first | with_reducible exact List.mem_cons_self | with_reducible exact List.mem_cons_of_mem _ List.mem_cons_self | with_reducible exact List.mem_cons_of_mem _ (List.mem_cons_of_mem _ List.mem_cons_self) | with_reducible exact List.mem_cons_of_mem _ (List.mem_cons_of_mem _ (List.mem_cons_of_mem _ List.mem_cons_self)) | with_reducible exact List.mem_cons_of_mem _ (List.mem_cons_of_mem _ (List.mem_cons_of_mem _ (List.mem_cons_of_mem _ List.mem_cons_self))))
  have z0 := cc 0 _ rfl
  have z1 := cc 1 _ rfl
  have z2 := cc 2 _ rfl
  have z3 := cc 3 _ rfl
  have z4 := cc 4 _ rfl
  have z5 := cc 5 _ rfl
  clear cc
  have HMB := hide (HMr.out w11 pb1 pb5 qb1 qb5 R1 _ ⟨HR1.out.1, HR1.out.2.1, HLB.out.ow (_, R1) (by first | with_reducible exact List.mem_cons_self | with_reducible exact List.mem_cons_of_mem _ List.mem_cons_self | with_reducible exact List.mem_cons_of_mem _ (List.mem_cons_of_mem _ List.mem_cons_self) | with_reducible exact List.mem_cons_of_mem _ (List.mem_cons_of_mem _ (List.mem_cons_of_mem _ List.mem_cons_self)) | with_reducible exact List.mem_cons_of_mem _ (List.mem_cons_of_mem _ (List.mem_cons_of_mem _ (List.mem_cons_of_mem _ List.mem_cons_self))))⟩)
  go_wp2_with fail
  refine HMB.out.mono ?_
  rintro e w12 ⟨rfl, m12, k12⟩
  have HLC : Hid (Law W [(w5.heap.size, [.int .i64 y0, .slice pb1 ym1 qb1, .int .i64 y2, .int .i64 y3, .string y4, .slice pb5 ym5 qb5]), (w3.heap.size, [.int .i64 y0, .slice pa1 ym1 qa1, .int .i64 y2, .int .i64 y3, .string y4, .slice pa5 ym5 qa5])] [R1.mks 1, R0] [] w12) := by
    have h0 := HR0.out.2.2
    have h1 := HR1.out.2.2
    have z3 := HZ3.out
    refine Law.add ((HLB.out.drop (fun _ x => x) (by simp) (fun p hp => absurd hp List.not_mem_nil)).kept k12.out (fun c hc hx => by have := h1 c hx; omega) (allc (fun hx => by have := h1 _ hx; omega) (all1 (fun hx => by have := h1 _ hx; omega))) (all1 (fun c hc hx => by have := h1 _ hx; have := h0 _ hc; omega)) (fun p hp => absurd hp List.not_mem_nil)) m12.out
  clear HMB HLB m12 k12 z0 z1 z2 z3 z4 z5
  have cc := HLC.out.cell w5.heap.size _ (by first | with_reducible exact List.mem_cons_self | with_reducible exact List.mem_cons_of_mem _ List.mem_cons_self | with_reducible exact List.mem_cons_of_mem _ (List.mem_cons_of_mem _ List.mem_cons_self) | with_reducible exact List.mem_cons_of_mem _ (List.mem_cons_of_mem _ (List.mem_cons_of_mem _ List.mem_cons_self)) | with_reducible exact List.mem_cons_of_mem _ (List.mem_cons_of_mem _ (List.mem_cons_of_mem _ (List.mem_cons_of_mem _ List.mem_cons_self))))
  have z0 := cc 0 _ rfl
  have z1 := cc 1 _ rfl
  have z2 := cc 2 _ rfl
  have z3 := cc 3 _ rfl
  have z4 := cc 4 _ rfl
  have z5 := cc 5 _ rfl
  clear cc
  have HHC := hide (HHr.out w12 pb1 pb5 qb1 qb5 R1 HR1.out.1 HR1.out.2.1 (HLC.out.fo _ (by simp)))
  go_wp2_with fail
  refine HHC.out.mono ?_
  rintro e w13 ⟨rfl, b13⟩
  have HLD := hide (HLC.out.below b13.out)
  have HP4 := hide (HPr.out w13)
  clear HHC HLC b13 z0 z1 z2 z3 z4 z5
  go_wp2_with fail
  refine HP4.out.mono ?_
  rintro e w15 ⟨pd1, pd5, qd1, qd5, R2, rfl, r2, b15⟩
  obtain ⟨V15, hV15⟩ : ∃ V15, w15.alloc (.cells #[.int .i64 y0, .slice pd1 ym1 qd1, .int .i64 y2, .int .i64 y3, .string y4, .slice pd5 ym5 qd5] 27) = V15 := ⟨_, rfl⟩
  have HLF : Hid (Law W ((w15.heap.size, [.int .i64 y0, .slice pd1 ym1 qd1, .int .i64 y2, .int .i64 y3, .string y4, .slice pd5 ym5 qd5]) :: [(w5.heap.size, [.int .i64 y0, .slice pb1 ym1 qb1, .int .i64 y2, .int .i64 y3, .string y4, .slice pb5 ym5 qb5]), (w3.heap.size, [.int .i64 y0, .slice pa1 ym1 qa1, .int .i64 y2, .int .i64 y3, .string y4, .slice pa5 ym5 qa5])]) [R2, R1.mks 1, R0] [] V15) := by unfold Hid; rw [← hV15]; exact ((HLD.out.below b15.out).add (r2.out.2.2.subs.mono (fun _ x => x.2))).box _ _
  have HR2 : Hid (R2.vals = [.int .i64 y0, .slice pd1 ym1 qd1, .int .i64 y2, .int .i64 y3, .string y4, .slice pd5 ym5 qd5] ∧ R2.sim AN) := ⟨r2.out.1, r2.out.2.1⟩
  have HV15 := hide hV15
  clear HP4 HLD r2 b15 hV15
  go_upto_region 16 with fail
  rw [HV15.out]
  clear HV15
  have cc := HLF.out.cell w15.heap.size _ (by first | with_reducible exact List.mem_cons_self | with_reducible exact List.mem_cons_of_mem _ List.mem_cons_self | with_reducible exact List.mem_cons_of_mem _ (List.mem_cons_of_mem _ List.mem_cons_self) | with_reducible exact List.mem_cons_of_mem _ (List.mem_cons_of_mem _ (List.mem_cons_of_mem _ List.mem_cons_self)) | with_reducible exact List.mem_cons_of_mem _ (List.mem_cons_of_mem _ (List.mem_cons_of_mem _ (List.mem_cons_of_mem _ List.mem_cons_self))))
  have z0 := cc 0 _ rfl
  have z1 := cc 1 _ rfl
  have z2 := cc 2 _ rfl
  have z3 := cc 3 _ rfl
  have z4 := cc 4 _ rfl
  have z5 := cc 5 _ rfl
  clear cc
  have cc := HLF.out.cell w3.heap.size _ (by first | with_reducible exact List.mem_cons_self | with_reducible exact List.mem_cons_of_mem _ List.mem_cons_self | with_reducible exact List.mem_cons_of_mem _ (List.mem_cons_of_mem _ List.mem_cons_self) | with_reducible exact List.mem_cons_of_mem _ (List.mem_cons_of_mem _ (List.mem_cons_of_mem _ List.mem_cons_self)) | with_reducible exact List.mem_cons_of_mem _ (List.mem_cons_of_mem _ (List.mem_cons_of_mem _ (List.mem_cons_of_mem _ List.mem_cons_self))))
  have u0 := cc 0 _ rfl
  have u1 := cc 1 _ rfl
  have u2 := cc 2 _ rfl
  have u3 := cc 3 _ rfl
  have u4 := cc 4 _ rfl
  have u5 := cc 5 _ rfl
  clear cc
  have HE3 := hide (HEr.out V15 pd1 pd5 qd1 qd5 pa1 pa5 qa1 qa5 R2 R0 ⟨HR2.out.1, HR2.out.2, HLF.out.fo R2 (by simp)⟩ ⟨HR0.out.1, HR0.out.2.1, HLF.out.fo R0 (by simp)⟩)
  go_wp2_with fail
  refine HE3.out.mono ?_
  rintro e w16 ⟨rfl, b16⟩
  have HLG := hide (HLF.out.below b16.out)
  clear HE3 HLF b16 z0 u0 z1 u1 z2 u2 z3 u3 z4 u4 z5 u5
  have cc := HLG.out.cell w5.heap.size _ (by first | with_reducible exact List.mem_cons_self | with_reducible exact List.mem_cons_of_mem _ List.mem_cons_self | with_reducible exact List.mem_cons_of_mem _ (List.mem_cons_of_mem _ List.mem_cons_self) | with_reducible exact List.mem_cons_of_mem _ (List.mem_cons_of_mem _ (List.mem_cons_of_mem _ List.mem_cons_self)) | with_reducible exact List.mem_cons_of_mem _ (List.mem_cons_of_mem _ (List.mem_cons_of_mem _ (List.mem_cons_of_mem _ List.mem_cons_self))))
  have z0 := cc 0 _ rfl
  have z1 := cc 1 _ rfl
  have z2 := cc 2 _ rfl
  have z3 := cc 3 _ rfl
  have z4 := cc 4 _ rfl
  have z5 := cc 5 _ rfl
  clear cc
  have HHG := hide (HHr.out w16 pb1 pb5 qb1 qb5 R1 HR1.out.1 HR1.out.2.1 (HLG.out.fo _ (by simp)))
  go_wp2_with fail
  refine HHG.out.mono ?_
  rintro e w17 ⟨rfl, b17⟩
  have HLH := hide (HLG.out.below b17.out).be
  clear HHG HLG b17 z0 z1 z2 z3 z4 z5
  go_wp2_with fail
  go_ret
  exact ⟨rfl, HLH.out⟩

end Go.Proofs.Ytanjgmmkodlffaa.U
