import Derived.Test.YtkjbkmhmghmodaaBj
import Derived.Test.YtkjbkmhmghmodaaUw
import Derived.Test.YtkjbkmhmghmodaaKEqTables
import Derived.Test.YtkjbkmhmghmodaaKMkTables
import Derived.Test.YtkjbkmhmghmodaaKHdTables
import Derived.Deep.DeepCutAuto
namespace Go.Proofs.Ytkjbkmhmghmodaa
open Go.RowKit Go.Joins

set_option maxHeartbeats 8000000 in
set_option maxRecDepth 100000 in
theorem lawBuiltins (W : World) : Calls Try.prog 3 #[] W fun e W' => e = .returned (.bool true) ∧ Below W.heap.size W W' := by
  obtain ⟨AN, hAN⟩ : ∃ AN : Fo, AN = ansB := ⟨_, rfl⟩
  have hAF : Fit E AN [.s 3, .s 4, .s 7, .s 1, .s 6] := by rw [hAN]; exact ansB_fit
  have hAS : 1 + AN.sct ≤ 4294967296 := by rw [hAN]; exact ansB_sct
  have hr : ∃  (ym0 ym1 ym2 ym3 ym4 : Nat), ∀ G : Fo, G.sim AN → ∃ (d0 d1 d2 d3 d4 : Option Addr) (e0 e1 e2 e3 e4 : Nat), G.vals = [.slice d0 ym0 e0, .slice d1 ym1 e1, .slice d2 ym2 e2, .slice d3 ym3 e3, .slice d4 ym4 e4] := by
    clear hAN hAS
    replace hAF : Fit E AN [.s 3, .s 4, .s 7, .s 1, .s 6] := hAF
    obtain ⟨a0, n0, c0, k0, F0, rfl, -, hAF⟩ := fit_s hAF
    obtain ⟨a1, n1, c1, k1, F1, rfl, -, hAF⟩ := fit_s hAF
    obtain ⟨a2, n2, c2, k2, F2, rfl, -, hAF⟩ := fit_s hAF
    obtain ⟨a3, n3, c3, k3, F3, rfl, -, hAF⟩ := fit_s hAF
    obtain ⟨a4, n4, c4, k4, F4, rfl, -, hAF⟩ := fit_s hAF
    obtain rfl := fit_nil hAF
    refine ⟨n0, n1, n2, n3, n4, fun G s_0 => ?_⟩
    obtain ⟨d0, e0, t0, u0, rfl, -, s_1⟩ := Fo.sim_s s_0
    obtain ⟨d1, e1, t1, u1, rfl, -, s_2⟩ := Fo.sim_s s_1
    obtain ⟨d2, e2, t2, u2, rfl, -, s_3⟩ := Fo.sim_s s_2
    obtain ⟨d3, e3, t3, u3, rfl, -, s_4⟩ := Fo.sim_s s_3
    obtain ⟨d4, e4, t4, u4, rfl, -, s_5⟩ := Fo.sim_s s_4
    obtain rfl := Fo.sim_nil s_5
    exact ⟨d0, d1, d2, d3, d4, e0, e1, e2, e3, e4, rfl⟩
  obtain ⟨ym0, ym1, ym2, ym3, ym4, hR⟩ := hr
  have HMo : Hid (∀ V, Calls Try.prog 7 #[] V fun e w' => ∃ (p0 p1 p2 p3 p4 : Option Addr) (q0 q1 q2 q3 q4 : Nat) (R : Fo), e = .returned (.agg #[.slice p0 ym0 q0, .slice p1 ym1 q1, .slice p2 ym2 q2, .slice p3 ym3 q3, .slice p4 ym4 q4]) ∧ Hid (R.vals = [.slice p0 ym0 q0, .slice p1 ym1 q1, .slice p2 ym2 q2, .slice p3 ym3 q3, .slice p4 ym4 q4] ∧ R.sim AN ∧ R.Subs w' (fun c => c < w'.heap.size)) ∧ Hid (Below V.heap.size V w')) := fun V => by
    refine (m_Builtins V).mono ?_
    rintro e w' ⟨R, rfl, r1, r2, r3⟩
    rw [← hAN] at r1
    obtain ⟨p0, p1, p2, p3, p4, q0, q1, q2, q3, q4, r4⟩ := hR R r1
    exact ⟨p0, p1, p2, p3, p4, q0, q1, q2, q3, q4, R, by rw [r4], ⟨r4, r1, r3⟩, r2⟩
  have HPr : Hid (∀ V, Calls Try.prog 8 #[] V fun e w' => ∃ (p0 p1 p2 p3 p4 : Option Addr) (q0 q1 q2 q3 q4 : Nat) (R : Fo), e = .returned (.agg #[.slice p0 ym0 q0, .slice p1 ym1 q1, .slice p2 ym2 q2, .slice p3 ym3 q3, .slice p4 ym4 q4]) ∧ Hid (R.vals = [.slice p0 ym0 q0, .slice p1 ym1 q1, .slice p2 ym2 q2, .slice p3 ym3 q3, .slice p4 ym4 q4] ∧ R.sim AN ∧ Own V.heap.size w' R) ∧ Hid (Below V.heap.size V w')) := fun V => by
    refine (i_Builtins V).mono ?_
    rintro e w' ⟨R, rfl, r1, r2, r3⟩
    rw [← hAN] at r1
    obtain ⟨p0, p1, p2, p3, p4, q0, q1, q2, q3, q4, r4⟩ := hR R r1
    exact ⟨p0, p1, p2, p3, p4, q0, q1, q2, q3, q4, R, by rw [r4], ⟨r4, r1, r3⟩, r2⟩
  have HEr : Hid (∀ V (d0 d1 d2 d3 d4 : Option Addr) (e0 e1 e2 e3 e4 : Nat) (p0 p1 p2 p3 p4 : Option Addr) (q0 q1 q2 q3 q4 : Nat) (Q R : Fo), Hid (Q.vals = [.slice d0 ym0 e0, .slice d1 ym1 e1, .slice d2 ym2 e2, .slice d3 ym3 e3, .slice d4 ym4 e4] ∧ Q.sim AN ∧ Q.Subs V (fun c => c < V.heap.size)) → Hid (R.vals = [.slice p0 ym0 q0, .slice p1 ym1 q1, .slice p2 ym2 q2, .slice p3 ym3 q3, .slice p4 ym4 q4] ∧ R.sim AN ∧ R.Subs V (fun c => c < V.heap.size)) → Calls Try.prog 9 #[.agg #[.slice d0 ym0 e0, .slice d1 ym1 e1, .slice d2 ym2 e2, .slice d3 ym3 e3, .slice d4 ym4 e4], .agg #[.slice p0 ym0 q0, .slice p1 ym1 q1, .slice p2 ym2 q2, .slice p3 ym3 q3, .slice p4 ym4 q4]] V fun e w' => e = .returned (.bool true) ∧ Hid (Below V.heap.size V w')) := fun V d0 d1 d2 d3 d4 e0 e1 e2 e3 e4 p0 p1 p2 p3 p4 q0 q1 q2 q3 q4 Q R h h2 => by
    have h1 := eq_C_Tables Q.size Q R V.heap.size V (Nat.le_refl _) (h.out.2.1.fit hAF) (Nat.le_refl _) (h2.out.2.1.trans h.out.2.1.symm) h.out.2.2 h2.out.2.2
    rw [h.out.1, h2.out.1] at h1
    exact h1
  obtain ⟨KR, hKR⟩ : ∃ KR : Nat, 1 + AN.sct = KR := ⟨_, rfl⟩
  have hkr : ¬ (KR : Int) < 0 := by omega
  have HMr : Hid (∀ V (d0 d1 d2 d3 d4 : Option Addr) (e0 e1 e2 e3 e4 : Nat) (G : Fo) (lo : Nat), Hid (G.vals = [.slice d0 ym0 e0, .slice d1 ym1 e1, .slice d2 ym2 e2, .slice d3 ym3 e3, .slice d4 ym4 e4] ∧ G.sim AN ∧ Own lo V G) → Calls Try.prog 10 #[.agg #[.slice d0 ym0 e0, .slice d1 ym1 e1, .slice d2 ym2 e2, .slice d3 ym3 e3, .slice d4 ym4 e4], .int .i64 1] V fun e w' => e = .returned (.int .i64 (KR : Int)) ∧ Hid ((G.mks 1).Subs w' (fun c => c < w'.heap.size)) ∧ Hid (Kept (fun c => c ∉ G.inn) V w')) := fun V d0 d1 d2 d3 d4 e0 e1 e2 e3 e4 G lo h => by
    obtain ⟨g4, g1, g3⟩ := h.out
    have h1 := mk_C_Tables (G.size + 1) G 1 V (Nat.lt_succ_self _) (g1.fit hAF) (by omega) (by rw [g1.sct]; omega) (g3.subs.mono (fun _ x => x.2)) g3.nodup g3.live
    rw [g4, g1.sct, hKR] at h1
    exact h1.mono (fun e w' h => ⟨h.1, h.2.1.mono (fun c hc => Nat.lt_of_lt_of_le hc h.2.2.1.size), h.2.2.1⟩)
  have HHr : Hid (∀ V (d0 d1 d2 d3 d4 : Option Addr) (e0 e1 e2 e3 e4 : Nat) (G : Fo), G.vals = [.slice d0 ym0 e0, .slice d1 ym1 e1, .slice d2 ym2 e2, .slice d3 ym3 e3, .slice d4 ym4 e4] → G.sim AN → (G.mks 1).Subs V (fun c => c < V.heap.size) → Calls Try.prog 11 #[.agg #[.slice d0 ym0 e0, .slice d1 ym1 e1, .slice d2 ym2 e2, .slice d3 ym3 e3, .slice d4 ym4 e4], .int .i64 1] V fun e w' => e = .returned (.int .i64 (KR : Int)) ∧ Hid (Below V.heap.size V w')) := fun V d0 d1 d2 d3 d4 e0 e1 e2 e3 e4 G g4 g1 g3 => by
    have h1 := hd_C_Tables (G.size + 1) G V.heap.size 1 V (Nat.lt_succ_self _) (g1.fit hAF) (Nat.le_refl _) (by omega) (by rw [g1.sct]; omega) g3
    rw [g4, g1.sct, hKR] at h1
    exact h1
  have HM1 := hide (HMo.out W)
  clear hR hAF hAN hAS hKR HMo
  go_enter Try.func3, Try.ntmps3
  go_wp2_with fail
  refine HM1.out.mono ?_
  rintro e w3 ⟨pa0, pa1, pa2, pa3, pa4, qa0, qa1, qa2, qa3, qa4, R0, rfl, r0, b3⟩
  obtain ⟨V3, hV3⟩ : ∃ V3, w3.alloc (.cells #[.slice pa0 ym0 qa0, .slice pa1 ym1 qa1, .slice pa2 ym2 qa2, .slice pa3 ym3 qa3, .slice pa4 ym4 qa4] 28) = V3 := ⟨_, rfl⟩
  have HL3 : Hid (Law W [(w3.heap.size, [.slice pa0 ym0 qa0, .slice pa1 ym1 qa1, .slice pa2 ym2 qa2, .slice pa3 ym3 qa3, .slice pa4 ym4 qa4])] [R0] [] V3) := by unfold Hid; rw [← hV3]; exact (((Law.start W).below b3.out).add r0.out.2.2).box _ _
  have HR0 : Hid (R0.vals = [.slice pa0 ym0 qa0, .slice pa1 ym1 qa1, .slice pa2 ym2 qa2, .slice pa3 ym3 qa3, .slice pa4 ym4 qa4] ∧ R0.sim AN ∧ ∀ c ∈ R0.inn, c < w3.heap.size) := ⟨r0.out.1, r0.out.2.1, r0.out.2.2.inn_of⟩
  have HZ3 : Hid (V3.heap.size = w3.heap.size + 1 ∧ W.heap.size ≤ w3.heap.size) := ⟨by rw [← hV3]; simp, b3.out.size⟩
  have HP1 := hide (HPr.out V3)
  have HV3 := hide hV3
  clear HM1 r0 b3 hV3
  go_upto_region 2 with fail
  rw [HV3.out]
  clear HV3
  go_wp2_with fail
  refine HP1.out.mono ?_
  rintro e w5 ⟨pb0, pb1, pb2, pb3, pb4, qb0, qb1, qb2, qb3, qb4, R1, rfl, r1, b5⟩
  obtain ⟨V5, hV5⟩ : ∃ V5, w5.alloc (.cells #[.slice pb0 ym0 qb0, .slice pb1 ym1 qb1, .slice pb2 ym2 qb2, .slice pb3 ym3 qb3, .slice pb4 ym4 qb4] 28) = V5 := ⟨_, rfl⟩
  have HL5 : Hid (Law W [(w5.heap.size, [.slice pb0 ym0 qb0, .slice pb1 ym1 qb1, .slice pb2 ym2 qb2, .slice pb3 ym3 qb3, .slice pb4 ym4 qb4]), (w3.heap.size, [.slice pa0 ym0 qa0, .slice pa1 ym1 qa1, .slice pa2 ym2 qa2, .slice pa3 ym3 qa3, .slice pa4 ym4 qa4])] [R1, R0] [(V3.heap.size, R1)] V5) := by unfold Hid; rw [← hV5]; exact ((HL3.out.below b5.out).adds r1.out.2.2).box _ _
  have HR1 : Hid (R1.vals = [.slice pb0 ym0 qb0, .slice pb1 ym1 qb1, .slice pb2 ym2 qb2, .slice pb3 ym3 qb3, .slice pb4 ym4 qb4] ∧ R1.sim AN ∧ ∀ c ∈ R1.inn, V3.heap.size ≤ c ∧ c < w5.heap.size) := ⟨r1.out.1, r1.out.2.1, r1.out.2.2.subs.inn_of⟩
  have HV5 := hide hV5
  clear HP1 HL3 r1 b5 hV5
  go_upto_region 3 with fail
  rw [HV5.out]
  clear HV5
  have cc := HL5.out.cell w5.heap.size _ (by first | with_reducible exact List.mem_cons_self | with_reducible exact List.mem_cons_of_mem _ List.mem_cons_self | with_reducible exact List.mem_cons_of_mem _ (List.mem_cons_of_mem _ List.mem_cons_self) | with_reducible exact List.mem_cons_of_mem _ (List.mem_cons_of_mem _ (List.mem_cons_of_mem _ List.mem_cons_self)) | with_reducible exact List.mem_cons_of_mem _ (List.mem_cons_of_mem _ (List.mem_cons_of_mem _ (List.mem_cons_of_mem _ List.mem_cons_self))))
  have z0 := cc 0 _ rfl
  have z1 := cc 1 _ rfl
  have z2 := cc 2 _ rfl
  have z3 := cc 3 _ rfl
  have z4 := cc 4 _ rfl
  clear cc
  have cc := HL5.out.cell w3.heap.size _ (by first | with_reducible exact List.mem_cons_self | with_reducible exact List.mem_cons_of_mem _ List.mem_cons_self | with_reducible exact List.mem_cons_of_mem _ (List.mem_cons_of_mem _ List.mem_cons_self) | with_reducible exact List.mem_cons_of_mem _ (List.mem_cons_of_mem _ (List.mem_cons_of_mem _ List.mem_cons_self)) | with_reducible exact List.mem_cons_of_mem _ (List.mem_cons_of_mem _ (List.mem_cons_of_mem _ (List.mem_cons_of_mem _ List.mem_cons_self))))
  have u0 := cc 0 _ rfl
  have u1 := cc 1 _ rfl
  have u2 := cc 2 _ rfl
  have u3 := cc 3 _ rfl
  have u4 := cc 4 _ rfl
  clear cc
  have HE1 := hide (HEr.out V5 pb0 pb1 pb2 pb3 pb4 qb0 qb1 qb2 qb3 qb4 pa0 pa1 pa2 pa3 pa4 qa0 qa1 qa2 qa3 qa4 R1 R0 ⟨HR1.out.1, HR1.out.2.1, HL5.out.fo R1 (by simp)⟩ ⟨HR0.out.1, HR0.out.2.1, HL5.out.fo R0 (by simp)⟩)
  go_wp2_with fail
  refine HE1.out.mono ?_
  rintro e w11 ⟨rfl, b11⟩
  have HLB := hide (HL5.out.below b11.out)
  clear HE1 HL5 b11 z0 u0 z1 u1 z2 u2 z3 u3 z4 u4
  have cc := HLB.out.cell w5.heap.size _ (by first | with_reducible exact List.mem_cons_self | with_reducible exact List.mem_cons_of_mem _ List.mem_cons_self | with_reducible exact List.mem_cons_of_mem _ (List.mem_cons_of_mem _ List.mem_cons_self) | with_reducible exact List.mem_cons_of_mem _ (List.mem_cons_of_mem _ (List.mem_cons_of_mem _ List.mem_cons_self)) | with_reducible exact List.mem_cons_of_mem _ (List.mem_cons_of_mem _ (List.mem_cons_of_mem _ (List.mem_cons_of_mem _ List.mem_cons_self))))
  have z0 := cc 0 _ rfl
  have z1 := cc 1 _ rfl
  have z2 := cc 2 _ rfl
  have z3 := cc 3 _ rfl
  have z4 := cc 4 _ rfl
  clear cc
  have HMB := hide (HMr.out w11 pb0 pb1 pb2 pb3 pb4 qb0 qb1 qb2 qb3 qb4 R1 _ ⟨HR1.out.1, HR1.out.2.1, HLB.out.ow (_, R1) (by first | with_reducible exact List.mem_cons_self | with_reducible exact List.mem_cons_of_mem _ List.mem_cons_self | with_reducible exact List.mem_cons_of_mem _ (List.mem_cons_of_mem _ List.mem_cons_self) | with_reducible exact List.mem_cons_of_mem _ (List.mem_cons_of_mem _ (List.mem_cons_of_mem _ List.mem_cons_self)) | with_reducible exact List.mem_cons_of_mem _ (List.mem_cons_of_mem _ (List.mem_cons_of_mem _ (List.mem_cons_of_mem _ List.mem_cons_self))))⟩)
  go_wp2_with fail
  refine HMB.out.mono ?_
  rintro e w12 ⟨rfl, m12, k12⟩
  have HLC : Hid (Law W [(w5.heap.size, [.slice pb0 ym0 qb0, .slice pb1 ym1 qb1, .slice pb2 ym2 qb2, .slice pb3 ym3 qb3, .slice pb4 ym4 qb4]), (w3.heap.size, [.slice pa0 ym0 qa0, .slice pa1 ym1 qa1, .slice pa2 ym2 qa2, .slice pa3 ym3 qa3, .slice pa4 ym4 qa4])] [R1.mks 1, R0] [] w12) := by
    have h0 := HR0.out.2.2
    have h1 := HR1.out.2.2
    have z3 := HZ3.out
    refine Law.add ((HLB.out.drop (fun _ x => x) (by simp) (fun p hp => absurd hp List.not_mem_nil)).kept k12.out (fun c hc hx => by have := h1 c hx; omega) (allc (fun hx => by have := h1 _ hx; omega) (all1 (fun hx => by have := h1 _ hx; omega))) (all1 (fun c hc hx => by have := h1 _ hx; have := h0 _ hc; omega)) (fun p hp => absurd hp List.not_mem_nil)) m12.out
  clear HMB HLB m12 k12 z0 z1 z2 z3 z4
  have cc := HLC.out.cell w5.heap.size _ (by first | with_reducible exact List.mem_cons_self | with_reducible exact List.mem_cons_of_mem _ List.mem_cons_self | with_reducible exact List.mem_cons_of_mem _ (List.mem_cons_of_mem _ List.mem_cons_self) | with_reducible exact List.mem_cons_of_mem _ (List.mem_cons_of_mem _ (List.mem_cons_of_mem _ List.mem_cons_self)) | with_reducible exact List.mem_cons_of_mem _ (List.mem_cons_of_mem _ (List.mem_cons_of_mem _ (List.mem_cons_of_mem _ List.mem_cons_self))))
  have z0 := cc 0 _ rfl
  have z1 := cc 1 _ rfl
  have z2 := cc 2 _ rfl
  have z3 := cc 3 _ rfl
  have z4 := cc 4 _ rfl
  clear cc
  have HHC := hide (HHr.out w12 pb0 pb1 pb2 pb3 pb4 qb0 qb1 qb2 qb3 qb4 R1 HR1.out.1 HR1.out.2.1 (HLC.out.fo _ (by simp)))
  go_wp2_with fail
  refine HHC.out.mono ?_
  rintro e w13 ⟨rfl, b13⟩
  have HLD := hide (HLC.out.below b13.out)
  have HP4 := hide (HPr.out w13)
  clear HHC HLC b13 z0 z1 z2 z3 z4
  go_wp2_with fail
  refine HP4.out.mono ?_
  rintro e w15 ⟨pd0, pd1, pd2, pd3, pd4, qd0, qd1, qd2, qd3, qd4, R2, rfl, r2, b15⟩
  obtain ⟨V15, hV15⟩ : ∃ V15, w15.alloc (.cells #[.slice pd0 ym0 qd0, .slice pd1 ym1 qd1, .slice pd2 ym2 qd2, .slice pd3 ym3 qd3, .slice pd4 ym4 qd4] 28) = V15 := ⟨_, rfl⟩
  have HLF : Hid (Law W ((w15.heap.size, [.slice pd0 ym0 qd0, .slice pd1 ym1 qd1, .slice pd2 ym2 qd2, .slice pd3 ym3 qd3, .slice pd4 ym4 qd4]) :: [(w5.heap.size, [.slice pb0 ym0 qb0, .slice pb1 ym1 qb1, .slice pb2 ym2 qb2, .slice pb3 ym3 qb3, .slice pb4 ym4 qb4]), (w3.heap.size, [.slice pa0 ym0 qa0, .slice pa1 ym1 qa1, .slice pa2 ym2 qa2, .slice pa3 ym3 qa3, .slice pa4 ym4 qa4])]) [R2, R1.mks 1, R0] [] V15) := by unfold Hid; rw [← hV15]; exact ((HLD.out.below b15.out).add (r2.out.2.2.subs.mono (fun _ x => x.2))).box _ _
  have HR2 : Hid (R2.vals = [.slice pd0 ym0 qd0, .slice pd1 ym1 qd1, .slice pd2 ym2 qd2, .slice pd3 ym3 qd3, .slice pd4 ym4 qd4] ∧ R2.sim AN) := ⟨r2.out.1, r2.out.2.1⟩
  have HV15 := hide hV15
  clear HP4 HLD r2 b15 hV15
  go_upto_region 14 with fail
  rw [HV15.out]
  clear HV15
  have cc := HLF.out.cell w15.heap.size _ (by first | with_reducible exact List.mem_cons_self | with_reducible exact List.mem_cons_of_mem _ List.mem_cons_self | with_reducible exact List.mem_cons_of_mem _ (List.mem_cons_of_mem _ List.mem_cons_self) | with_reducible exact List.mem_cons_of_mem _ (List.mem_cons_of_mem _ (List.mem_cons_of_mem _ List.mem_cons_self)) | with_reducible exact List.mem_cons_of_mem _ (List.mem_cons_of_mem _ (List.mem_cons_of_mem _ (List.mem_cons_of_mem _ List.mem_cons_self))))
  have z0 := cc 0 _ rfl
  have z1 := cc 1 _ rfl
  have z2 := cc 2 _ rfl
  have z3 := cc 3 _ rfl
  have z4 := cc 4 _ rfl
  clear cc
  have cc := HLF.out.cell w3.heap.size _ (by first | with_reducible exact List.mem_cons_self | with_reducible exact List.mem_cons_of_mem _ List.mem_cons_self | with_reducible exact List.mem_cons_of_mem _ (List.mem_cons_of_mem _ List.mem_cons_self) | with_reducible exact List.mem_cons_of_mem _ (List.mem_cons_of_mem _ (List.mem_cons_of_mem _ List.mem_cons_self)) | with_reducible exact List.mem_cons_of_mem _ (List.mem_cons_of_mem _ (List.mem_cons_of_mem _ (List.mem_cons_of_mem _ List.mem_cons_self))))
  have u0 := cc 0 _ rfl
  have u1 := cc 1 _ rfl
  have u2 := cc 2 _ rfl
  have u3 := cc 3 _ rfl
  have u4 := cc 4 _ rfl
  clear cc
  have HE3 := hide (HEr.out V15 pd0 pd1 pd2 pd3 pd4 qd0 qd1 qd2 qd3 qd4 pa0 pa1 pa2 pa3 pa4 qa0 qa1 qa2 qa3 qa4 R2 R0 ⟨HR2.out.1, HR2.out.2, HLF.out.fo R2 (by simp)⟩ ⟨HR0.out.1, HR0.out.2.1, HLF.out.fo R0 (by simp)⟩)
  go_wp2_with fail
  refine HE3.out.mono ?_
  rintro e w16 ⟨rfl, b16⟩
  have HLG := hide (HLF.out.below b16.out)
  clear HE3 HLF b16 z0 u0 z1 u1 z2 u2 z3 u3 z4 u4
  have cc := HLG.out.cell w5.heap.size _ (by first | with_reducible exact List.mem_cons_self | with_reducible exact List.mem_cons_of_mem _ List.mem_cons_self | with_reducible exact List.mem_cons_of_mem _ (List.mem_cons_of_mem _ List.mem_cons_self) | with_reducible exact List.mem_cons_of_mem _ (List.mem_cons_of_mem _ (List.mem_cons_of_mem _ List.mem_cons_self)) | with_reducible exact List.mem_cons_of_mem _ (List.mem_cons_of_mem _ (List.mem_cons_of_mem _ (List.mem_cons_of_mem _ List.mem_cons_self))))
  have z0 := cc 0 _ rfl
  have z1 := cc 1 _ rfl
  have z2 := cc 2 _ rfl
  have z3 := cc 3 _ rfl
  have z4 := cc 4 _ rfl
  clear cc
  have HHG := hide (HHr.out w16 pb0 pb1 pb2 pb3 pb4 qb0 qb1 qb2 qb3 qb4 R1 HR1.out.1 HR1.out.2.1 (HLG.out.fo _ (by simp)))
  go_wp2_with fail
  refine HHG.out.mono ?_
  rintro e w17 ⟨rfl, b17⟩
  have HLH := hide (HLG.out.below b17.out).be
  clear HHG HLG b17 z0 z1 z2 z3 z4
  go_wp2_with fail
  go_ret
  exact ⟨rfl, HLH.out⟩

end Go.Proofs.Ytkjbkmhmghmodaa
