import Derived.Test.YtcnbnhoeobdbnaaCd
import Derived.Test.YtcnbnhoeobdbnaaUx
import Derived.Test.YtcnbnhoeobdbnaaKb
import Derived.Test.YtcnbnhoeobdbnaaKA
import Derived.Test.YtcnbnhoeobdbnaaKB
import Derived.Deep.RegionHeld3
import Derived.Deep.DeepCutAuto
namespace Go.Proofs.Ytcnbnhoeobdbnaa.U
open Go.RowKit Go.Joins

set_option maxHeartbeats 16000000 in
set_option maxRecDepth 100000 in
theorem lawClose (F0 : Fo) (a1 : Option Addr) (n1 c1 : Nat) (K1 : Fo) (a2 : Option Addr) (n2 c2 : Nat) (K2 : Fo) (W : World) (hf0 : Fit E F0 (E 0)) (hf1 : Fit E (.s a1 n1 c1 K1 .nil) [.s 2]) (hf2 : Fit E (.s a2 n2 c2 K2 .nil) [.s 3]) (hs0 : F0.Subs W (fun b => b < W.heap.size)) (hs1 : Fo.Subs W (fun b => b < W.heap.size) (.s a1 n1 c1 K1 .nil)) (hs2 : Fo.Subs W (fun b => b < W.heap.size) (.s a2 n2 c2 K2 .nil)) :
    Calls Try.prog 7 #[.agg F0.vals.toArray, .slice a1 n1 c1, .slice a2 n2 c2] W fun e W' => e = .returned (.bool true) ∧ Below W.heap.size W W' := by
  have hv0 : ∃ (x0_0 : Int) (x0_1 : Int) (x0_2 : ByteArray) (a0_3 : Option Addr) (c0_3 : Nat) (n0_3 : Nat), F0.vals = [.int .i64 x0_0, .int .i64 x0_1, .string x0_2, .slice a0_3 n0_3 c0_3] ∧ ∀ G : Fo, G.sim F0 → ∃ (d0_3 : Option Addr) (e0_3 : Nat), G.vals = [.int .i64 x0_0, .int .i64 x0_1, .string x0_2, .slice d0_3 n0_3 e0_3] := by
    replace hf : Fit E F0 [.i, .i, .t, .s 0] := hf0
    clear hf0 hs0
    revert hf
    generalize F0 = F
    intro hf
    obtain ⟨x0, F0, rfl, -, hf⟩ := fit_i hf
    obtain ⟨x1, F1, rfl, -, hf⟩ := fit_i hf
    obtain ⟨x2, F2, rfl, -, hf⟩ := fit_t hf
    obtain ⟨a3, n3, c3, k3, F3, rfl, -, hf⟩ := fit_s hf
    obtain rfl := fit_nil hf
    refine ⟨x0, x1, x2, a3, c3, n3, rfl, fun G s_0 => ?_⟩
    obtain ⟨u0, rfl, s_1⟩ := Fo.sim_v s_0
    obtain ⟨u1, rfl, s_2⟩ := Fo.sim_v s_1
    obtain ⟨u2, rfl, s_3⟩ := Fo.sim_v s_2
    obtain ⟨d3, e3, t3, u3, rfl, -, s_4⟩ := Fo.sim_s s_3
    obtain rfl := Fo.sim_nil s_4
    exact ⟨d3, e3, rfl⟩
  obtain ⟨x0_0, x0_1, x0_2, a0_3, c0_3, n0_3, hv0, hG0⟩ := hv0
  have HFi0 := hide hf0
  have HFin0 : Hid (∀ c ∈ F0.inn, c < W.heap.size) := hs0.inn_of
  obtain ⟨F1, hF1⟩ : ∃ F1 : Fo, F1 = .s a1 n1 c1 K1 .nil := ⟨_, rfl⟩
  rw [← hF1] at hf1 hs1
  have hv1 : F1.vals = [.slice a1 n1 c1] := by rw [hF1]; rfl
  have HMx1 : Hid (n1 ≤ 9223372036854775807) := by have h1 := hs1; rw [hF1] at h1; have h2 := h1.1.1; have h3 := h1.1.2.1; simp only [maxLen] at h3; unfold Hid; omega
  have HFi1 := hide hf1
  have HFin1 : Hid (∀ c ∈ F1.inn, c < W.heap.size) := hs1.inn_of
  obtain ⟨F2, hF2⟩ : ∃ F2 : Fo, F2 = .s a2 n2 c2 K2 .nil := ⟨_, rfl⟩
  rw [← hF2] at hf2 hs2
  have hv2 : F2.vals = [.slice a2 n2 c2] := by rw [hF2]; rfl
  have HMx2 : Hid (n2 ≤ 9223372036854775807) := by have h1 := hs2; rw [hF2] at h1; have h2 := h1.1.1; have h3 := h1.1.2.1; simp only [maxLen] at h3; unfold Hid; omega
  have HFi2 := hide hf2
  have HFin2 : Hid (∀ c ∈ F2.inn, c < W.heap.size) := hs2.inn_of
  have HS0 : Hid (∀ V (left : Int), F0.Subs V (fun c => c < V.heap.size) → 0 ≤ left → left ≤ 1048576 → Calls Try.prog 9 #[.agg #[.int .i64 x0_0, .int .i64 x0_1, .string x0_2, .slice a0_3 n0_3 c0_3], .int .i64 left] V fun e w' => e = .returned (.int .i64 (szV left F0.wt)) ∧ Below V.heap.size V w') := fun V left hV h0 h1 => szC_rec sz_C_Type_all hv0 HFi0.out left h0 h1 V hV
  have HS1 : Hid (∀ V (left : Int), F1.Subs V (fun c => c < V.heap.size) → 0 ≤ left → left ≤ 1048576 → Calls Try.prog 29 #[.slice a1 n1 c1, .int .i64 left] V fun e w' => e = .returned (.int .i64 (szV left F1.wt)) ∧ Below V.heap.size V w') := fun V left hV h0 h1 => szR_rec sz_R_PredS hF1 HFi1.out left h0 h1 V hV
  obtain ⟨A, hA⟩ : ∃ A, W.alloc (.cells #[.int .i64 x0_0, .int .i64 x0_1, .string x0_2, .slice a0_3 n0_3 c0_3] 24) = A := ⟨_, rfl⟩
  have HL0 : Hid (Law W [(W.heap.size, [.int .i64 x0_0, .int .i64 x0_1, .string x0_2, .slice a0_3 n0_3 c0_3])] [F0, F1, F2] [] A) := by have h := (((((Law.start W).add hs2).add hs1).add hs0).box [.int .i64 x0_0, .int .i64 x0_1, .string x0_2, .slice a0_3 n0_3 c0_3] 24); rw [hA] at h; exact h
  have HA := hide hA
  rw [hv0]
  show Calls Try.prog 7 #[.agg #[.int .i64 x0_0, .int .i64 x0_1, .string x0_2, .slice a0_3 n0_3 c0_3], .slice a1 n1 c1, .slice a2 n2 c2] W _
  clear hA
  by_cases gp2 : (1048576 : Int) < ((n2 : Nat) : Int)
  · have HB := hide HL0.out.be
    have hx1 := HMx1.out
    have hx2 := HMx2.out
    go_enter Try.func7, Try.ntmps7
    go_wp2_with fail
    rw [HA.out]
    go_ret
    exact ⟨rfl, HB.out⟩
  by_cases g9_0 : (1048576 : Int) < ((F0.wt : Nat) : Int)
  · have hend := szV_lt g9_0
    have hx1 := HMx1.out
    have hx2 := HMx2.out
    have cc := HL0.out.cell (W.heap.size) _ mem_0
    have z0 := cc 0 _ rfl
    have z1 := cc 1 _ rfl
    have z2 := cc 2 _ rfl
    have z3 := cc 3 _ rfl
    clear cc
    go_enter Try.func7, Try.ntmps7
    go_wp2_with fail
    rw [HA.out]
    refine (HS0.out A 1048576 (HL0.out.fo F0 mem_0) (by omega) (by omega)).mono ?_
    rintro e w1 ⟨rfl, b1⟩
    rw [hend]
    have HL2 : Hid (Law W [(W.heap.size, [.int .i64 x0_0, .int .i64 x0_1, .string x0_2, .slice a0_3 n0_3 c0_3])] [F0, F1, F2] [] w1) := HL0.out.below b1
    clear b1 z0 z1 z2 z3
    go_wp2_with fail
    go_ret
    exact ⟨rfl, HL2.out.be⟩
  obtain ⟨l0, hl0⟩ : ∃ l0 : Int, l0 = 1048576 - F0.wt := ⟨_, rfl⟩
  have he_0 : szV 1048576 F0.wt = l0 := by rw [szV_ge g9_0, hl0]
  have hge_0 : ¬ l0 < 0 := by omega
  have HLF0 : Hid (0 ≤ l0 ∧ l0 ≤ 1048576 ∧ F0.wt ≤ 1048576) := ⟨by omega, by omega, by omega⟩
  clear hl0 g9_0
  by_cases g9_1 : (l0 : Int) < ((F1.wt : Nat) : Int)
  · have hend := szV_lt g9_1
    have hx1 := HMx1.out
    have hx2 := HMx2.out
    have cc := HL0.out.cell (W.heap.size) _ mem_0
    have z0 := cc 0 _ rfl
    have z1 := cc 1 _ rfl
    have z2 := cc 2 _ rfl
    have z3 := cc 3 _ rfl
    clear cc
    go_enter Try.func7, Try.ntmps7
    go_wp2_with fail
    rw [HA.out]
    refine (HS0.out A 1048576 (HL0.out.fo F0 mem_0) (by omega) (by omega)).mono ?_
    rintro e w3 ⟨rfl, b1⟩
    rw [he_0]
    have HL4 : Hid (Law W [(W.heap.size, [.int .i64 x0_0, .int .i64 x0_1, .string x0_2, .slice a0_3 n0_3 c0_3])] [F0, F1, F2] [] w3) := HL0.out.below b1
    clear b1 z0 z1 z2 z3
    go_wp2_with fail
    refine (HS1.out w3 l0 (HL4.out.fo F1 mem_1) HLF0.out.1 HLF0.out.2.1).mono ?_
    rintro e w5 ⟨rfl, b1⟩
    rw [hend]
    have HL6 : Hid (Law W [(W.heap.size, [.int .i64 x0_0, .int .i64 x0_1, .string x0_2, .slice a0_3 n0_3 c0_3])] [F0, F1, F2] [] w5) := HL4.out.below b1
    clear b1
    go_wp2_with fail
    go_ret
    exact ⟨rfl, HL6.out.be⟩
  obtain ⟨l1, hl1⟩ : ∃ l1 : Int, l1 = l0 - F1.wt := ⟨_, rfl⟩
  have he_1 : szV l0 F1.wt = l1 := by rw [szV_ge g9_1, hl1]
  have hge_1 : ¬ l1 < 0 := by omega
  have hprev := HLF0.out
  have HLF1 : Hid (0 ≤ l1 ∧ l1 ≤ 1048576 ∧ F1.wt ≤ 1048576) := ⟨by omega, by have := HLF0.out; omega, by omega⟩
  clear hl1 g9_1 hprev
  have hwt0 : F0.wt ≤ 1048576 := HLF0.out.2.2
  have hwt1 : F1.wt ≤ 1048576 := HLF1.out.2.2
  have hwt2 : F2.wt ≤ 1048576 := by rw [hF2]; have h2 := ints_wt (by have h3 := HFi2.out; rw [hF2] at h3; exact h3.1); simp only [Fo.wt]; omega
  obtain ⟨AN, hAN⟩ : ∃ AN : Fo, AN = cU F0 F1 F2 := ⟨_, rfl⟩
  have hAF : Fit E AN sch := by rw [hAN]; exact (cU_fit hf0 hf1 hf2).1
  have hAW : AN.wt ≤ 8388608 := by rw [hAN]; have h := (cU_fit hf0 hf1 hf2).2; omega
  have hr : ∃ (y0 : Int) (y2 : Int) (y3 : Int) (y4 : ByteArray) (ym1 ym5 : Nat), ∀ G : Fo, G.sim AN → ∃ (dr_1 dr_5 : Option Addr) (er_1 er_5 : Nat), G.vals = [.int .i64 y0, .slice dr_1 ym1 er_1, .int .i64 y2, .int .i64 y3, .string y4, .slice dr_5 ym5 er_5] := by
    replace hf : Fit E AN [.i, .s 2, .i, .i, .t, .s 0] := hAF
    clear hAN hAW hAF
    obtain ⟨y0, F0, rfl, -, hf⟩ := fit_i hf
    obtain ⟨a1, n1, c1, k1, F1, rfl, -, hf⟩ := fit_s hf
    obtain ⟨y2, F2, rfl, -, hf⟩ := fit_i hf
    obtain ⟨y3, F3, rfl, -, hf⟩ := fit_i hf
    obtain ⟨y4, F4, rfl, -, hf⟩ := fit_t hf
    obtain ⟨a5, n5, c5, k5, F5, rfl, -, hf⟩ := fit_s hf
    obtain rfl := fit_nil hf
    refine ⟨y0, y2, y3, y4, n1, n5, fun G s_0 => ?_⟩
    obtain ⟨u0, rfl, s_1⟩ := Fo.sim_v s_0
    obtain ⟨d1, e1, t1, u1, rfl, -, s_2⟩ := Fo.sim_s s_1
    obtain ⟨u2, rfl, s_3⟩ := Fo.sim_v s_2
    obtain ⟨u3, rfl, s_4⟩ := Fo.sim_v s_3
    obtain ⟨u4, rfl, s_5⟩ := Fo.sim_v s_4
    obtain ⟨d5, e5, t5, u5, rfl, -, s_6⟩ := Fo.sim_s s_5
    obtain rfl := Fo.sim_nil s_6
    exact ⟨d1, d5, e1, e5, rfl⟩
  obtain ⟨y0, y2, y3, y4, ym1, ym5, hR⟩ := hr
  have HTo0 : Hid (∀ V, F0.Subs V (fun c => c < V.heap.size) → Calls Try.prog 11 #[.agg #[.int .i64 x0_0, .int .i64 x0_1, .string x0_2, .slice a0_3 n0_3 c0_3]] V fun e w' => ∃ (d0_3 : Option Addr) (e0_3 : Nat) (G : Fo), e = .returned (.agg #[.int .i64 x0_0, .int .i64 x0_1, .string x0_2, .slice d0_3 n0_3 e0_3]) ∧ Hid (G.vals = [.int .i64 x0_0, .int .i64 x0_1, .string x0_2, .slice d0_3 n0_3 e0_3] ∧ G.sim F0 ∧ Own V.heap.size w' G) ∧ Hid (Below V.heap.size V w')) := fun V hV => by
    refine (toC_rec to_C_Type_all hv0 HFi0.out hwt0 V hV).mono ?_
    rintro e w' ⟨G, rfl, g1, g3, g2⟩
    obtain ⟨d0_3, e0_3, g4⟩ := hG0 G g1
    exact ⟨d0_3, e0_3, G, by rw [g4], ⟨g4, g1, g3⟩, g2⟩
  have HEa0 : Hid (∀ V (d0_3 : Option Addr) (e0_3 : Nat) (p0_3 : Option Addr) (q0_3 : Nat) (Q R : Fo), Hid (Q.vals = [.int .i64 x0_0, .int .i64 x0_1, .string x0_2, .slice d0_3 n0_3 e0_3] ∧ Q.sim F0 ∧ Q.Subs V (fun c => c < V.heap.size)) → Hid (R.vals = [.int .i64 x0_0, .int .i64 x0_1, .string x0_2, .slice p0_3 n0_3 q0_3] ∧ R.sim F0 ∧ R.Subs V (fun c => c < V.heap.size)) → Calls Try.prog 13 #[.agg #[.int .i64 x0_0, .int .i64 x0_1, .string x0_2, .slice d0_3 n0_3 e0_3], .agg #[.int .i64 x0_0, .int .i64 x0_1, .string x0_2, .slice p0_3 n0_3 q0_3]] V fun e w' => e = .returned (.bool true) ∧ Hid (Below V.heap.size V w')) := fun V d0_3 e0_3 p0_3 q0_3 Q R h h2 => eqC_rec eq_C_Type_all HFi0.out V _ _ Q R h h2
  have HTo1 : Hid (∀ V, F1.Subs V (fun c => c < V.heap.size) → Calls Try.prog 31 #[.slice a1 n1 c1] V fun e w' => ∃ (d1 : Option Addr) (e1 : Nat) (G : Fo), e = .returned (.slice d1 n1 e1) ∧ Hid (G.vals = [.slice d1 n1 e1] ∧ G.sim F1 ∧ Own V.heap.size w' G) ∧ Hid (Below V.heap.size V w')) := fun V hV => by
    exact toR_rec to_R_PredS hF1 HFi1.out hwt1 V hV
  have HEa1 : Hid (∀ V (d1 : Option Addr) (e1 : Nat) (p1 : Option Addr) (q1 : Nat) (Q R : Fo), Hid (Q.vals = [.slice d1 n1 e1] ∧ Q.sim F1 ∧ Q.Subs V (fun c => c < V.heap.size)) → Hid (R.vals = [.slice p1 n1 q1] ∧ R.sim F1 ∧ R.Subs V (fun c => c < V.heap.size)) → Calls Try.prog 35 #[.slice d1 n1 e1, .slice p1 n1 q1] V fun e w' => e = .returned (.bool true) ∧ Hid (Below V.heap.size V w')) := fun V d1 e1 p1 q1 Q R h h2 => eqR_rec eq_R_PredS hF1 HFi1.out V d1 e1 p1 q1 Q R h h2
  have HTo2 : Hid (∀ V, F2.Subs V (fun c => c < V.heap.size) → Calls Try.prog 32 #[.slice a2 n2 c2] V fun e w' => ∃ (d2 : Option Addr) (e2 : Nat) (G : Fo), e = .returned (.slice d2 n2 e2) ∧ Hid (G.vals = [.slice d2 n2 e2] ∧ G.sim F2 ∧ Own V.heap.size w' G) ∧ Hid (Below V.heap.size V w')) := fun V hV => by
    exact toR_rec to_R_Int64S hF2 HFi2.out hwt2 V hV
  have HEa2 : Hid (∀ V (d2 : Option Addr) (e2 : Nat) (p2 : Option Addr) (q2 : Nat) (Q R : Fo), Hid (Q.vals = [.slice d2 n2 e2] ∧ Q.sim F2 ∧ Q.Subs V (fun c => c < V.heap.size)) → Hid (R.vals = [.slice p2 n2 q2] ∧ R.sim F2 ∧ R.Subs V (fun c => c < V.heap.size)) → Calls Try.prog 18 #[.slice d2 n2 e2, .slice p2 n2 q2] V fun e w' => e = .returned (.bool true) ∧ Hid (Below V.heap.size V w')) := fun V d2 e2 p2 q2 Q R h h2 => eqR_rec eq_R_Int64S hF2 HFi2.out V d2 e2 p2 q2 Q R h h2
  have HMo : Hid (∀ V (d0_3 : Option Addr) (e0_3 : Nat) (G0 : Fo) (lo0 : Nat) (d1 : Option Addr) (e1 : Nat) (G1 : Fo) (lo1 : Nat) (d2 : Option Addr) (e2 : Nat) (G2 : Fo) (lo2 : Nat), Hid (G0.vals = [.int .i64 x0_0, .int .i64 x0_1, .string x0_2, .slice d0_3 n0_3 e0_3] ∧ G0.sim F0 ∧ Own lo0 V G0) → Hid (G1.vals = [.slice d1 n1 e1] ∧ G1.sim F1 ∧ Own lo1 V G1) → Hid (G2.vals = [.slice d2 n2 e2] ∧ G2.sim F2 ∧ Own lo2 V G2) → Calls Try.prog 30 #[.agg #[.int .i64 x0_0, .int .i64 x0_1, .string x0_2, .slice d0_3 n0_3 e0_3], .slice d1 n1 e1, .slice d2 n2 e2] V fun e w' => ∃ (pr_1 pr_5 : Option Addr) (qr_1 qr_5 : Nat) (R : Fo), e = .returned (.agg #[.int .i64 y0, .slice pr_1 ym1 qr_1, .int .i64 y2, .int .i64 y3, .string y4, .slice pr_5 ym5 qr_5]) ∧ Hid (R.vals = [.int .i64 y0, .slice pr_1 ym1 qr_1, .int .i64 y2, .int .i64 y3, .string y4, .slice pr_5 ym5 qr_5] ∧ R.sim AN ∧ R.Subs w' (fun c => c < w'.heap.size)) ∧ Hid (Below V.heap.size V w')) := fun V d0_3 e0_3 G0 lo0 d1 e1 G1 lo1 d2 e2 G2 lo2 h0 h1 h2 => by
    obtain ⟨v0, s0', o0⟩ := h0.out
    obtain ⟨v1, s1', o1⟩ := h1.out
    obtain ⟨K1', rfl, -⟩ := rec_of (by have h := s1'; rw [hF1] at h; exact h) v1
    obtain ⟨v2, s2', o2⟩ := h2.out
    obtain ⟨K2', rfl, -⟩ := rec_of (by have h := s2'; rw [hF2] at h; exact h) v2
    have h := m_Close G0 d1 n1 e1 K1' d2 n2 e2 K2' V (s0'.fit HFi0.out) (s1'.fit HFi1.out) (s2'.fit HFi2.out) (by rw [s0'.wt]; exact hwt0) (by rw [s1'.wt]; exact hwt1) (by rw [s2'.wt]; exact hwt2)  (o0.subs.mono (fun _ x => x.2)) (o1.subs.mono (fun _ x => x.2)) (o2.subs.mono (fun _ x => x.2))
    rw [v0] at h
    refine h.mono ?_
    rintro e w' ⟨R, rfl, r1, r2, r3⟩
    have r5 : R.sim AN := by rw [hAN]; exact r1.trans (cU_sim HFi0.out HFi1.out HFi2.out s0' s1' s2')
    obtain ⟨pr_1, pr_5, qr_1, qr_5, r4⟩ := hR R r5
    exact ⟨pr_1, pr_5, qr_1, qr_5, R, by rw [r4], ⟨r4, r5, r3⟩, r2⟩
  have HPr : Hid (∀ V (d0_3 : Option Addr) (e0_3 : Nat) (G0 : Fo) (lo0 : Nat) (d1 : Option Addr) (e1 : Nat) (G1 : Fo) (lo1 : Nat) (d2 : Option Addr) (e2 : Nat) (G2 : Fo) (lo2 : Nat), Hid (G0.vals = [.int .i64 x0_0, .int .i64 x0_1, .string x0_2, .slice d0_3 n0_3 e0_3] ∧ G0.sim F0 ∧ Own lo0 V G0) → Hid (G1.vals = [.slice d1 n1 e1] ∧ G1.sim F1 ∧ Own lo1 V G1) → Hid (G2.vals = [.slice d2 n2 e2] ∧ G2.sim F2 ∧ Own lo2 V G2) → Calls Try.prog 33 #[.agg #[.int .i64 x0_0, .int .i64 x0_1, .string x0_2, .slice d0_3 n0_3 e0_3], .slice d1 n1 e1, .slice d2 n2 e2] V fun e w' => ∃ (pr_1 pr_5 : Option Addr) (qr_1 qr_5 : Nat) (R : Fo), e = .returned (.agg #[.int .i64 y0, .slice pr_1 ym1 qr_1, .int .i64 y2, .int .i64 y3, .string y4, .slice pr_5 ym5 qr_5]) ∧ Hid (R.vals = [.int .i64 y0, .slice pr_1 ym1 qr_1, .int .i64 y2, .int .i64 y3, .string y4, .slice pr_5 ym5 qr_5] ∧ R.sim AN ∧ Own V.heap.size w' R) ∧ Hid (Below V.heap.size V w')) := fun V d0_3 e0_3 G0 lo0 d1 e1 G1 lo1 d2 e2 G2 lo2 h0 h1 h2 => by
    obtain ⟨v0, s0', o0⟩ := h0.out
    obtain ⟨v1, s1', o1⟩ := h1.out
    obtain ⟨K1', rfl, -⟩ := rec_of (by have h := s1'; rw [hF1] at h; exact h) v1
    obtain ⟨v2, s2', o2⟩ := h2.out
    obtain ⟨K2', rfl, -⟩ := rec_of (by have h := s2'; rw [hF2] at h; exact h) v2
    have h := i_Close G0 d1 n1 e1 K1' d2 n2 e2 K2' V (s0'.fit HFi0.out) (s1'.fit HFi1.out) (s2'.fit HFi2.out) (by rw [s0'.wt]; exact hwt0) (by rw [s1'.wt]; exact hwt1) (by rw [s2'.wt]; exact hwt2)  (o0.subs.mono (fun _ x => x.2)) (o1.subs.mono (fun _ x => x.2)) (o2.subs.mono (fun _ x => x.2))
    rw [v0] at h
    refine h.mono ?_
    rintro e w' ⟨R, rfl, r1, r2, r3⟩
    have r5 : R.sim AN := by rw [hAN]; exact r1.trans (cU_sim HFi0.out HFi1.out HFi2.out s0' s1' s2')
    obtain ⟨pr_1, pr_5, qr_1, qr_5, r4⟩ := hR R r5
    exact ⟨pr_1, pr_5, qr_1, qr_5, R, by rw [r4], ⟨r4, r5, r3⟩, r2⟩
  have HEr : Hid (∀ V (dr_1 dr_5 : Option Addr) (er_1 er_5 : Nat) (pr_1 pr_5 : Option Addr) (qr_1 qr_5 : Nat) (Q R : Fo), Hid (Q.vals = [.int .i64 y0, .slice dr_1 ym1 er_1, .int .i64 y2, .int .i64 y3, .string y4, .slice dr_5 ym5 er_5] ∧ Q.sim AN ∧ Q.Subs V (fun c => c < V.heap.size)) → Hid (R.vals = [.int .i64 y0, .slice pr_1 ym1 qr_1, .int .i64 y2, .int .i64 y3, .string y4, .slice pr_5 ym5 qr_5] ∧ R.sim AN ∧ R.Subs V (fun c => c < V.heap.size)) → Calls Try.prog 34 #[.agg #[.int .i64 y0, .slice dr_1 ym1 er_1, .int .i64 y2, .int .i64 y3, .string y4, .slice dr_5 ym5 er_5], .agg #[.int .i64 y0, .slice pr_1 ym1 qr_1, .int .i64 y2, .int .i64 y3, .string y4, .slice pr_5 ym5 qr_5]] V fun e w' => e = .returned (.bool true) ∧ Hid (Below V.heap.size V w')) := fun V dr_1 dr_5 er_1 er_5 pr_1 pr_5 qr_1 qr_5 Q R h h2 => eqC_rec eq_C_Scheme hAF V _ _ Q R h h2
  have hb0 := (Fit.bounds (M := 8) hEM F0 _ HFi0.out).2.1
  obtain ⟨KA0, hKA0⟩ : ∃ KA : Nat, 1 + F0.sct = KA := ⟨_, rfl⟩
  have hka0 : ¬ (KA0 : Int) < 0 := by omega
  have HMa0 : Hid (∀ V (d0_3 : Option Addr) (e0_3 : Nat) (G : Fo) (lo : Nat), G.vals = [.int .i64 x0_0, .int .i64 x0_1, .string x0_2, .slice d0_3 n0_3 e0_3] → G.sim F0 → Own lo V G → Calls Try.prog 19 #[.agg #[.int .i64 x0_0, .int .i64 x0_1, .string x0_2, .slice d0_3 n0_3 e0_3], .int .i64 (1 : Int)] V fun e w' => e = .returned (.int .i64 (KA0 : Int)) ∧ Hid (Kept (fun c => c ∉ G.inn) V w')) := fun V d0_3 e0_3 G lo g4 g1 g3 => by
    have h1 := mkC_rec mk_C_Type HFi0.out V _ G lo 1 (by omega) (by omega) g4 g1 g3
    rw [hKA0] at h1
    exact h1.mono (fun e w' h => ⟨h.1, h.2.2⟩)
  have hb1 := (Fit.bounds (M := 8) hEM F1 _ HFi1.out).2.1
  obtain ⟨KA1, hKA1⟩ : ∃ KA : Nat, KA0 + F1.sct = KA := ⟨_, rfl⟩
  have hka1 : ¬ (KA1 : Int) < 0 := by omega
  have HMa1 : Hid (∀ V (d1 : Option Addr) (e1 : Nat) (G : Fo) (lo : Nat), G.vals = [.slice d1 n1 e1] → G.sim F1 → Own lo V G → Calls Try.prog 36 #[.slice d1 n1 e1, .int .i64 (KA0 : Int)] V fun e w' => e = .returned (.int .i64 (KA1 : Int)) ∧ Hid (Kept (fun c => c ∉ G.inn) V w')) := fun V d1 e1 G lo g4 g1 g3 => by
    have h1 := mkR_rec mk_R_PredS hF1 HFi1.out V d1 e1 G lo KA0 (by omega) (by omega) g4 g1 g3
    rw [hKA1] at h1
    exact h1.mono (fun e w' h => ⟨h.1, h.2.2⟩)
  have hb2 := (Fit.bounds (M := 8) hEM F2 _ HFi2.out).2.1
  obtain ⟨KA2, hKA2⟩ : ∃ KA : Nat, KA1 + F2.sct = KA := ⟨_, rfl⟩
  have hka2 : ¬ (KA2 : Int) < 0 := by omega
  have HMa2 : Hid (∀ V (d2 : Option Addr) (e2 : Nat) (G : Fo) (lo : Nat), G.vals = [.slice d2 n2 e2] → G.sim F2 → Own lo V G → Calls Try.prog 20 #[.slice d2 n2 e2, .int .i64 (KA1 : Int)] V fun e w' => e = .returned (.int .i64 (KA2 : Int)) ∧ Hid (Kept (fun c => c ∉ G.inn) V w')) := fun V d2 e2 G lo g4 g1 g3 => by
    have h1 := mkR_rec mk_R_Int64S hF2 HFi2.out V d2 e2 G lo KA1 (by omega) (by omega) g4 g1 g3
    rw [hKA2] at h1
    exact h1.mono (fun e w' h => ⟨h.1, h.2.2⟩)
  have hbA := (Fit.bounds (M := 8) hEM AN _ hAF).2.1
  obtain ⟨KR, hKR⟩ : ∃ KR : Nat, 1 + AN.sct = KR := ⟨_, rfl⟩
  have hkr : ¬ (KR : Int) < 0 := by omega
  have HMr : Hid (∀ V (dr_1 dr_5 : Option Addr) (er_1 er_5 : Nat) (G : Fo) (lo : Nat), Hid (G.vals = [.int .i64 y0, .slice dr_1 ym1 er_1, .int .i64 y2, .int .i64 y3, .string y4, .slice dr_5 ym5 er_5] ∧ G.sim AN ∧ Own lo V G) → Calls Try.prog 37 #[.agg #[.int .i64 y0, .slice dr_1 ym1 er_1, .int .i64 y2, .int .i64 y3, .string y4, .slice dr_5 ym5 er_5], .int .i64 1] V fun e w' => e = .returned (.int .i64 (KR : Int)) ∧ Hid ((G.mks 1).Subs w' (fun c => c < w'.heap.size)) ∧ Hid (Kept (fun c => c ∉ G.inn) V w')) := fun V dr_1 dr_5 er_1 er_5 G lo h => by
    obtain ⟨g4, g1, g3⟩ := h.out
    have h1 := mkC_rec mk_C_Scheme hAF V _ G lo 1 (by omega) (by omega) g4 g1 g3
    rw [hKR] at h1
    exact h1
  have HHr : Hid (∀ V (dr_1 dr_5 : Option Addr) (er_1 er_5 : Nat) (G : Fo), G.vals = [.int .i64 y0, .slice dr_1 ym1 er_1, .int .i64 y2, .int .i64 y3, .string y4, .slice dr_5 ym5 er_5] → G.sim AN → (G.mks 1).Subs V (fun c => c < V.heap.size) → Calls Try.prog 38 #[.agg #[.int .i64 y0, .slice dr_1 ym1 er_1, .int .i64 y2, .int .i64 y3, .string y4, .slice dr_5 ym5 er_5], .int .i64 1] V fun e w' => e = .returned (.int .i64 (KR : Int)) ∧ Hid (Below V.heap.size V w')) := fun V dr_1 dr_5 er_1 er_5 G g4 g1 g3 => by
    have h1 := hdC_rec hd_C_Scheme hAF V _ G 1 (by omega) (by omega) g4 g1 g3
    rw [hKR] at h1
    exact h1
  have hx1 := HMx1.out
  have hx2 := HMx2.out
  clear hR hAF hAW hAN hbA hKR hv0 hv1 hv2 hf0 hs0 hwt0 hb0 hKA0 hf1 hs1 hwt1 hb1 hKA1 hf2 hs2 hwt2 hb2 hKA2 hG0 hF1 hF2  
  have cc := HL0.out.cell (W.heap.size) _ mem_0
  have z0 := cc 0 _ rfl
  have z1 := cc 1 _ rfl
  have z2 := cc 2 _ rfl
  have z3 := cc 3 _ rfl
  clear cc
  go_enter Try.func7, Try.ntmps7
  go_wp2_with fail
  rw [HA.out]
  clear HA
  refine (HS0.out A 1048576 (HL0.out.fo F0 mem_0) (by omega) (by omega)).mono ?_
  rintro e w7 ⟨rfl, b1⟩
  rw [he_0]
  have HL8 : Hid (Law W [(W.heap.size, [.int .i64 x0_0, .int .i64 x0_1, .string x0_2, .slice a0_3 n0_3 c0_3])] [F0, F1, F2] [] w7) := HL0.out.below b1
  clear b1 HL0 HS0 he_0 z0 z1 z2 z3
  go_wp2_with fail
  refine (HS1.out w7 l0 (HL8.out.fo F1 mem_1) HLF0.out.1 HLF0.out.2.1).mono ?_
  rintro e w9 ⟨rfl, b1⟩
  rw [he_1]
  have HL10 : Hid (Law W [(W.heap.size, [.int .i64 x0_0, .int .i64 x0_1, .string x0_2, .slice a0_3 n0_3 c0_3])] [F0, F1, F2] [] w9) := HL8.out.below b1
  clear b1 HL8 HS1 he_1
  have cc := HL10.out.cell (W.heap.size) _ mem_0
  have z0 := cc 0 _ rfl
  have z1 := cc 1 _ rfl
  have z2 := cc 2 _ rfl
  have z3 := cc 3 _ rfl
  clear cc
  go_wp2_with fail
  refine (HTo0.out w9 (HL10.out.fo F0 mem_0)).mono ?_
  rintro e w11 ⟨md0_3, me0_3, Gm0, rfl, g1, b2⟩
  have HL12 : Hid (Law W [(W.heap.size, [.int .i64 x0_0, .int .i64 x0_1, .string x0_2, .slice a0_3 n0_3 c0_3])] [Gm0, F0, F1, F2] [(w9.heap.size, Gm0)] w11) := (HL10.out.below b2.out).adds g1.out.2.2
  have HVGm0 : Hid (Gm0.vals = [.int .i64 x0_0, .int .i64 x0_1, .string x0_2, .slice md0_3 n0_3 me0_3] ∧ Gm0.sim F0) := ⟨g1.out.1, g1.out.2.1⟩
  clear g1 b2 HL10 z0 z1 z2 z3
  go_wp2_with fail
  refine (HTo1.out w11 (HL12.out.fo F1 mem_2)).mono ?_
  rintro e w13 ⟨md1, me1, Gm1, rfl, g1, b2⟩
  have HL14 : Hid (Law W [(W.heap.size, [.int .i64 x0_0, .int .i64 x0_1, .string x0_2, .slice a0_3 n0_3 c0_3])] [Gm1, Gm0, F0, F1, F2] [(w11.heap.size, Gm1), (w9.heap.size, Gm0)] w13) := (HL12.out.below b2.out).adds g1.out.2.2
  have HVGm1 : Hid (Gm1.vals = [.slice md1 n1 me1] ∧ Gm1.sim F1) := ⟨g1.out.1, g1.out.2.1⟩
  clear g1 b2 HL12
  go_wp2_with fail
  refine (HTo2.out w13 (HL14.out.fo F2 mem_4)).mono ?_
  rintro e w15 ⟨md2, me2, Gm2, rfl, g1, b2⟩
  have HL16 : Hid (Law W [(W.heap.size, [.int .i64 x0_0, .int .i64 x0_1, .string x0_2, .slice a0_3 n0_3 c0_3])] [Gm2, Gm1, Gm0, F0, F1, F2] [(w13.heap.size, Gm2), (w11.heap.size, Gm1), (w9.heap.size, Gm0)] w15) := (HL14.out.below b2.out).adds g1.out.2.2
  have HVGm2 : Hid (Gm2.vals = [.slice md2 n2 me2] ∧ Gm2.sim F2) := ⟨g1.out.1, g1.out.2.1⟩
  clear g1 b2 HL14
  have HC := hide (HMo.out w15 md0_3 me0_3 Gm0 _ md1 me1 Gm1 _ md2 me2 Gm2 _ ⟨HVGm0.out.1, HVGm0.out.2, HL16.out.ow (_, Gm0) mem_2⟩ ⟨HVGm1.out.1, HVGm1.out.2, HL16.out.ow (_, Gm1) mem_1⟩ ⟨HVGm2.out.1, HVGm2.out.2, HL16.out.ow (_, Gm2) mem_0⟩)
  go_wp2_with fail
  refine HC.out.mono ?_
  rintro e w17 ⟨par_1, par_5, qar_1, qar_5, R0, rfl, r0, b3⟩
  obtain ⟨V18, hV⟩ : ∃ V, w17.alloc (.cells #[.int .i64 y0, .slice par_1 ym1 qar_1, .int .i64 y2, .int .i64 y3, .string y4, .slice par_5 ym5 qar_5] 51) = V := ⟨_, rfl⟩
  have HL19 : Hid (Law W [(w17.heap.size, [.int .i64 y0, .slice par_1 ym1 qar_1, .int .i64 y2, .int .i64 y3, .string y4, .slice par_5 ym5 qar_5]), (W.heap.size, [.int .i64 x0_0, .int .i64 x0_1, .string x0_2, .slice a0_3 n0_3 c0_3])] [R0, F0, F1, F2] [] V18) := by unfold Hid; rw [← hV]; exact (((HL16.out.below b3.out).drop (fun _ x => x) (allc mem_3 (allc mem_4 (all1 mem_5))) (fun p hp => absurd hp List.not_mem_nil)).add r0.out.2.2).box _ _
  have HR0 : Hid (R0.vals = [.int .i64 y0, .slice par_1 ym1 qar_1, .int .i64 y2, .int .i64 y3, .string y4, .slice par_5 ym5 qar_5] ∧ R0.sim AN ∧ ∀ c ∈ R0.inn, c < w17.heap.size) := ⟨r0.out.1, r0.out.2.1, r0.out.2.2.inn_of⟩
  have HZ0 : Hid (V18.heap.size = w17.heap.size + 1 ∧ W.heap.size ≤ w17.heap.size ∧ W.heap.size < w17.heap.size) := ⟨by rw [← hV]; simp, (HL16.out.below b3.out).be.size, (HL16.out.below b3.out).lt (W.heap.size) _ mem_0⟩
  have HV := hide hV
  clear HC HL16 r0 b3 hV HVGm0 HVGm1 HVGm2
  go_upto_region 11 with fail
  rw [HV.out]
  clear HV
  have cc := HL19.out.cell (W.heap.size) _ mem_1
  have z0 := cc 0 _ rfl
  have z1 := cc 1 _ rfl
  have z2 := cc 2 _ rfl
  have z3 := cc 3 _ rfl
  clear cc
  go_wp2_with fail
  refine (HTo0.out V18 (HL19.out.fo F0 mem_1)).mono ?_
  rintro e w20 ⟨xd0_3, xe0_3, X0, rfl, g1, b2⟩
  have HX0 : Hid (X0.vals = [.int .i64 x0_0, .int .i64 x0_1, .string x0_2, .slice xd0_3 n0_3 xe0_3] ∧ X0.sim F0 ∧ ∀ c ∈ X0.inn, V18.heap.size ≤ c ∧ c < w20.heap.size) := ⟨g1.out.1, g1.out.2.1, g1.out.2.2.subs.inn_of⟩
  obtain ⟨V21, hV⟩ : ∃ V, w20.alloc (.cells #[.int .i64 x0_0, .int .i64 x0_1, .string x0_2, .slice xd0_3 n0_3 xe0_3] 29) = V := ⟨_, rfl⟩
  have HL22 : Hid (Law W [(w20.heap.size, [.int .i64 x0_0, .int .i64 x0_1, .string x0_2, .slice xd0_3 n0_3 xe0_3]), (w17.heap.size, [.int .i64 y0, .slice par_1 ym1 qar_1, .int .i64 y2, .int .i64 y3, .string y4, .slice par_5 ym5 qar_5]), (W.heap.size, [.int .i64 x0_0, .int .i64 x0_1, .string x0_2, .slice a0_3 n0_3 c0_3])] [X0, R0, F0, F1, F2] [(V18.heap.size, X0)] V21) := by unfold Hid; rw [← hV]; exact ((HL19.out.below b2.out).adds g1.out.2.2).box _ _
  have HZ1 : Hid (V21.heap.size = w20.heap.size + 1 ∧ V18.heap.size ≤ w20.heap.size) := ⟨by rw [← hV]; simp, b2.out.size⟩
  have HV := hide hV
  clear g1 b2 hV HL19 z0 z1 z2 z3
  go_upto_region 12 with fail
  rw [HV.out]
  clear HV
  go_wp2_with fail
  refine (HTo1.out V21 (HL22.out.fo F1 mem_3)).mono ?_
  rintro e w23 ⟨xd1, xe1, X1, rfl, g1, b2⟩
  have HX1 : Hid (X1.vals = [.slice xd1 n1 xe1] ∧ X1.sim F1 ∧ ∀ c ∈ X1.inn, V21.heap.size ≤ c ∧ c < w23.heap.size) := ⟨g1.out.1, g1.out.2.1, g1.out.2.2.subs.inn_of⟩
  have HL24 : Hid (Law W [(w20.heap.size, [.int .i64 x0_0, .int .i64 x0_1, .string x0_2, .slice xd0_3 n0_3 xe0_3]), (w17.heap.size, [.int .i64 y0, .slice par_1 ym1 qar_1, .int .i64 y2, .int .i64 y3, .string y4, .slice par_5 ym5 qar_5]), (W.heap.size, [.int .i64 x0_0, .int .i64 x0_1, .string x0_2, .slice a0_3 n0_3 c0_3])] [X1, X0, R0, F0, F1, F2] [(V21.heap.size, X1), (V18.heap.size, X0)] w23) := (HL22.out.below b2.out).adds g1.out.2.2
  have HZ2 : Hid (V21.heap.size ≤ w23.heap.size) := b2.out.size
  clear g1 b2 HL22
  go_wp2_with fail
  refine (HTo2.out w23 (HL24.out.fo F2 mem_5)).mono ?_
  rintro e w25 ⟨xd2, xe2, X2, rfl, g1, b2⟩
  have HX2 : Hid (X2.vals = [.slice xd2 n2 xe2] ∧ X2.sim F2 ∧ ∀ c ∈ X2.inn, w23.heap.size ≤ c ∧ c < w25.heap.size) := ⟨g1.out.1, g1.out.2.1, g1.out.2.2.subs.inn_of⟩
  have HL26 : Hid (Law W [(w20.heap.size, [.int .i64 x0_0, .int .i64 x0_1, .string x0_2, .slice xd0_3 n0_3 xe0_3]), (w17.heap.size, [.int .i64 y0, .slice par_1 ym1 qar_1, .int .i64 y2, .int .i64 y3, .string y4, .slice par_5 ym5 qar_5]), (W.heap.size, [.int .i64 x0_0, .int .i64 x0_1, .string x0_2, .slice a0_3 n0_3 c0_3])] [X2, X1, X0, R0, F0, F1, F2] [(w23.heap.size, X2), (V21.heap.size, X1), (V18.heap.size, X0)] w25) := (HL24.out.below b2.out).adds g1.out.2.2
  have HZ3 : Hid (w23.heap.size ≤ w25.heap.size) := b2.out.size
  clear g1 b2 HL24
  have cc := HL26.out.cell (w20.heap.size) _ mem_0
  have z0_0 := cc 0 _ rfl
  have z0_1 := cc 1 _ rfl
  have z0_2 := cc 2 _ rfl
  have z0_3 := cc 3 _ rfl
  clear cc
  have HC := hide (HPr.out w25 xd0_3 xe0_3 X0 _ xd1 xe1 X1 _ xd2 xe2 X2 _ ⟨HX0.out.1, HX0.out.2.1, HL26.out.ow (_, X0) mem_2⟩ ⟨HX1.out.1, HX1.out.2.1, HL26.out.ow (_, X1) mem_1⟩ ⟨HX2.out.1, HX2.out.2.1, HL26.out.ow (_, X2) mem_0⟩)
  go_wp2_with fail
  refine HC.out.mono ?_
  rintro e w27 ⟨pbr_1, pbr_5, qbr_1, qbr_5, R1, rfl, r1, b5⟩
  obtain ⟨V28, hV⟩ : ∃ V, w27.alloc (.cells #[.int .i64 y0, .slice pbr_1 ym1 qbr_1, .int .i64 y2, .int .i64 y3, .string y4, .slice pbr_5 ym5 qbr_5] 51) = V := ⟨_, rfl⟩
  have HL29 : Hid (Law W [(w27.heap.size, [.int .i64 y0, .slice pbr_1 ym1 qbr_1, .int .i64 y2, .int .i64 y3, .string y4, .slice pbr_5 ym5 qbr_5]), (w20.heap.size, [.int .i64 x0_0, .int .i64 x0_1, .string x0_2, .slice xd0_3 n0_3 xe0_3]), (w17.heap.size, [.int .i64 y0, .slice par_1 ym1 qar_1, .int .i64 y2, .int .i64 y3, .string y4, .slice par_5 ym5 qar_5]), (W.heap.size, [.int .i64 x0_0, .int .i64 x0_1, .string x0_2, .slice a0_3 n0_3 c0_3])] [R1, X2, X1, X0, R0, F0, F1, F2] [(w25.heap.size, R1), (w23.heap.size, X2), (V21.heap.size, X1), (V18.heap.size, X0)] V28) := by unfold Hid; rw [← hV]; exact ((HL26.out.below b5.out).adds r1.out.2.2).box _ _
  have HR1 : Hid (R1.vals = [.int .i64 y0, .slice pbr_1 ym1 qbr_1, .int .i64 y2, .int .i64 y3, .string y4, .slice pbr_5 ym5 qbr_5] ∧ R1.sim AN ∧ ∀ c ∈ R1.inn, w25.heap.size ≤ c ∧ c < w27.heap.size) := ⟨r1.out.1, r1.out.2.1, r1.out.2.2.subs.inn_of⟩
  have HZ9 : Hid (V28.heap.size = w27.heap.size + 1 ∧ w25.heap.size ≤ w27.heap.size) := ⟨by rw [← hV]; simp, b5.out.size⟩
  have HV := hide hV
  clear HC HL26 r1 b5 hV z0_0 z0_1 z0_2 z0_3
  go_upto_region 15 with fail
  rw [HV.out]
  clear HV
  have cc := HL29.out.cell (w27.heap.size) _ mem_0
  have z0 := cc 0 _ rfl
  have z1 := cc 1 _ rfl
  have z2 := cc 2 _ rfl
  have z3 := cc 3 _ rfl
  have z4 := cc 4 _ rfl
  have z5 := cc 5 _ rfl
  clear cc
  have cc := HL29.out.cell (w17.heap.size) _ mem_2
  have u0 := cc 0 _ rfl
  have u1 := cc 1 _ rfl
  have u2 := cc 2 _ rfl
  have u3 := cc 3 _ rfl
  have u4 := cc 4 _ rfl
  have u5 := cc 5 _ rfl
  clear cc
  have HC := hide (HEr.out V28 pbr_1 pbr_5 qbr_1 qbr_5 par_1 par_5 qar_1 qar_5 R1 R0 ⟨HR1.out.1, HR1.out.2.1, HL29.out.fo R1 mem_0⟩ ⟨HR0.out.1, HR0.out.2.1, HL29.out.fo R0 mem_4⟩)
  go_wp2_with fail
  refine HC.out.mono ?_
  rintro e w30 ⟨rfl, b6⟩
  have HL31 : Hid (Law W [(w27.heap.size, [.int .i64 y0, .slice pbr_1 ym1 qbr_1, .int .i64 y2, .int .i64 y3, .string y4, .slice pbr_5 ym5 qbr_5]), (w20.heap.size, [.int .i64 x0_0, .int .i64 x0_1, .string x0_2, .slice xd0_3 n0_3 xe0_3]), (w17.heap.size, [.int .i64 y0, .slice par_1 ym1 qar_1, .int .i64 y2, .int .i64 y3, .string y4, .slice par_5 ym5 qar_5]), (W.heap.size, [.int .i64 x0_0, .int .i64 x0_1, .string x0_2, .slice a0_3 n0_3 c0_3])] [R1, X2, X1, X0, R0, F0, F1, F2] [(w25.heap.size, R1), (w23.heap.size, X2), (V21.heap.size, X1), (V18.heap.size, X0)] w30) := HL29.out.below b6.out
  clear HC HL29 b6 z0 z1 z2 z3 z4 z5 u0 u1 u2 u3 u4 u5
  go_upto_region 17 with fail
  have cc := HL31.out.cell (W.heap.size) _ mem_3
  have z0 := cc 0 _ rfl
  have z1 := cc 1 _ rfl
  have z2 := cc 2 _ rfl
  have z3 := cc 3 _ rfl
  clear cc
  have cc := HL31.out.cell (w20.heap.size) _ mem_1
  have u0 := cc 0 _ rfl
  have u1 := cc 1 _ rfl
  have u2 := cc 2 _ rfl
  have u3 := cc 3 _ rfl
  clear cc
  have HSQ : Hid (∀ V, Below w30.heap.size w30 V → V.cell? ⟨W.heap.size, 0, none⟩ = some (.int .i64 x0_0) ∧ V.cell? ⟨W.heap.size, 1, none⟩ = some (.int .i64 x0_1) ∧ V.cell? ⟨W.heap.size, 2, none⟩ = some (.string x0_2) ∧ V.cell? ⟨W.heap.size, 3, none⟩ = some (.slice a0_3 n0_3 c0_3) ∧ V.cell? ⟨w20.heap.size, 0, none⟩ = some (.int .i64 x0_0) ∧ V.cell? ⟨w20.heap.size, 1, none⟩ = some (.int .i64 x0_1) ∧ V.cell? ⟨w20.heap.size, 2, none⟩ = some (.string x0_2) ∧ V.cell? ⟨w20.heap.size, 3, none⟩ = some (.slice xd0_3 n0_3 xe0_3)) := fun V hb => by
    have hl := HL31.out.below hb
    have cz := hl.cell (W.heap.size) _ mem_3
    have cu := hl.cell (w20.heap.size) _ mem_1
    exact ⟨cz 0 _ rfl, cz 1 _ rfl, cz 2 _ rfl, cz 3 _ rfl, cu 0 _ rfl, cu 1 _ rfl, cu 2 _ rfl, cu 3 _ rfl⟩
  have HDR : Hid (Below w30.heap.size w30 w30.drew) := (Below.refl _ _).drew
  have k0' := HSQ.out w30.drew HDR.out
  have HT6 : Hid (Calls Try.prog 11 #[.agg #[.int .i64 x0_0, .int .i64 x0_1, .string x0_2, .slice a0_3 n0_3 c0_3]] w30.drew fun e w' => ∃ (d0_3 : Option Addr) (e0_3 : Nat) (G : Fo), e = .returned (.agg #[.int .i64 x0_0, .int .i64 x0_1, .string x0_2, .slice d0_3 n0_3 e0_3]) ∧ Hid (G.vals = [.int .i64 x0_0, .int .i64 x0_1, .string x0_2, .slice d0_3 n0_3 e0_3] ∧ G.sim F0 ∧ G.Subs w' (fun c => c < w'.heap.size)) ∧ Hid (Below w30.heap.size w30 w')) := (HTo0.out w30.drew ((HL31.out.below HDR.out).fo F0 mem_5)).mono (by
    rintro e w' ⟨d0_3, e0_3, G, g1, g2, g3⟩
    exact ⟨d0_3, e0_3, G, g1, ⟨g2.out.1, g2.out.2.1, g2.out.2.2.subs.mono (fun _ x => x.2)⟩, HDR.out.trans g3.out⟩)
  have HE6 : Hid (∀ w8 (d0_3 : Option Addr) (e0_3 : Nat) (G : Fo), Hid (G.vals = [.int .i64 x0_0, .int .i64 x0_1, .string x0_2, .slice d0_3 n0_3 e0_3] ∧ G.sim F0 ∧ G.Subs w8 (fun c => c < w8.heap.size)) → Hid (Below w30.heap.size w30 w8) → Calls Try.prog 13 #[.agg #[.int .i64 x0_0, .int .i64 x0_1, .string x0_2, .slice xd0_3 n0_3 xe0_3], .agg #[.int .i64 x0_0, .int .i64 x0_1, .string x0_2, .slice d0_3 n0_3 e0_3]] w8 fun e w' => e = .returned (.bool true) ∧ Hid (Below w30.heap.size w30 w')) := fun w8 d0_3 e0_3 G hg hb => (HEa0.out w8 xd0_3 xe0_3 d0_3 e0_3 X0 G ⟨HX0.out.1, HX0.out.2.1, (HL31.out.below hb.out).fo X0 mem_3⟩ hg).mono (fun e w' h => ⟨h.1, hb.out.trans (h.2.out.mono hb.out.size)⟩)
  go_cut [55] (fun s wx => s = .bool false ∧ Below w30.heap.size w30 wx)
  case first =>
    go_region_held3 (fun V => V.cell? ⟨W.heap.size, 0, none⟩ = some (.int .i64 x0_0) ∧ V.cell? ⟨W.heap.size, 1, none⟩ = some (.int .i64 x0_1) ∧ V.cell? ⟨W.heap.size, 2, none⟩ = some (.string x0_2) ∧ V.cell? ⟨W.heap.size, 3, none⟩ = some (.slice a0_3 n0_3 c0_3) ∧ V.cell? ⟨w20.heap.size, 0, none⟩ = some (.int .i64 x0_0) ∧ V.cell? ⟨w20.heap.size, 1, none⟩ = some (.int .i64 x0_1) ∧ V.cell? ⟨w20.heap.size, 2, none⟩ = some (.string x0_2) ∧ V.cell? ⟨w20.heap.size, 3, none⟩ = some (.slice xd0_3 n0_3 xe0_3))
      (first | with_reducible exact k9' | with_reducible exact k8' | with_reducible exact k0')
      (first
        | (go_at_call 11; refine HT6.out.mono ?_; rintro e w8 ⟨yd0_3, ye0_3, Gx, rfl, g3, b8⟩; have k8' := HSQ.out w8 b8.out)
        | (go_at_call 13; refine (HE6.out w8 yd0_3 ye0_3 Gx g3 b8).mono ?_; rintro e w9 ⟨rfl, b9⟩; have k9' := HSQ.out w9 b9.out))
    all_goals
      go_wp2_with fail
      go_meet
      case rel => exact ⟨rfl, b9.out⟩
  case rest =>
    obtain ⟨rfl, hcb⟩ := hcut
    rename World => w32
    have HL33 : Hid (Law W [(w27.heap.size, [.int .i64 y0, .slice pbr_1 ym1 qbr_1, .int .i64 y2, .int .i64 y3, .string y4, .slice pbr_5 ym5 qbr_5]), (w20.heap.size, [.int .i64 x0_0, .int .i64 x0_1, .string x0_2, .slice xd0_3 n0_3 xe0_3]), (w17.heap.size, [.int .i64 y0, .slice par_1 ym1 qar_1, .int .i64 y2, .int .i64 y3, .string y4, .slice par_5 ym5 qar_5]), (W.heap.size, [.int .i64 x0_0, .int .i64 x0_1, .string x0_2, .slice a0_3 n0_3 c0_3])] [R1, X2, X1, X0, R0, F0, F1, F2] [(w25.heap.size, R1), (w23.heap.size, X2), (V21.heap.size, X1), (V18.heap.size, X0)] w32) := HL31.out.below hcb
    clear hcb HL31 HSQ HDR HT6 HE6 k0' z0 z1 z2 z3 u0 u1 u2 u3
    go_wp2_with fail
    refine (HTo1.out w32 (HL33.out.fo F1 mem_6)).mono ?_
    rintro e w34 ⟨yd1, ye1, Gy, rfl, g1, b2⟩
    have HL35 : Hid (Law W [(w27.heap.size, [.int .i64 y0, .slice pbr_1 ym1 qbr_1, .int .i64 y2, .int .i64 y3, .string y4, .slice pbr_5 ym5 qbr_5]), (w20.heap.size, [.int .i64 x0_0, .int .i64 x0_1, .string x0_2, .slice xd0_3 n0_3 xe0_3]), (w17.heap.size, [.int .i64 y0, .slice par_1 ym1 qar_1, .int .i64 y2, .int .i64 y3, .string y4, .slice par_5 ym5 qar_5]), (W.heap.size, [.int .i64 x0_0, .int .i64 x0_1, .string x0_2, .slice a0_3 n0_3 c0_3])] [Gy, R1, X2, X1, X0, R0, F0, F1, F2] [(w25.heap.size, R1), (w23.heap.size, X2), (V21.heap.size, X1), (V18.heap.size, X0)] w34) := (HL33.out.below b2.out).add (g1.out.2.2.subs.mono (fun _ x => x.2))
    have HC := hide (HEa1.out w34 xd1 xe1 yd1 ye1 X1 Gy ⟨HX1.out.1, HX1.out.2.1, HL35.out.fo X1 mem_3⟩ ⟨g1.out.1, g1.out.2.1, HL35.out.fo Gy mem_0⟩)
    go_wp2_with fail
    refine HC.out.mono ?_
    rintro e w36 ⟨rfl, b4⟩
    have HL37 : Hid (Law W [(w27.heap.size, [.int .i64 y0, .slice pbr_1 ym1 qbr_1, .int .i64 y2, .int .i64 y3, .string y4, .slice pbr_5 ym5 qbr_5]), (w20.heap.size, [.int .i64 x0_0, .int .i64 x0_1, .string x0_2, .slice xd0_3 n0_3 xe0_3]), (w17.heap.size, [.int .i64 y0, .slice par_1 ym1 qar_1, .int .i64 y2, .int .i64 y3, .string y4, .slice par_5 ym5 qar_5]), (W.heap.size, [.int .i64 x0_0, .int .i64 x0_1, .string x0_2, .slice a0_3 n0_3 c0_3])] [R1, X2, X1, X0, R0, F0, F1, F2] [(w25.heap.size, R1), (w23.heap.size, X2), (V21.heap.size, X1), (V18.heap.size, X0)] w36) := (HL35.out.below b4.out).drop (fun _ x => x) (by intro G hG; exact List.mem_cons_of_mem _ hG) (fun _ x => x)
    clear HC HL33 HL35 g1 b2 b4
    go_wp2_with fail
    refine (HTo2.out w36 (HL37.out.fo F2 mem_7)).mono ?_
    rintro e w38 ⟨yd2, ye2, Gy, rfl, g1, b2⟩
    have HL39 : Hid (Law W [(w27.heap.size, [.int .i64 y0, .slice pbr_1 ym1 qbr_1, .int .i64 y2, .int .i64 y3, .string y4, .slice pbr_5 ym5 qbr_5]), (w20.heap.size, [.int .i64 x0_0, .int .i64 x0_1, .string x0_2, .slice xd0_3 n0_3 xe0_3]), (w17.heap.size, [.int .i64 y0, .slice par_1 ym1 qar_1, .int .i64 y2, .int .i64 y3, .string y4, .slice par_5 ym5 qar_5]), (W.heap.size, [.int .i64 x0_0, .int .i64 x0_1, .string x0_2, .slice a0_3 n0_3 c0_3])] [Gy, R1, X2, X1, X0, R0, F0, F1, F2] [(w25.heap.size, R1), (w23.heap.size, X2), (V21.heap.size, X1), (V18.heap.size, X0)] w38) := (HL37.out.below b2.out).add (g1.out.2.2.subs.mono (fun _ x => x.2))
    have HC := hide (HEa2.out w38 xd2 xe2 yd2 ye2 X2 Gy ⟨HX2.out.1, HX2.out.2.1, HL39.out.fo X2 mem_2⟩ ⟨g1.out.1, g1.out.2.1, HL39.out.fo Gy mem_0⟩)
    go_wp2_with fail
    refine HC.out.mono ?_
    rintro e w40 ⟨rfl, b4⟩
    have HL41 : Hid (Law W [(w27.heap.size, [.int .i64 y0, .slice pbr_1 ym1 qbr_1, .int .i64 y2, .int .i64 y3, .string y4, .slice pbr_5 ym5 qbr_5]), (w20.heap.size, [.int .i64 x0_0, .int .i64 x0_1, .string x0_2, .slice xd0_3 n0_3 xe0_3]), (w17.heap.size, [.int .i64 y0, .slice par_1 ym1 qar_1, .int .i64 y2, .int .i64 y3, .string y4, .slice par_5 ym5 qar_5]), (W.heap.size, [.int .i64 x0_0, .int .i64 x0_1, .string x0_2, .slice a0_3 n0_3 c0_3])] [R1, X2, X1, X0, R0, F0, F1, F2] [(w25.heap.size, R1), (w23.heap.size, X2), (V21.heap.size, X1), (V18.heap.size, X0)] w40) := (HL39.out.below b4.out).drop (fun _ x => x) (by intro G hG; exact List.mem_cons_of_mem _ hG) (fun _ x => x)
    clear HC HL37 HL39 g1 b2 b4
    have cc := HL41.out.cell (w20.heap.size) _ mem_1
    have z0 := cc 0 _ rfl
    have z1 := cc 1 _ rfl
    have z2 := cc 2 _ rfl
    have z3 := cc 3 _ rfl
    clear cc
    have HC := hide (HMa0.out w40 xd0_3 xe0_3 X0 _ HX0.out.1 HX0.out.2.1 (HL41.out.ow (_, X0) mem_3))
    go_wp2_with fail
    refine HC.out.mono ?_
    rintro e w42 ⟨rfl, k10⟩
    have HL43 : Hid (Law W [(w27.heap.size, [.int .i64 y0, .slice pbr_1 ym1 qbr_1, .int .i64 y2, .int .i64 y3, .string y4, .slice pbr_5 ym5 qbr_5]), (w20.heap.size, [.int .i64 x0_0, .int .i64 x0_1, .string x0_2, .slice xd0_3 n0_3 xe0_3]), (w17.heap.size, [.int .i64 y0, .slice par_1 ym1 qar_1, .int .i64 y2, .int .i64 y3, .string y4, .slice par_5 ym5 qar_5]), (W.heap.size, [.int .i64 x0_0, .int .i64 x0_1, .string x0_2, .slice a0_3 n0_3 c0_3])] [R1, X2, X1, R0, F0, F1, F2] [(w25.heap.size, R1), (w23.heap.size, X2), (V21.heap.size, X1)] w42) := by 
      have h0 := HR0.out.2.2
      have h1 := HR1.out.2.2
      have hF0 := HFin0.out
      have hF1 := HFin1.out
      have hF2 := HFin2.out
      have hX0 := HX0.out.2.2
      have hX1 := HX1.out.2.2
      have hX2 := HX2.out.2.2
      have zz0 := HZ0.out
      have zz1 := HZ1.out
      have zz2 := HZ2.out
      have zz3 := HZ3.out
      have zz4 := HZ9.out
      refine (HL41.out.drop (fun _ x => x) (allc mem_0 (allc mem_1 (allc mem_2 (allc mem_4 (allc mem_5 (allc mem_6 (all1 mem_7))))))) (allc mem_0 (allc mem_1 (all1 mem_2)))).kept k10.out (fun c hc hx => by have := hX0 _ hx; omega) (allc (fun hx => by have := hX0 _ hx; omega) (allc (fun hx => by have := hX0 _ hx; omega) (allc (fun hx => by have := hX0 _ hx; omega) (all1 (fun hx => by have := hX0 _ hx; omega))))) (allc (fun c hc hx => by have := hX0 _ hx; have := h1 _ hc; omega) (allc (fun c hc hx => by have := hX0 _ hx; have := hX2 _ hc; omega) (allc (fun c hc hx => by have := hX0 _ hx; have := hX1 _ hc; omega) (allc (fun c hc hx => by have := hX0 _ hx; have := h0 _ hc; omega) (allc (fun c hc hx => by have := hX0 _ hx; have := hF0 _ hc; omega) (allc (fun c hc hx => by have := hX0 _ hx; have := hF1 _ hc; omega) (all1 (fun c hc hx => by have := hX0 _ hx; have := hF2 _ hc; omega)))))))) (allc (fun c hc _ hx => by have := hX0 _ hx; omega) (allc (fun c hc _ hx => by have := hX0 _ hx; omega) (all1 (fun c hc _ hx => by have := hX0 _ hx; omega))))
    clear HC HL41 k10 z0 z1 z2 z3
    have HC := hide (HMa1.out w42 xd1 xe1 X1 _ HX1.out.1 HX1.out.2.1 (HL43.out.ow (_, X1) mem_2))
    go_wp2_with fail
    refine HC.out.mono ?_
    rintro e w44 ⟨rfl, k10⟩
    have HL45 : Hid (Law W [(w27.heap.size, [.int .i64 y0, .slice pbr_1 ym1 qbr_1, .int .i64 y2, .int .i64 y3, .string y4, .slice pbr_5 ym5 qbr_5]), (w20.heap.size, [.int .i64 x0_0, .int .i64 x0_1, .string x0_2, .slice xd0_3 n0_3 xe0_3]), (w17.heap.size, [.int .i64 y0, .slice par_1 ym1 qar_1, .int .i64 y2, .int .i64 y3, .string y4, .slice par_5 ym5 qar_5]), (W.heap.size, [.int .i64 x0_0, .int .i64 x0_1, .string x0_2, .slice a0_3 n0_3 c0_3])] [R1, X2, R0, F0, F1, F2] [(w25.heap.size, R1), (w23.heap.size, X2)] w44) := by 
      have h0 := HR0.out.2.2
      have h1 := HR1.out.2.2
      have hF0 := HFin0.out
      have hF1 := HFin1.out
      have hF2 := HFin2.out
      have hX0 := HX0.out.2.2
      have hX1 := HX1.out.2.2
      have hX2 := HX2.out.2.2
      have zz0 := HZ0.out
      have zz1 := HZ1.out
      have zz2 := HZ2.out
      have zz3 := HZ3.out
      have zz4 := HZ9.out
      refine (HL43.out.drop (fun _ x => x) (allc mem_0 (allc mem_1 (allc mem_3 (allc mem_4 (allc mem_5 (all1 mem_6)))))) (allc mem_0 (all1 mem_1))).kept k10.out (fun c hc hx => by have := hX1 _ hx; omega) (allc (fun hx => by have := hX1 _ hx; omega) (allc (fun hx => by have := hX1 _ hx; omega) (allc (fun hx => by have := hX1 _ hx; omega) (all1 (fun hx => by have := hX1 _ hx; omega))))) (allc (fun c hc hx => by have := hX1 _ hx; have := h1 _ hc; omega) (allc (fun c hc hx => by have := hX1 _ hx; have := hX2 _ hc; omega) (allc (fun c hc hx => by have := hX1 _ hx; have := h0 _ hc; omega) (allc (fun c hc hx => by have := hX1 _ hx; have := hF0 _ hc; omega) (allc (fun c hc hx => by have := hX1 _ hx; have := hF1 _ hc; omega) (all1 (fun c hc hx => by have := hX1 _ hx; have := hF2 _ hc; omega))))))) (allc (fun c hc _ hx => by have := hX1 _ hx; omega) (all1 (fun c hc _ hx => by have := hX1 _ hx; omega)))
    clear HC HL43 k10
    have HC := hide (HMa2.out w44 xd2 xe2 X2 _ HX2.out.1 HX2.out.2.1 (HL45.out.ow (_, X2) mem_1))
    go_wp2_with fail
    refine HC.out.mono ?_
    rintro e w46 ⟨rfl, k10⟩
    have HL47 : Hid (Law W [(w27.heap.size, [.int .i64 y0, .slice pbr_1 ym1 qbr_1, .int .i64 y2, .int .i64 y3, .string y4, .slice pbr_5 ym5 qbr_5]), (w20.heap.size, [.int .i64 x0_0, .int .i64 x0_1, .string x0_2, .slice xd0_3 n0_3 xe0_3]), (w17.heap.size, [.int .i64 y0, .slice par_1 ym1 qar_1, .int .i64 y2, .int .i64 y3, .string y4, .slice par_5 ym5 qar_5]), (W.heap.size, [.int .i64 x0_0, .int .i64 x0_1, .string x0_2, .slice a0_3 n0_3 c0_3])] [R1, R0, F0, F1, F2] [(w25.heap.size, R1)] w46) := by 
      have h0 := HR0.out.2.2
      have h1 := HR1.out.2.2
      have hF0 := HFin0.out
      have hF1 := HFin1.out
      have hF2 := HFin2.out
      have hX0 := HX0.out.2.2
      have hX1 := HX1.out.2.2
      have hX2 := HX2.out.2.2
      have zz0 := HZ0.out
      have zz1 := HZ1.out
      have zz2 := HZ2.out
      have zz3 := HZ3.out
      have zz4 := HZ9.out
      refine (HL45.out.drop (fun _ x => x) (allc mem_0 (allc mem_2 (allc mem_3 (allc mem_4 (all1 mem_5))))) (all1 mem_0)).kept k10.out (fun c hc hx => by have := hX2 _ hx; omega) (allc (fun hx => by have := hX2 _ hx; omega) (allc (fun hx => by have := hX2 _ hx; omega) (allc (fun hx => by have := hX2 _ hx; omega) (all1 (fun hx => by have := hX2 _ hx; omega))))) (allc (fun c hc hx => by have := hX2 _ hx; have := h1 _ hc; omega) (allc (fun c hc hx => by have := hX2 _ hx; have := h0 _ hc; omega) (allc (fun c hc hx => by have := hX2 _ hx; have := hF0 _ hc; omega) (allc (fun c hc hx => by have := hX2 _ hx; have := hF1 _ hc; omega) (all1 (fun c hc hx => by have := hX2 _ hx; have := hF2 _ hc; omega)))))) (all1 (fun c hc _ hx => by have := hX2 _ hx; omega))
    clear HC HL45 k10
    go_upto_region 27 with fail
    have cc := HL47.out.cell (w27.heap.size) _ mem_0
    have z0 := cc 0 _ rfl
    have z1 := cc 1 _ rfl
    have z2 := cc 2 _ rfl
    have z3 := cc 3 _ rfl
    have z4 := cc 4 _ rfl
    have z5 := cc 5 _ rfl
    clear cc
    have cc := HL47.out.cell (w17.heap.size) _ mem_2
    have u0 := cc 0 _ rfl
    have u1 := cc 1 _ rfl
    have u2 := cc 2 _ rfl
    have u3 := cc 3 _ rfl
    have u4 := cc 4 _ rfl
    have u5 := cc 5 _ rfl
    clear cc
    have HC := hide (HEr.out w46 pbr_1 pbr_5 qbr_1 qbr_5 par_1 par_5 qar_1 qar_5 R1 R0 ⟨HR1.out.1, HR1.out.2.1, HL47.out.fo R1 mem_0⟩ ⟨HR0.out.1, HR0.out.2.1, HL47.out.fo R0 mem_1⟩)
    go_wp2_with fail
    refine HC.out.mono ?_
    rintro e w48 ⟨rfl, b6⟩
    have HL49 : Hid (Law W [(w27.heap.size, [.int .i64 y0, .slice pbr_1 ym1 qbr_1, .int .i64 y2, .int .i64 y3, .string y4, .slice pbr_5 ym5 qbr_5]), (w20.heap.size, [.int .i64 x0_0, .int .i64 x0_1, .string x0_2, .slice xd0_3 n0_3 xe0_3]), (w17.heap.size, [.int .i64 y0, .slice par_1 ym1 qar_1, .int .i64 y2, .int .i64 y3, .string y4, .slice par_5 ym5 qar_5]), (W.heap.size, [.int .i64 x0_0, .int .i64 x0_1, .string x0_2, .slice a0_3 n0_3 c0_3])] [R1, R0, F0, F1, F2] [(w25.heap.size, R1)] w48) := HL47.out.below b6.out
    clear HC HL47 b6 z0 z1 z2 z3 z4 z5 u0 u1 u2 u3 u4 u5
    have cc := HL49.out.cell (w27.heap.size) _ mem_0
    have z0 := cc 0 _ rfl
    have z1 := cc 1 _ rfl
    have z2 := cc 2 _ rfl
    have z3 := cc 3 _ rfl
    have z4 := cc 4 _ rfl
    have z5 := cc 5 _ rfl
    clear cc
    have HC := hide (HMr.out w48 pbr_1 pbr_5 qbr_1 qbr_5 R1 _ ⟨HR1.out.1, HR1.out.2.1, HL49.out.ow (_, R1) mem_0⟩)
    go_wp2_with fail
    refine HC.out.mono ?_
    rintro e w50 ⟨rfl, m12, k12⟩
    have HL51 : Hid (Law W [(w27.heap.size, [.int .i64 y0, .slice pbr_1 ym1 qbr_1, .int .i64 y2, .int .i64 y3, .string y4, .slice pbr_5 ym5 qbr_5]), (w20.heap.size, [.int .i64 x0_0, .int .i64 x0_1, .string x0_2, .slice xd0_3 n0_3 xe0_3]), (w17.heap.size, [.int .i64 y0, .slice par_1 ym1 qar_1, .int .i64 y2, .int .i64 y3, .string y4, .slice par_5 ym5 qar_5]), (W.heap.size, [.int .i64 x0_0, .int .i64 x0_1, .string x0_2, .slice a0_3 n0_3 c0_3])] [R1.mks 1, R0, F0, F1, F2] [] w50) := by 
      have h0 := HR0.out.2.2
      have h1 := HR1.out.2.2
      have hF0 := HFin0.out
      have hF1 := HFin1.out
      have hF2 := HFin2.out
      have zz0 := HZ0.out
      have zz1 := HZ1.out
      have zz2 := HZ2.out
      have zz3 := HZ3.out
      have zz4 := HZ9.out
      refine Law.add ((HL49.out.drop (fun _ x => x) (allc mem_1 (allc mem_2 (allc mem_3 (all1 mem_4)))) (fun p hp => absurd hp List.not_mem_nil)).kept k12.out (fun c hc hx => by have := h1 c hx; omega) (allc (fun hx => by have := h1 _ hx; omega) (allc (fun hx => by have := h1 _ hx; omega) (allc (fun hx => by have := h1 _ hx; omega) (all1 (fun hx => by have := h1 _ hx; omega))))) (allc (fun c hc hx => by have := h1 _ hx; have := h0 _ hc; omega) (allc (fun c hc hx => by have := h1 _ hx; have := hF0 _ hc; omega) (allc (fun c hc hx => by have := h1 _ hx; have := hF1 _ hc; omega) (all1 (fun c hc hx => by have := h1 _ hx; have := hF2 _ hc; omega))))) (fun p hp => absurd hp List.not_mem_nil)) m12.out
    clear HC HL49 m12 k12 z0 z1 z2 z3 z4 z5
    have cc := HL51.out.cell (w27.heap.size) _ mem_0
    have z0 := cc 0 _ rfl
    have z1 := cc 1 _ rfl
    have z2 := cc 2 _ rfl
    have z3 := cc 3 _ rfl
    have z4 := cc 4 _ rfl
    have z5 := cc 5 _ rfl
    clear cc
    have HC := hide (HHr.out w50 pbr_1 pbr_5 qbr_1 qbr_5 R1 HR1.out.1 HR1.out.2.1 (HL51.out.fo _ mem_0))
    go_wp2_with fail
    refine HC.out.mono ?_
    rintro e w52 ⟨rfl, b13⟩
    have HL53 : Hid (Law W [(w27.heap.size, [.int .i64 y0, .slice pbr_1 ym1 qbr_1, .int .i64 y2, .int .i64 y3, .string y4, .slice pbr_5 ym5 qbr_5]), (w20.heap.size, [.int .i64 x0_0, .int .i64 x0_1, .string x0_2, .slice xd0_3 n0_3 xe0_3]), (w17.heap.size, [.int .i64 y0, .slice par_1 ym1 qar_1, .int .i64 y2, .int .i64 y3, .string y4, .slice par_5 ym5 qar_5]), (W.heap.size, [.int .i64 x0_0, .int .i64 x0_1, .string x0_2, .slice a0_3 n0_3 c0_3])] [R1.mks 1, R0, F0, F1, F2] [] w52) := HL51.out.below b13.out
    clear HC HL51 b13 z0 z1 z2 z3 z4 z5
    have cc := HL53.out.cell (W.heap.size) _ mem_3
    have z0 := cc 0 _ rfl
    have z1 := cc 1 _ rfl
    have z2 := cc 2 _ rfl
    have z3 := cc 3 _ rfl
    clear cc
    go_wp2_with fail
    refine (HTo0.out w52 (HL53.out.fo F0 mem_2)).mono ?_
    rintro e w54 ⟨hd0_3, he0_3, Gh0, rfl, g1, b2⟩
    have HL55 : Hid (Law W [(w27.heap.size, [.int .i64 y0, .slice pbr_1 ym1 qbr_1, .int .i64 y2, .int .i64 y3, .string y4, .slice pbr_5 ym5 qbr_5]), (w20.heap.size, [.int .i64 x0_0, .int .i64 x0_1, .string x0_2, .slice xd0_3 n0_3 xe0_3]), (w17.heap.size, [.int .i64 y0, .slice par_1 ym1 qar_1, .int .i64 y2, .int .i64 y3, .string y4, .slice par_5 ym5 qar_5]), (W.heap.size, [.int .i64 x0_0, .int .i64 x0_1, .string x0_2, .slice a0_3 n0_3 c0_3])] [Gh0, R1.mks 1, R0, F0, F1, F2] [(w52.heap.size, Gh0)] w54) := (HL53.out.below b2.out).adds g1.out.2.2
    have HVGh0 : Hid (Gh0.vals = [.int .i64 x0_0, .int .i64 x0_1, .string x0_2, .slice hd0_3 n0_3 he0_3] ∧ Gh0.sim F0) := ⟨g1.out.1, g1.out.2.1⟩
    clear g1 b2 HL53 z0 z1 z2 z3
    go_wp2_with fail
    refine (HTo1.out w54 (HL55.out.fo F1 mem_4)).mono ?_
    rintro e w56 ⟨hd1, he1, Gh1, rfl, g1, b2⟩
    have HL57 : Hid (Law W [(w27.heap.size, [.int .i64 y0, .slice pbr_1 ym1 qbr_1, .int .i64 y2, .int .i64 y3, .string y4, .slice pbr_5 ym5 qbr_5]), (w20.heap.size, [.int .i64 x0_0, .int .i64 x0_1, .string x0_2, .slice xd0_3 n0_3 xe0_3]), (w17.heap.size, [.int .i64 y0, .slice par_1 ym1 qar_1, .int .i64 y2, .int .i64 y3, .string y4, .slice par_5 ym5 qar_5]), (W.heap.size, [.int .i64 x0_0, .int .i64 x0_1, .string x0_2, .slice a0_3 n0_3 c0_3])] [Gh1, Gh0, R1.mks 1, R0, F0, F1, F2] [(w54.heap.size, Gh1), (w52.heap.size, Gh0)] w56) := (HL55.out.below b2.out).adds g1.out.2.2
    have HVGh1 : Hid (Gh1.vals = [.slice hd1 n1 he1] ∧ Gh1.sim F1) := ⟨g1.out.1, g1.out.2.1⟩
    clear g1 b2 HL55
    go_wp2_with fail
    refine (HTo2.out w56 (HL57.out.fo F2 mem_6)).mono ?_
    rintro e w58 ⟨hd2, he2, Gh2, rfl, g1, b2⟩
    have HL59 : Hid (Law W [(w27.heap.size, [.int .i64 y0, .slice pbr_1 ym1 qbr_1, .int .i64 y2, .int .i64 y3, .string y4, .slice pbr_5 ym5 qbr_5]), (w20.heap.size, [.int .i64 x0_0, .int .i64 x0_1, .string x0_2, .slice xd0_3 n0_3 xe0_3]), (w17.heap.size, [.int .i64 y0, .slice par_1 ym1 qar_1, .int .i64 y2, .int .i64 y3, .string y4, .slice par_5 ym5 qar_5]), (W.heap.size, [.int .i64 x0_0, .int .i64 x0_1, .string x0_2, .slice a0_3 n0_3 c0_3])] [Gh2, Gh1, Gh0, R1.mks 1, R0, F0, F1, F2] [(w56.heap.size, Gh2), (w54.heap.size, Gh1), (w52.heap.size, Gh0)] w58) := (HL57.out.below b2.out).adds g1.out.2.2
    have HVGh2 : Hid (Gh2.vals = [.slice hd2 n2 he2] ∧ Gh2.sim F2) := ⟨g1.out.1, g1.out.2.1⟩
    clear g1 b2 HL57
    have HC := hide (HPr.out w58 hd0_3 he0_3 Gh0 _ hd1 he1 Gh1 _ hd2 he2 Gh2 _ ⟨HVGh0.out.1, HVGh0.out.2, HL59.out.ow (_, Gh0) mem_2⟩ ⟨HVGh1.out.1, HVGh1.out.2, HL59.out.ow (_, Gh1) mem_1⟩ ⟨HVGh2.out.1, HVGh2.out.2, HL59.out.ow (_, Gh2) mem_0⟩)
    go_wp2_with fail
    refine HC.out.mono ?_
    rintro e w60 ⟨pdr_1, pdr_5, qdr_1, qdr_5, R2, rfl, r2, b15⟩
    obtain ⟨V61, hV⟩ : ∃ V, w60.alloc (.cells #[.int .i64 y0, .slice pdr_1 ym1 qdr_1, .int .i64 y2, .int .i64 y3, .string y4, .slice pdr_5 ym5 qdr_5] 51) = V := ⟨_, rfl⟩
    have HL62 : Hid (Law W [(w60.heap.size, [.int .i64 y0, .slice pdr_1 ym1 qdr_1, .int .i64 y2, .int .i64 y3, .string y4, .slice pdr_5 ym5 qdr_5]), (w27.heap.size, [.int .i64 y0, .slice pbr_1 ym1 qbr_1, .int .i64 y2, .int .i64 y3, .string y4, .slice pbr_5 ym5 qbr_5]), (w20.heap.size, [.int .i64 x0_0, .int .i64 x0_1, .string x0_2, .slice xd0_3 n0_3 xe0_3]), (w17.heap.size, [.int .i64 y0, .slice par_1 ym1 qar_1, .int .i64 y2, .int .i64 y3, .string y4, .slice par_5 ym5 qar_5]), (W.heap.size, [.int .i64 x0_0, .int .i64 x0_1, .string x0_2, .slice a0_3 n0_3 c0_3])] [R2, R1.mks 1, R0, F0, F1, F2] [] V61) := by unfold Hid; rw [← hV]; exact (((HL59.out.below b15.out).drop (fun _ x => x) (allc mem_3 (allc mem_4 (allc mem_5 (allc mem_6 (all1 mem_7))))) (fun p hp => absurd hp List.not_mem_nil)).add (r2.out.2.2.subs.mono (fun _ x => x.2))).box _ _
    have HR2 : Hid (R2.vals = [.int .i64 y0, .slice pdr_1 ym1 qdr_1, .int .i64 y2, .int .i64 y3, .string y4, .slice pdr_5 ym5 qdr_5] ∧ R2.sim AN) := ⟨r2.out.1, r2.out.2.1⟩
    have HV := hide hV
    clear HC HL59 r2 b15 hV HVGh0 HVGh1 HVGh2
    go_upto_region 38 with fail
    rw [HV.out]
    clear HV
    have cc := HL62.out.cell (w60.heap.size) _ mem_0
    have z0 := cc 0 _ rfl
    have z1 := cc 1 _ rfl
    have z2 := cc 2 _ rfl
    have z3 := cc 3 _ rfl
    have z4 := cc 4 _ rfl
    have z5 := cc 5 _ rfl
    clear cc
    have cc := HL62.out.cell (w17.heap.size) _ mem_3
    have u0 := cc 0 _ rfl
    have u1 := cc 1 _ rfl
    have u2 := cc 2 _ rfl
    have u3 := cc 3 _ rfl
    have u4 := cc 4 _ rfl
    have u5 := cc 5 _ rfl
    clear cc
    have HC := hide (HEr.out V61 pdr_1 pdr_5 qdr_1 qdr_5 par_1 par_5 qar_1 qar_5 R2 R0 ⟨HR2.out.1, HR2.out.2, HL62.out.fo R2 mem_0⟩ ⟨HR0.out.1, HR0.out.2.1, HL62.out.fo R0 mem_2⟩)
    go_wp2_with fail
    refine HC.out.mono ?_
    rintro e w63 ⟨rfl, b6⟩
    have HL64 : Hid (Law W [(w60.heap.size, [.int .i64 y0, .slice pdr_1 ym1 qdr_1, .int .i64 y2, .int .i64 y3, .string y4, .slice pdr_5 ym5 qdr_5]), (w27.heap.size, [.int .i64 y0, .slice pbr_1 ym1 qbr_1, .int .i64 y2, .int .i64 y3, .string y4, .slice pbr_5 ym5 qbr_5]), (w20.heap.size, [.int .i64 x0_0, .int .i64 x0_1, .string x0_2, .slice xd0_3 n0_3 xe0_3]), (w17.heap.size, [.int .i64 y0, .slice par_1 ym1 qar_1, .int .i64 y2, .int .i64 y3, .string y4, .slice par_5 ym5 qar_5]), (W.heap.size, [.int .i64 x0_0, .int .i64 x0_1, .string x0_2, .slice a0_3 n0_3 c0_3])] [R2, R1.mks 1, R0, F0, F1, F2] [] w63) := HL62.out.below b6.out
    clear HC HL62 b6 z0 z1 z2 z3 z4 z5 u0 u1 u2 u3 u4 u5
    have cc := HL64.out.cell (w27.heap.size) _ mem_1
    have z0 := cc 0 _ rfl
    have z1 := cc 1 _ rfl
    have z2 := cc 2 _ rfl
    have z3 := cc 3 _ rfl
    have z4 := cc 4 _ rfl
    have z5 := cc 5 _ rfl
    clear cc
    have HC := hide (HHr.out w63 pbr_1 pbr_5 qbr_1 qbr_5 R1 HR1.out.1 HR1.out.2.1 (HL64.out.fo _ mem_1))
    go_wp2_with fail
    refine HC.out.mono ?_
    rintro e w65 ⟨rfl, b13⟩
    have HL66 : Hid (Law W [(w60.heap.size, [.int .i64 y0, .slice pdr_1 ym1 qdr_1, .int .i64 y2, .int .i64 y3, .string y4, .slice pdr_5 ym5 qdr_5]), (w27.heap.size, [.int .i64 y0, .slice pbr_1 ym1 qbr_1, .int .i64 y2, .int .i64 y3, .string y4, .slice pbr_5 ym5 qbr_5]), (w20.heap.size, [.int .i64 x0_0, .int .i64 x0_1, .string x0_2, .slice xd0_3 n0_3 xe0_3]), (w17.heap.size, [.int .i64 y0, .slice par_1 ym1 qar_1, .int .i64 y2, .int .i64 y3, .string y4, .slice par_5 ym5 qar_5]), (W.heap.size, [.int .i64 x0_0, .int .i64 x0_1, .string x0_2, .slice a0_3 n0_3 c0_3])] [R2, R1.mks 1, R0, F0, F1, F2] [] w65) := HL64.out.below b13.out
    clear HC HL64 b13 z0 z1 z2 z3 z4 z5
    go_wp2_with fail
    go_ret
    exact ⟨rfl, HL66.out.be⟩

end Go.Proofs.Ytcnbnhoeobdbnaa.U
