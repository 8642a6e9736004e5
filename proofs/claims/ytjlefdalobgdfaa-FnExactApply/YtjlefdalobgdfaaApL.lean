import Derived.Test.YtjlefdalobgdfaaJA
import Derived.Test.YtjlefdalobgdfaaUx
import Derived.Test.YtjlefdalobgdfaaKb
import Derived.Test.YtjlefdalobgdfaaJT
import Derived.Test.YtjlefdalobgdfaaKEqType
import Derived.Test.YtjlefdalobgdfaaJM
import Derived.Deep.RegionHeld3
import Derived.Deep.DeepCutAuto
namespace Go.Proofs.Ytjlefdalobgdfaa.U
open Go.RowKit Go.Joins

set_option maxHeartbeats 16000000 in
set_option maxRecDepth 100000 in
theorem lawApply (a0 : Option Addr) (n0 c0 : Nat) (K0 : Fo) (F1 : Fo) (W : World) (hf0 : Fit E (.s a0 n0 c0 K0 .nil) [.s 1]) (hf1 : Fit E F1 (E 0)) (hs0 : Fo.Subs W (fun b => b < W.heap.size) (.s a0 n0 c0 K0 .nil)) (hs1 : F1.Subs W (fun b => b < W.heap.size)) :
    Calls Try.prog 6 #[.slice a0 n0 c0, .agg F1.vals.toArray] W fun e W' => e = .returned (.bool true) ∧ Below W.heap.size W W' := by
  obtain ⟨F0, hF0⟩ : ∃ F0 : Fo, F0 = .s a0 n0 c0 K0 .nil := ⟨_, rfl⟩
  rw [← hF0] at hf0 hs0
  have hv0 : F0.vals = [.slice a0 n0 c0] := by rw [hF0]; rfl
  have HMx0 : Hid (n0 ≤ 9223372036854775807) := by have h1 := hs0; rw [hF0] at h1; have h2 := h1.1.1; have h3 := h1.1.2.1; simp only [maxLen] at h3; unfold Hid; omega
  have HFi0 := hide hf0
  have HFin0 : Hid (∀ c ∈ F0.inn, c < W.heap.size) := hs0.inn_of
  have hv1 : ∃ (x1_0 : Int) (x1_1 : Int) (x1_2 : ByteArray) (a1_3 : Option Addr) (c1_3 : Nat) (n1_3 : Nat), F1.vals = [.int .i64 x1_0, .int .i64 x1_1, .string x1_2, .slice a1_3 n1_3 c1_3] ∧ ∀ G : Fo, G.sim F1 → ∃ (d1_3 : Option Addr) (e1_3 : Nat), G.vals = [.int .i64 x1_0, .int .i64 x1_1, .string x1_2, .slice d1_3 n1_3 e1_3] := by
    replace hf : Fit E F1 [.i, .i, .t, .s 0] := hf1
    clear hf1 hs1
    revert hf
    generalize F1 = F
    intro hf
    obtain ⟨x0, F0, rfl, -, hf⟩ := fit_i hf
    obtain ⟨x1, F1, rfl, -, hf⟩ := fit_i hf
    obtain ⟨x2, F2, rfl, -, hf⟩ := fit_t hf
    obtain ⟨a3, n3, c3, k3, F3, rfl, -, hf⟩ := fit_s hf
    obtain rfl := fit_nil hf
    refine ⟨x0, x1, x2, a3, c3, n3, rfl, fun G s_0 => ?_⟩
    obtain ⟨u0, rfl, s_1⟩ := Fo.sim_v s_0
    obtain ⟨u1, rfl, s_2⟩ := Fo.sim_v s_1
    obtain ⟨u2, rfl, s_3⟩ := Fo.sim_v s_2
    obtain ⟨d3, e3, t3, u3, rfl, -, s_4⟩ := Fo.sim_s s_3
    obtain rfl := Fo.sim_nil s_4
    exact ⟨d3, e3, rfl⟩
  obtain ⟨x1_0, x1_1, x1_2, a1_3, c1_3, n1_3, hv1, hG1⟩ := hv1
  have HFi1 := hide hf1
  have HFin1 : Hid (∀ c ∈ F1.inn, c < W.heap.size) := hs1.inn_of
  have HS0 : Hid (∀ V (left : Int), F0.Subs V (fun c => c < V.heap.size) → 0 ≤ left → left ≤ 1048576 → Calls Try.prog 22 #[.slice a0 n0 c0, .int .i64 left] V fun e w' => e = .returned (.int .i64 (szV left F0.wt)) ∧ Below V.heap.size V w') := fun V left hV h0 h1 => szR_rec sz_R_BindS hF0 HFi0.out left h0 h1 V hV
  have HS1 : Hid (∀ V (left : Int), F1.Subs V (fun c => c < V.heap.size) → 0 ≤ left → left ≤ 1048576 → Calls Try.prog 9 #[.agg #[.int .i64 x1_0, .int .i64 x1_1, .string x1_2, .slice a1_3 n1_3 c1_3], .int .i64 left] V fun e w' => e = .returned (.int .i64 (szV left F1.wt)) ∧ Below V.heap.size V w') := fun V left hV h0 h1 => szC_rec sz_C_Type_all hv1 HFi1.out left h0 h1 V hV
  obtain ⟨A, hA⟩ : ∃ A, W.alloc (.cells #[.int .i64 x1_0, .int .i64 x1_1, .string x1_2, .slice a1_3 n1_3 c1_3] 24) = A := ⟨_, rfl⟩
  have HL0 : Hid (Law W [(W.heap.size, [.int .i64 x1_0, .int .i64 x1_1, .string x1_2, .slice a1_3 n1_3 c1_3])] [F0, F1] [] A) := by have h := ((((Law.start W).add hs1).add hs0).box [.int .i64 x1_0, .int .i64 x1_1, .string x1_2, .slice a1_3 n1_3 c1_3] 24); rw [hA] at h; exact h
  have HA := hide hA
  rw [hv1]
  show Calls Try.prog 6 #[.slice a0 n0 c0, .agg #[.int .i64 x1_0, .int .i64 x1_1, .string x1_2, .slice a1_3 n1_3 c1_3]] W _
  clear hA
  by_cases g9_0 : (1048576 : Int) < ((F0.wt : Nat) : Int)
  · have hend := szV_lt g9_0
    have hx0 := HMx0.out
    go_enter Try.func6, Try.ntmps6
    go_wp2_with fail
    rw [HA.out]
    refine (HS0.out A 1048576 (HL0.out.fo F0 mem_0) (by omega) (by omega)).mono ?_
    rintro e w1 ⟨rfl, b1⟩
    rw [hend]
    have HL2 : Hid (Law W [(W.heap.size, [.int .i64 x1_0, .int .i64 x1_1, .string x1_2, .slice a1_3 n1_3 c1_3])] [F0, F1] [] w1) := HL0.out.below b1
    clear b1
    go_wp2_with fail
    go_ret
    exact ⟨rfl, HL2.out.be⟩
  obtain ⟨l0, hl0⟩ : ∃ l0 : Int, l0 = 1048576 - F0.wt := ⟨_, rfl⟩
  have he_0 : szV 1048576 F0.wt = l0 := by rw [szV_ge g9_0, hl0]
  have hge_0 : ¬ l0 < 0 := by omega
  have HLF0 : Hid (0 ≤ l0 ∧ l0 ≤ 1048576 ∧ F0.wt ≤ 1048576) := ⟨by omega, by omega, by omega⟩
  clear hl0 g9_0
  by_cases g9_1 : (l0 : Int) < ((F1.wt : Nat) : Int)
  · have hend := szV_lt g9_1
    have hx0 := HMx0.out
    go_enter Try.func6, Try.ntmps6
    go_wp2_with fail
    rw [HA.out]
    refine (HS0.out A 1048576 (HL0.out.fo F0 mem_0) (by omega) (by omega)).mono ?_
    rintro e w3 ⟨rfl, b1⟩
    rw [he_0]
    have HL4 : Hid (Law W [(W.heap.size, [.int .i64 x1_0, .int .i64 x1_1, .string x1_2, .slice a1_3 n1_3 c1_3])] [F0, F1] [] w3) := HL0.out.below b1
    clear b1
    have cc := HL4.out.cell (W.heap.size) _ mem_0
    have z0 := cc 0 _ rfl
    have z1 := cc 1 _ rfl
    have z2 := cc 2 _ rfl
    have z3 := cc 3 _ rfl
    clear cc
    go_wp2_with fail
    refine (HS1.out w3 l0 (HL4.out.fo F1 mem_1) HLF0.out.1 HLF0.out.2.1).mono ?_
    rintro e w5 ⟨rfl, b1⟩
    rw [hend]
    have HL6 : Hid (Law W [(W.heap.size, [.int .i64 x1_0, .int .i64 x1_1, .string x1_2, .slice a1_3 n1_3 c1_3])] [F0, F1] [] w5) := HL4.out.below b1
    clear b1 z0 z1 z2 z3
    go_wp2_with fail
    go_ret
    exact ⟨rfl, HL6.out.be⟩
  obtain ⟨l1, hl1⟩ : ∃ l1 : Int, l1 = l0 - F1.wt := ⟨_, rfl⟩
  have he_1 : szV l0 F1.wt = l1 := by rw [szV_ge g9_1, hl1]
  have hge_1 : ¬ l1 < 0 := by omega
  have hprev := HLF0.out
  have HLF1 : Hid (0 ≤ l1 ∧ l1 ≤ 1048576 ∧ F1.wt ≤ 1048576) := ⟨by omega, by have := HLF0.out; omega, by omega⟩
  clear hl1 g9_1 hprev
  have hwt0 : F0.wt ≤ 1048576 := HLF0.out.2.2
  have hwt1 : F1.wt ≤ 1048576 := HLF1.out.2.2
  obtain ⟨AN, hAN⟩ : ∃ AN : Fo, AN = aU F0 F1 := ⟨_, rfl⟩
  have hAF : Fit E AN (E 0) := by rw [hAN]; exact (aU_fit hf0 hf1).1
  have hbA : AN.sct ≤ 1048577 := by rw [hAN]; exact (aU_fit hf0 hf1).2
  have hr : ∃ (y0 : Int) (y1 : Int) (y2 : ByteArray) (ym3 : Nat), ∀ G : Fo, G.sim AN → ∃ (dr_3 : Option Addr) (er_3 : Nat), G.vals = [.int .i64 y0, .int .i64 y1, .string y2, .slice dr_3 ym3 er_3] := by
    replace hf : Fit E AN [.i, .i, .t, .s 0] := hAF
    clear hAN hbA hAF
    obtain ⟨y0, F0, rfl, -, hf⟩ := fit_i hf
    obtain ⟨y1, F1, rfl, -, hf⟩ := fit_i hf
    obtain ⟨y2, F2, rfl, -, hf⟩ := fit_t hf
    obtain ⟨a3, n3, c3, k3, F3, rfl, -, hf⟩ := fit_s hf
    obtain rfl := fit_nil hf
    refine ⟨y0, y1, y2, n3, fun G s_0 => ?_⟩
    obtain ⟨u0, rfl, s_1⟩ := Fo.sim_v s_0
    obtain ⟨u1, rfl, s_2⟩ := Fo.sim_v s_1
    obtain ⟨u2, rfl, s_3⟩ := Fo.sim_v s_2
    obtain ⟨d3, e3, t3, u3, rfl, -, s_4⟩ := Fo.sim_s s_3
    obtain rfl := Fo.sim_nil s_4
    exact ⟨d3, e3, rfl⟩
  obtain ⟨y0, y1, y2, ym3, hR⟩ := hr
  have HTo0 : Hid (∀ V, F0.Subs V (fun c => c < V.heap.size) → Calls Try.prog 24 #[.slice a0 n0 c0] V fun e w' => ∃ (d0 : Option Addr) (e0 : Nat) (G : Fo), e = .returned (.slice d0 n0 e0) ∧ Hid (G.vals = [.slice d0 n0 e0] ∧ G.sim F0 ∧ Own V.heap.size w' G) ∧ Hid (Below V.heap.size V w')) := fun V hV => by
    exact toR_rec to_R_BindS hF0 HFi0.out hwt0 V hV
  have HEa0 : Hid (∀ V (d0 : Option Addr) (e0 : Nat) (p0 : Option Addr) (q0 : Nat) (Q R : Fo), Hid (Q.vals = [.slice d0 n0 e0] ∧ Q.sim F0 ∧ Q.Subs V (fun c => c < V.heap.size)) → Hid (R.vals = [.slice p0 n0 q0] ∧ R.sim F0 ∧ R.Subs V (fun c => c < V.heap.size)) → Calls Try.prog 26 #[.slice d0 n0 e0, .slice p0 n0 q0] V fun e w' => e = .returned (.bool true) ∧ Hid (Below V.heap.size V w')) := fun V d0 e0 p0 q0 Q R h h2 => eqR_rec eq_R_BindS hF0 HFi0.out V d0 e0 p0 q0 Q R h h2
  have HTo1 : Hid (∀ V, F1.Subs V (fun c => c < V.heap.size) → Calls Try.prog 11 #[.agg #[.int .i64 x1_0, .int .i64 x1_1, .string x1_2, .slice a1_3 n1_3 c1_3]] V fun e w' => ∃ (d1_3 : Option Addr) (e1_3 : Nat) (G : Fo), e = .returned (.agg #[.int .i64 x1_0, .int .i64 x1_1, .string x1_2, .slice d1_3 n1_3 e1_3]) ∧ Hid (G.vals = [.int .i64 x1_0, .int .i64 x1_1, .string x1_2, .slice d1_3 n1_3 e1_3] ∧ G.sim F1 ∧ Own V.heap.size w' G) ∧ Hid (Below V.heap.size V w')) := fun V hV => by
    refine (toC_rec to_C_Type_all hv1 HFi1.out hwt1 V hV).mono ?_
    rintro e w' ⟨G, rfl, g1, g3, g2⟩
    obtain ⟨d1_3, e1_3, g4⟩ := hG1 G g1
    exact ⟨d1_3, e1_3, G, by rw [g4], ⟨g4, g1, g3⟩, g2⟩
  have HEa1 : Hid (∀ V (d1_3 : Option Addr) (e1_3 : Nat) (p1_3 : Option Addr) (q1_3 : Nat) (Q R : Fo), Hid (Q.vals = [.int .i64 x1_0, .int .i64 x1_1, .string x1_2, .slice d1_3 n1_3 e1_3] ∧ Q.sim F1 ∧ Q.Subs V (fun c => c < V.heap.size)) → Hid (R.vals = [.int .i64 x1_0, .int .i64 x1_1, .string x1_2, .slice p1_3 n1_3 q1_3] ∧ R.sim F1 ∧ R.Subs V (fun c => c < V.heap.size)) → Calls Try.prog 13 #[.agg #[.int .i64 x1_0, .int .i64 x1_1, .string x1_2, .slice d1_3 n1_3 e1_3], .agg #[.int .i64 x1_0, .int .i64 x1_1, .string x1_2, .slice p1_3 n1_3 q1_3]] V fun e w' => e = .returned (.bool true) ∧ Hid (Below V.heap.size V w')) := fun V d1_3 e1_3 p1_3 q1_3 Q R h h2 => eqC_rec eq_C_Type_all HFi1.out V _ _ Q R h h2
  have HMo : Hid (∀ V (d0 : Option Addr) (e0 : Nat) (G0 : Fo) (lo0 : Nat) (d1_3 : Option Addr) (e1_3 : Nat) (G1 : Fo) (lo1 : Nat), Hid (G0.vals = [.slice d0 n0 e0] ∧ G0.sim F0 ∧ Own lo0 V G0) → Hid (G1.vals = [.int .i64 x1_0, .int .i64 x1_1, .string x1_2, .slice d1_3 n1_3 e1_3] ∧ G1.sim F1 ∧ Own lo1 V G1) → Calls Try.prog 23 #[.slice d0 n0 e0, .agg #[.int .i64 x1_0, .int .i64 x1_1, .string x1_2, .slice d1_3 n1_3 e1_3]] V fun e w' => ∃ (pr_3 : Option Addr) (qr_3 : Nat) (R : Fo), e = .returned (.agg #[.int .i64 y0, .int .i64 y1, .string y2, .slice pr_3 ym3 qr_3]) ∧ Hid (R.vals = [.int .i64 y0, .int .i64 y1, .string y2, .slice pr_3 ym3 qr_3] ∧ R.sim AN ∧ R.Subs w' (fun c => V.heap.size ≤ c ∧ c < w'.heap.size)) ∧ Hid (Below V.heap.size V w')) := fun V d0 e0 G0 lo0 d1_3 e1_3 G1 lo1 h0 h1 => by
    obtain ⟨v0, s0', o0⟩ := h0.out
    obtain ⟨K0', rfl, -⟩ := rec_of (by have h := s0'; rw [hF0] at h; exact h) v0
    obtain ⟨v1, s1', o1⟩ := h1.out
    have h := m_Apply2 d0 n0 e0 K0' G1 V (s0'.fit HFi0.out) (s1'.fit HFi1.out) (by rw [s0'.wt]; exact hwt0) (by rw [s1'.wt]; exact hwt1)  (o0.subs.mono (fun _ x => x.2)) (o1.subs.mono (fun _ x => x.2))
    rw [v1] at h
    refine h.mono ?_
    rintro e w' ⟨R, rfl, r1, r2, r3⟩
    have r5 : R.sim AN := by rw [hAN]; exact r1.trans (aU_sim HFi0.out HFi1.out s0' s1')
    obtain ⟨pr_3, qr_3, r4⟩ := hR R r5
    exact ⟨pr_3, qr_3, R, by rw [r4], ⟨r4, r5, r3⟩, r2⟩
  have HPr : Hid (∀ V (d0 : Option Addr) (e0 : Nat) (G0 : Fo) (lo0 : Nat) (d1_3 : Option Addr) (e1_3 : Nat) (G1 : Fo) (lo1 : Nat), Hid (G0.vals = [.slice d0 n0 e0] ∧ G0.sim F0 ∧ Own lo0 V G0) → Hid (G1.vals = [.int .i64 x1_0, .int .i64 x1_1, .string x1_2, .slice d1_3 n1_3 e1_3] ∧ G1.sim F1 ∧ Own lo1 V G1) → Calls Try.prog 25 #[.slice d0 n0 e0, .agg #[.int .i64 x1_0, .int .i64 x1_1, .string x1_2, .slice d1_3 n1_3 e1_3]] V fun e w' => ∃ (pr_3 : Option Addr) (qr_3 : Nat) (R : Fo), e = .returned (.agg #[.int .i64 y0, .int .i64 y1, .string y2, .slice pr_3 ym3 qr_3]) ∧ Hid (R.vals = [.int .i64 y0, .int .i64 y1, .string y2, .slice pr_3 ym3 qr_3] ∧ R.sim AN ∧ Own V.heap.size w' R) ∧ Hid (Below V.heap.size V w')) := fun V d0 e0 G0 lo0 d1_3 e1_3 G1 lo1 h0 h1 => by
    obtain ⟨v0, s0', o0⟩ := h0.out
    obtain ⟨K0', rfl, -⟩ := rec_of (by have h := s0'; rw [hF0] at h; exact h) v0
    obtain ⟨v1, s1', o1⟩ := h1.out
    have h := i_Apply d0 n0 e0 K0' G1 V (s0'.fit HFi0.out) (s1'.fit HFi1.out) (by rw [s0'.wt]; exact hwt0) (by rw [s1'.wt]; exact hwt1)  (o0.subs.mono (fun _ x => x.2)) (o1.subs.mono (fun _ x => x.2))
    rw [v1] at h
    refine h.mono ?_
    rintro e w' ⟨R, rfl, r1, r2, r3⟩
    have r5 : R.sim AN := by rw [hAN]; exact r1.trans (aU_sim HFi0.out HFi1.out s0' s1')
    obtain ⟨pr_3, qr_3, r4⟩ := hR R r5
    exact ⟨pr_3, qr_3, R, by rw [r4], ⟨r4, r5, r3⟩, r2⟩
  have HEr : Hid (∀ V (dr_3 : Option Addr) (er_3 : Nat) (pr_3 : Option Addr) (qr_3 : Nat) (Q R : Fo), Hid (Q.vals = [.int .i64 y0, .int .i64 y1, .string y2, .slice dr_3 ym3 er_3] ∧ Q.sim AN ∧ Q.Subs V (fun c => c < V.heap.size)) → Hid (R.vals = [.int .i64 y0, .int .i64 y1, .string y2, .slice pr_3 ym3 qr_3] ∧ R.sim AN ∧ R.Subs V (fun c => c < V.heap.size)) → Calls Try.prog 13 #[.agg #[.int .i64 y0, .int .i64 y1, .string y2, .slice dr_3 ym3 er_3], .agg #[.int .i64 y0, .int .i64 y1, .string y2, .slice pr_3 ym3 qr_3]] V fun e w' => e = .returned (.bool true) ∧ Hid (Below V.heap.size V w')) := fun V dr_3 er_3 pr_3 qr_3 Q R h h2 => eqC_rec eq_C_Type_all hAF V _ _ Q R h h2
  have hb0 := (Fit.bounds (M := 8) hEM F0 _ HFi0.out).2.1
  obtain ⟨KA0, hKA0⟩ : ∃ KA : Nat, 1 + F0.sct = KA := ⟨_, rfl⟩
  have hka0 : ¬ (KA0 : Int) < 0 := by omega
  have HMa0 : Hid (∀ V (d0 : Option Addr) (e0 : Nat) (G : Fo) (lo : Nat), G.vals = [.slice d0 n0 e0] → G.sim F0 → Own lo V G → Calls Try.prog 27 #[.slice d0 n0 e0, .int .i64 (1 : Int)] V fun e w' => e = .returned (.int .i64 (KA0 : Int)) ∧ Hid (Kept (fun c => c ∉ G.inn) V w')) := fun V d0 e0 G lo g4 g1 g3 => by
    have h1 := mkR_rec mk_R_BindS hF0 HFi0.out V d0 e0 G lo 1 (by omega) (by omega) g4 g1 g3
    rw [hKA0] at h1
    exact h1.mono (fun e w' h => ⟨h.1, h.2.2⟩)
  have hb1 := (Fit.bounds (M := 8) hEM F1 _ HFi1.out).2.1
  obtain ⟨KA1, hKA1⟩ : ∃ KA : Nat, KA0 + F1.sct = KA := ⟨_, rfl⟩
  have hka1 : ¬ (KA1 : Int) < 0 := by omega
  have HMa1 : Hid (∀ V (d1_3 : Option Addr) (e1_3 : Nat) (G : Fo) (lo : Nat), G.vals = [.int .i64 x1_0, .int .i64 x1_1, .string x1_2, .slice d1_3 n1_3 e1_3] → G.sim F1 → Own lo V G → Calls Try.prog 19 #[.agg #[.int .i64 x1_0, .int .i64 x1_1, .string x1_2, .slice d1_3 n1_3 e1_3], .int .i64 (KA0 : Int)] V fun e w' => e = .returned (.int .i64 (KA1 : Int)) ∧ Hid (Kept (fun c => c ∉ G.inn) V w')) := fun V d1_3 e1_3 G lo g4 g1 g3 => by
    have h1 := mkC_rec mk_C_Type HFi1.out V _ G lo KA0 (by omega) (by omega) g4 g1 g3
    rw [hKA1] at h1
    exact h1.mono (fun e w' h => ⟨h.1, h.2.2⟩)
  obtain ⟨KR, hKR⟩ : ∃ KR : Nat, 1 + AN.sct = KR := ⟨_, rfl⟩
  have hkr : ¬ (KR : Int) < 0 := by omega
  have HMr : Hid (∀ V (dr_3 : Option Addr) (er_3 : Nat) (G : Fo) (lo : Nat), Hid (G.vals = [.int .i64 y0, .int .i64 y1, .string y2, .slice dr_3 ym3 er_3] ∧ G.sim AN ∧ Own lo V G) → Calls Try.prog 19 #[.agg #[.int .i64 y0, .int .i64 y1, .string y2, .slice dr_3 ym3 er_3], .int .i64 1] V fun e w' => e = .returned (.int .i64 (KR : Int)) ∧ Hid ((G.mks 1).Subs w' (fun c => c < w'.heap.size)) ∧ Hid (Kept (fun c => c ∉ G.inn) V w')) := fun V dr_3 er_3 G lo h => by
    obtain ⟨g4, g1, g3⟩ := h.out
    have h1 := mkC_rec mk_C_Type hAF V _ G lo 1 (by omega) (by omega) g4 g1 g3
    rw [hKR] at h1
    exact h1
  have HHr : Hid (∀ V (dr_3 : Option Addr) (er_3 : Nat) (G : Fo), G.vals = [.int .i64 y0, .int .i64 y1, .string y2, .slice dr_3 ym3 er_3] → G.sim AN → (G.mks 1).Subs V (fun c => c < V.heap.size) → Calls Try.prog 28 #[.agg #[.int .i64 y0, .int .i64 y1, .string y2, .slice dr_3 ym3 er_3], .int .i64 1] V fun e w' => e = .returned (.int .i64 (KR : Int)) ∧ Hid (Below V.heap.size V w')) := fun V dr_3 er_3 G g4 g1 g3 => by
    have h1 := hdC_rec hd_C_Type hAF V _ G 1 (by omega) (by omega) g4 g1 g3
    rw [hKR] at h1
    exact h1
  have hx0 := HMx0.out
  clear hR hAF  hAN hbA hKR hv0 hv1 hf0 hs0 hwt0 hb0 hKA0 hf1 hs1 hwt1 hb1 hKA1 hG1 hF0  
  go_enter Try.func6, Try.ntmps6
  go_wp2_with fail
  rw [HA.out]
  clear HA
  refine (HS0.out A 1048576 (HL0.out.fo F0 mem_0) (by omega) (by omega)).mono ?_
  rintro e w7 ⟨rfl, b1⟩
  rw [he_0]
  have HL8 : Hid (Law W [(W.heap.size, [.int .i64 x1_0, .int .i64 x1_1, .string x1_2, .slice a1_3 n1_3 c1_3])] [F0, F1] [] w7) := HL0.out.below b1
  clear b1 HL0 HS0 he_0
  have cc := HL8.out.cell (W.heap.size) _ mem_0
  have z0 := cc 0 _ rfl
  have z1 := cc 1 _ rfl
  have z2 := cc 2 _ rfl
  have z3 := cc 3 _ rfl
  clear cc
  go_wp2_with fail
  refine (HS1.out w7 l0 (HL8.out.fo F1 mem_1) HLF0.out.1 HLF0.out.2.1).mono ?_
  rintro e w9 ⟨rfl, b1⟩
  rw [he_1]
  have HL10 : Hid (Law W [(W.heap.size, [.int .i64 x1_0, .int .i64 x1_1, .string x1_2, .slice a1_3 n1_3 c1_3])] [F0, F1] [] w9) := HL8.out.below b1
  clear b1 HL8 HS1 he_1 z0 z1 z2 z3
  go_upto_region 8 with fail
  have cc := HL10.out.cell (W.heap.size) _ mem_0
  have z1_0 := cc 0 _ rfl
  have z1_1 := cc 1 _ rfl
  have z1_2 := cc 2 _ rfl
  have z1_3 := cc 3 _ rfl
  clear cc
  have HSQ : Hid (∀ V, Below w9.heap.size w9 V → V.cell? ⟨W.heap.size, 0, none⟩ = some (.int .i64 x1_0) ∧ V.cell? ⟨W.heap.size, 1, none⟩ = some (.int .i64 x1_1) ∧ V.cell? ⟨W.heap.size, 2, none⟩ = some (.string x1_2) ∧ V.cell? ⟨W.heap.size, 3, none⟩ = some (.slice a1_3 n1_3 c1_3)) := fun V hb => by
    have hl := HL10.out.below hb
    have cz1 := hl.cell (W.heap.size) _ mem_0
    exact ⟨cz1 0 _ rfl, cz1 1 _ rfl, cz1 2 _ rfl, cz1 3 _ rfl⟩
  have HT0 : Hid (∀ V , Hid (Law W [(W.heap.size, [.int .i64 x1_0, .int .i64 x1_1, .string x1_2, .slice a1_3 n1_3 c1_3])] [F0, F1] [] V) → Hid (Below w9.heap.size w9 V) → Calls Try.prog 24 #[.slice a0 n0 c0] V fun e w' => ∃ v, e = .returned v ∧ ∃ (d0 : Option Addr) (e0 : Nat) (G0 : Fo) (lo0 : Nat), v = .slice d0 n0 e0 ∧ Hid (G0.vals = [.slice d0 n0 e0] ∧ G0.sim F0) ∧ Hid (Law W [(W.heap.size, [.int .i64 x1_0, .int .i64 x1_1, .string x1_2, .slice a1_3 n1_3 c1_3])] [G0, F0, F1] [(lo0, G0)] w') ∧ Hid (Below w9.heap.size w9 w') ∧ Hid (Below V.heap.size V w')) := fun V  hl bV => by
    refine (HTo0.out V (hl.out.fo F0 mem_0)).mono ?_
    rintro e w' ⟨d0, e0, G, rfl, g1, b2⟩
    exact ⟨_, rfl, d0, e0, G, _, rfl, ⟨g1.out.1, g1.out.2.1⟩, (hl.out.below b2.out).adds g1.out.2.2, bV.out.trans (b2.out.mono bV.out.size), b2⟩
  have HT1 : Hid (∀ V (G0 : Fo) (lo0 : Nat), Hid (Law W [(W.heap.size, [.int .i64 x1_0, .int .i64 x1_1, .string x1_2, .slice a1_3 n1_3 c1_3])] [G0, F0, F1] [(lo0, G0)] V) → Hid (Below w9.heap.size w9 V) → Calls Try.prog 11 #[.agg #[.int .i64 x1_0, .int .i64 x1_1, .string x1_2, .slice a1_3 n1_3 c1_3]] V fun e w' => ∃ v, e = .returned v ∧ ∃ (d1_3 : Option Addr) (e1_3 : Nat) (G1 : Fo) (lo1 : Nat), v = .agg #[.int .i64 x1_0, .int .i64 x1_1, .string x1_2, .slice d1_3 n1_3 e1_3] ∧ Hid (G1.vals = [.int .i64 x1_0, .int .i64 x1_1, .string x1_2, .slice d1_3 n1_3 e1_3] ∧ G1.sim F1) ∧ Hid (Law W [(W.heap.size, [.int .i64 x1_0, .int .i64 x1_1, .string x1_2, .slice a1_3 n1_3 c1_3])] [G1, G0, F0, F1] [(lo1, G1), (lo0, G0)] w') ∧ Hid (Below w9.heap.size w9 w') ∧ Hid (Below V.heap.size V w')) := fun V G0 lo0 hl bV => by
    refine (HTo1.out V (hl.out.fo F1 mem_2)).mono ?_
    rintro e w' ⟨d1_3, e1_3, G, rfl, g1, b2⟩
    exact ⟨_, rfl, d1_3, e1_3, G, _, rfl, ⟨g1.out.1, g1.out.2.1⟩, (hl.out.below b2.out).adds g1.out.2.2, bV.out.trans (b2.out.mono bV.out.size), b2⟩
  have HT9 : Hid (∀ V (d0 : Option Addr) (e0 : Nat) (G0 : Fo) (lo0 : Nat) (d1_3 : Option Addr) (e1_3 : Nat) (G1 : Fo) (lo1 : Nat), Hid (G0.vals = [.slice d0 n0 e0] ∧ G0.sim F0) → Hid (G1.vals = [.int .i64 x1_0, .int .i64 x1_1, .string x1_2, .slice d1_3 n1_3 e1_3] ∧ G1.sim F1) → Hid (Law W [(W.heap.size, [.int .i64 x1_0, .int .i64 x1_1, .string x1_2, .slice a1_3 n1_3 c1_3])] [G1, G0, F0, F1] [(lo1, G1), (lo0, G0)] V) → Hid (Below w9.heap.size w9 V) → Calls Try.prog 23 #[.slice d0 n0 e0, .agg #[.int .i64 x1_0, .int .i64 x1_1, .string x1_2, .slice d1_3 n1_3 e1_3]] V fun e w' => ∃ v, e = .returned v ∧ ∃ (pr_3 : Option Addr) (qr_3 : Nat) (R : Fo), v = .agg #[.int .i64 y0, .int .i64 y1, .string y2, .slice pr_3 ym3 qr_3] ∧ Hid (R.vals = [.int .i64 y0, .int .i64 y1, .string y2, .slice pr_3 ym3 qr_3] ∧ R.sim AN) ∧ Hid (R.Subs w' (fun c => V.heap.size ≤ c ∧ c < w'.heap.size)) ∧ Hid (Below w9.heap.size w9 w') ∧ Hid (Below V.heap.size V w')) := fun V d0 e0 G0 lo0 d1_3 e1_3 G1 lo1 hh0 hh1 hl bV => by
    refine (HMo.out V d0 e0 G0 _ d1_3 e1_3 G1 _ ⟨hh0.out.1, hh0.out.2, hl.out.ow (_, G0) mem_1⟩ ⟨hh1.out.1, hh1.out.2, hl.out.ow (_, G1) mem_0⟩).mono ?_
    rintro e w' ⟨pr_3, qr_3, R, rfl, r0, b2⟩
    exact ⟨_, rfl, pr_3, qr_3, R, rfl, ⟨r0.out.1, r0.out.2.1⟩, r0.out.2.2, bV.out.trans (b2.out.mono bV.out.size), b2⟩
  go_cut [6] (fun s wx => ∃ (T0 : Nat) (par_3 : Option Addr) (qar_3 : Nat) (R0 : Fo), s = .pointer (some ⟨T0, 0, none⟩) ∧ Hid (R0.vals = [.int .i64 y0, .int .i64 y1, .string y2, .slice par_3 ym3 qar_3] ∧ R0.sim AN) ∧ Hid (Law W [(T0, [.int .i64 y0, .int .i64 y1, .string y2, .slice par_3 ym3 qar_3]), (W.heap.size, [.int .i64 x1_0, .int .i64 x1_1, .string x1_2, .slice a1_3 n1_3 c1_3])] [R0, F0, F1] [] wx))
  case first =>
    have hL0' : Hid (Law W [(W.heap.size, [.int .i64 x1_0, .int .i64 x1_1, .string x1_2, .slice a1_3 n1_3 c1_3])] [F0, F1] [] w9.drew) := HL10.out.below ⟨rfl, rfl, rfl, Nat.le_refl _, fun _ _ => rfl⟩
    have hB0' : Hid (Below w9.heap.size w9 w9.drew) := ⟨rfl, rfl, rfl, Nat.le_refl _, fun _ _ => rfl⟩
    obtain ⟨y1_0, y1_1, y1_2, y1_3⟩ := HSQ.out (w9.alloc (.cells #[.int .i64 0, .int .i64 0, .string ⟨#[]⟩, .slice none 0 0] 29)) (below_alloc1 _ _)
    go_region_law (first
      | (refine Go.Proofs.Ytjlefdalobgdfaa.step_call (by rfl) 24 #[.slice a0 n0 c0] (by simp [go_sem]) _ (HT0.out _  (by first | exact hL0' | exact hL0'.out.below (below_alloc1 _ _)) (by first | exact hB0' | exact hB0'.out.trans ((below_alloc1 _ _).mono hB0'.out.size))) ?_; rintro v5 wc0 ⟨d0, e0, G0, lo0, rfl, hh0, hL0, hB0, hC0⟩; obtain ⟨z1_0, z1_1, z1_2, z1_3⟩ := HSQ.out wc0 hB0.out; obtain ⟨y1_0, y1_1, y1_2, y1_3⟩ := HSQ.out (wc0.alloc (.cells #[.int .i64 0, .int .i64 0, .string ⟨#[]⟩, .slice none 0 0] 29)) (hB0.out.trans ((below_alloc1 _ _).mono hB0.out.size)); (first | (have bx : Bx wc0 w9.heap.size [.int .i64 0, .int .i64 0, .string ⟨#[]⟩, .slice none 0 0] := (Bx.new w9.drew [.int .i64 0, .int .i64 0, .string ⟨#[]⟩, .slice none 0 0] 29).below hC0.out) | skip))
      | (refine Go.Proofs.Ytjlefdalobgdfaa.step_call (by rfl) 11 #[.agg #[.int .i64 x1_0, .int .i64 x1_1, .string x1_2, .slice a1_3 n1_3 c1_3]] (by simp [go_sem]) _ (HT1.out _ G0 lo0 (by first | exact hL0 | exact hL0.out.below (below_alloc1 _ _)) (by first | exact hB0 | exact hB0.out.trans ((below_alloc1 _ _).mono hB0.out.size))) ?_; rintro v5 wc1 ⟨d1_3, e1_3, G1, lo1, rfl, hh1, hL1, hB1, hC1⟩; obtain ⟨z1_0, z1_1, z1_2, z1_3⟩ := HSQ.out wc1 hB1.out; obtain ⟨y1_0, y1_1, y1_2, y1_3⟩ := HSQ.out (wc1.alloc (.cells #[.int .i64 0, .int .i64 0, .string ⟨#[]⟩, .slice none 0 0] 29)) (hB1.out.trans ((below_alloc1 _ _).mono hB1.out.size)); (first | (have bx := (Bx.new wc0 [.int .i64 0, .int .i64 0, .string ⟨#[]⟩, .slice none 0 0] 29).below hC1.out) | (have bx := bx.below hC1.out) | skip))
      | (refine Go.Proofs.Ytjlefdalobgdfaa.step_call (by rfl) 23 #[.slice d0 n0 e0, .agg #[.int .i64 x1_0, .int .i64 x1_1, .string x1_2, .slice d1_3 n1_3 e1_3]] (by simp [go_sem]) _ (HT9.out _ d0 e0 G0 lo0 d1_3 e1_3 G1 lo1 hh0 hh1 (by first | exact hL1 | exact hL1.out.below (below_alloc1 _ _)) (by first | exact hB1 | exact hB1.out.trans ((below_alloc1 _ _).mono hB1.out.size))) ?_; rintro v5 wc9 ⟨par_3, qar_3, R9, rfl, hh9, hS0, hB9, hC9⟩; obtain ⟨z1_0, z1_1, z1_2, z1_3⟩ := HSQ.out wc9 hB9.out; (first | (have hS := hide (sub_ne (Bx.new wc1 [.int .i64 0, .int .i64 0, .string ⟨#[]⟩, .slice none 0 0] 29) hS0.out); have bx := (Bx.new wc1 [.int .i64 0, .int .i64 0, .string ⟨#[]⟩, .slice none 0 0] 29).below hC9.out) | (have hS := hide (sub_ne bx hS0.out); have bx := bx.below hC9.out) | skip); try (have bcl := bx.cel; have bfr := bx.live; have bc0 := bcl 0 _ rfl; have bc1 := bcl 1 _ rfl; have bc2 := bcl 2 _ rfl; have bc3 := bcl 3 _ rfl; have bf0 := bfr 0; have bf1 := bfr 1; have bf2 := bfr 2; have bf3 := bfr 3; clear bcl bfr)))
    all_goals
      go_wp2_with fail
      go_meet
      case rel =>
        first
          | exact ⟨wc9.heap.size, par_3, qar_3, R9, rfl, hh9, Law.late HL10.out hB9.out hB9.out.size (Kept.alloc _ _ _) (Bx.new _ [.int .i64 y0, .int .i64 y1, .string y2, .slice par_3 ym3 qar_3] 29) (sub_at hS0.out)⟩
          | exact ⟨_, par_3, qar_3, R9, rfl, hh9, Law.late HL10.out hB9.out (by first | exact Nat.le_refl _ | exact hB0.out.size | exact hB1.out.size) (keep4 _ _ _ _ _ _) (fill4 bx _ _ _ _) hS.out⟩
  case rest =>
    obtain ⟨T0, par_3, qar_3, R0, rfl, r0, HLT0⟩ := hcut
    rename World => V11
    clear HSQ HT9 HT0 HT1 z1_0 z1_1 z1_2 z1_3
    have HR0 : Hid (R0.vals = [.int .i64 y0, .int .i64 y1, .string y2, .slice par_3 ym3 qar_3] ∧ R0.sim AN ∧ ∀ c ∈ R0.inn, c < V11.heap.size) := ⟨r0.out.1, r0.out.2, (HLT0.out.fo R0 mem_0).inn_of⟩
    have HZ0 : Hid (T0 < V11.heap.size ∧ W.heap.size ≤ V11.heap.size ∧ W.heap.size < V11.heap.size) := ⟨(HLT0.out.bx _ mem_0).lt, HLT0.out.be.size, (HLT0.out.bx _ mem_1).lt⟩
    clear r0 HL10
    go_upto_region 9 with fail
    go_wp2_with fail
    refine (HTo0.out V11 (HLT0.out.fo F0 mem_1)).mono ?_
    rintro e w12 ⟨xd0, xe0, X0, rfl, g1, b2⟩
    have HX0 : Hid (X0.vals = [.slice xd0 n0 xe0] ∧ X0.sim F0 ∧ ∀ c ∈ X0.inn, V11.heap.size ≤ c ∧ c < w12.heap.size) := ⟨g1.out.1, g1.out.2.1, g1.out.2.2.subs.inn_of⟩
    have HL13 : Hid (Law W [(T0, [.int .i64 y0, .int .i64 y1, .string y2, .slice par_3 ym3 qar_3]), (W.heap.size, [.int .i64 x1_0, .int .i64 x1_1, .string x1_2, .slice a1_3 n1_3 c1_3])] [X0, R0, F0, F1] [(V11.heap.size, X0)] w12) := (HLT0.out.below b2.out).adds g1.out.2.2
    have HZ1 : Hid (V11.heap.size ≤ w12.heap.size) := b2.out.size
    clear g1 b2 HLT0
    have cc := HL13.out.cell (W.heap.size) _ mem_1
    have z0 := cc 0 _ rfl
    have z1 := cc 1 _ rfl
    have z2 := cc 2 _ rfl
    have z3 := cc 3 _ rfl
    clear cc
    go_wp2_with fail
    refine (HTo1.out w12 (HL13.out.fo F1 mem_3)).mono ?_
    rintro e w14 ⟨xd1_3, xe1_3, X1, rfl, g1, b2⟩
    have HX1 : Hid (X1.vals = [.int .i64 x1_0, .int .i64 x1_1, .string x1_2, .slice xd1_3 n1_3 xe1_3] ∧ X1.sim F1 ∧ ∀ c ∈ X1.inn, w12.heap.size ≤ c ∧ c < w14.heap.size) := ⟨g1.out.1, g1.out.2.1, g1.out.2.2.subs.inn_of⟩
    obtain ⟨V15, hV⟩ : ∃ V, w14.alloc (.cells #[.int .i64 x1_0, .int .i64 x1_1, .string x1_2, .slice xd1_3 n1_3 xe1_3] 29) = V := ⟨_, rfl⟩
    have HL16 : Hid (Law W [(w14.heap.size, [.int .i64 x1_0, .int .i64 x1_1, .string x1_2, .slice xd1_3 n1_3 xe1_3]), (T0, [.int .i64 y0, .int .i64 y1, .string y2, .slice par_3 ym3 qar_3]), (W.heap.size, [.int .i64 x1_0, .int .i64 x1_1, .string x1_2, .slice a1_3 n1_3 c1_3])] [X1, X0, R0, F0, F1] [(w12.heap.size, X1), (V11.heap.size, X0)] V15) := by unfold Hid; rw [← hV]; exact ((HL13.out.below b2.out).adds g1.out.2.2).box _ _
    have HZ2 : Hid (V15.heap.size = w14.heap.size + 1 ∧ w12.heap.size ≤ w14.heap.size) := ⟨by rw [← hV]; simp, b2.out.size⟩
    have HV := hide hV
    clear g1 b2 hV HL13 z0 z1 z2 z3
    go_upto_region 11 with fail
    rw [HV.out]
    clear HV
    have cc := HL16.out.cell (w14.heap.size) _ mem_0
    have z1_0 := cc 0 _ rfl
    have z1_1 := cc 1 _ rfl
    have z1_2 := cc 2 _ rfl
    have z1_3 := cc 3 _ rfl
    clear cc
    have HC := hide (HPr.out V15 xd0 xe0 X0 _ xd1_3 xe1_3 X1 _ ⟨HX0.out.1, HX0.out.2.1, HL16.out.ow (_, X0) mem_1⟩ ⟨HX1.out.1, HX1.out.2.1, HL16.out.ow (_, X1) mem_0⟩)
    go_wp2_with fail
    refine HC.out.mono ?_
    rintro e w17 ⟨pbr_3, qbr_3, R1, rfl, r1, b5⟩
    obtain ⟨V18, hV⟩ : ∃ V, w17.alloc (.cells #[.int .i64 y0, .int .i64 y1, .string y2, .slice pbr_3 ym3 qbr_3] 29) = V := ⟨_, rfl⟩
    have HL19 : Hid (Law W [(w17.heap.size, [.int .i64 y0, .int .i64 y1, .string y2, .slice pbr_3 ym3 qbr_3]), (w14.heap.size, [.int .i64 x1_0, .int .i64 x1_1, .string x1_2, .slice xd1_3 n1_3 xe1_3]), (T0, [.int .i64 y0, .int .i64 y1, .string y2, .slice par_3 ym3 qar_3]), (W.heap.size, [.int .i64 x1_0, .int .i64 x1_1, .string x1_2, .slice a1_3 n1_3 c1_3])] [R1, X1, X0, R0, F0, F1] [(V15.heap.size, R1), (w12.heap.size, X1), (V11.heap.size, X0)] V18) := by unfold Hid; rw [← hV]; exact ((HL16.out.below b5.out).adds r1.out.2.2).box _ _
    have HR1 : Hid (R1.vals = [.int .i64 y0, .int .i64 y1, .string y2, .slice pbr_3 ym3 qbr_3] ∧ R1.sim AN ∧ ∀ c ∈ R1.inn, V15.heap.size ≤ c ∧ c < w17.heap.size) := ⟨r1.out.1, r1.out.2.1, r1.out.2.2.subs.inn_of⟩
    have HZ9 : Hid (V18.heap.size = w17.heap.size + 1 ∧ V15.heap.size ≤ w17.heap.size) := ⟨by rw [← hV]; simp, b5.out.size⟩
    have HV := hide hV
    clear HC HL16 r1 b5 hV z1_0 z1_1 z1_2 z1_3
    go_upto_region 12 with fail
    rw [HV.out]
    clear HV
    have cc := HL19.out.cell (w17.heap.size) _ mem_0
    have z0 := cc 0 _ rfl
    have z1 := cc 1 _ rfl
    have z2 := cc 2 _ rfl
    have z3 := cc 3 _ rfl
    clear cc
    have cc := HL19.out.cell (T0) _ mem_2
    have u0 := cc 0 _ rfl
    have u1 := cc 1 _ rfl
    have u2 := cc 2 _ rfl
    have u3 := cc 3 _ rfl
    clear cc
    have HC := hide (HEr.out V18 pbr_3 qbr_3 par_3 qar_3 R1 R0 ⟨HR1.out.1, HR1.out.2.1, HL19.out.fo R1 mem_0⟩ ⟨HR0.out.1, HR0.out.2.1, HL19.out.fo R0 mem_3⟩)
    go_wp2_with fail
    refine HC.out.mono ?_
    rintro e w20 ⟨rfl, b6⟩
    have HL21 : Hid (Law W [(w17.heap.size, [.int .i64 y0, .int .i64 y1, .string y2, .slice pbr_3 ym3 qbr_3]), (w14.heap.size, [.int .i64 x1_0, .int .i64 x1_1, .string x1_2, .slice xd1_3 n1_3 xe1_3]), (T0, [.int .i64 y0, .int .i64 y1, .string y2, .slice par_3 ym3 qar_3]), (W.heap.size, [.int .i64 x1_0, .int .i64 x1_1, .string x1_2, .slice a1_3 n1_3 c1_3])] [R1, X1, X0, R0, F0, F1] [(V15.heap.size, R1), (w12.heap.size, X1), (V11.heap.size, X0)] w20) := HL19.out.below b6.out
    clear HC HL19 b6 z0 z1 z2 z3 u0 u1 u2 u3
    go_wp2_with fail
    refine (HTo0.out w20 (HL21.out.fo F0 mem_4)).mono ?_
    rintro e w22 ⟨yd0, ye0, Gy, rfl, g1, b2⟩
    have HL23 : Hid (Law W [(w17.heap.size, [.int .i64 y0, .int .i64 y1, .string y2, .slice pbr_3 ym3 qbr_3]), (w14.heap.size, [.int .i64 x1_0, .int .i64 x1_1, .string x1_2, .slice xd1_3 n1_3 xe1_3]), (T0, [.int .i64 y0, .int .i64 y1, .string y2, .slice par_3 ym3 qar_3]), (W.heap.size, [.int .i64 x1_0, .int .i64 x1_1, .string x1_2, .slice a1_3 n1_3 c1_3])] [Gy, R1, X1, X0, R0, F0, F1] [(V15.heap.size, R1), (w12.heap.size, X1), (V11.heap.size, X0)] w22) := (HL21.out.below b2.out).add (g1.out.2.2.subs.mono (fun _ x => x.2))
    have HC := hide (HEa0.out w22 xd0 xe0 yd0 ye0 X0 Gy ⟨HX0.out.1, HX0.out.2.1, HL23.out.fo X0 mem_3⟩ ⟨g1.out.1, g1.out.2.1, HL23.out.fo Gy mem_0⟩)
    go_wp2_with fail
    refine HC.out.mono ?_
    rintro e w24 ⟨rfl, b4⟩
    have HL25 : Hid (Law W [(w17.heap.size, [.int .i64 y0, .int .i64 y1, .string y2, .slice pbr_3 ym3 qbr_3]), (w14.heap.size, [.int .i64 x1_0, .int .i64 x1_1, .string x1_2, .slice xd1_3 n1_3 xe1_3]), (T0, [.int .i64 y0, .int .i64 y1, .string y2, .slice par_3 ym3 qar_3]), (W.heap.size, [.int .i64 x1_0, .int .i64 x1_1, .string x1_2, .slice a1_3 n1_3 c1_3])] [R1, X1, X0, R0, F0, F1] [(V15.heap.size, R1), (w12.heap.size, X1), (V11.heap.size, X0)] w24) := (HL23.out.below b4.out).drop (fun _ x => x) (by intro G hG; exact List.mem_cons_of_mem _ hG) (fun _ x => x)
    clear HC HL21 HL23 g1 b2 b4
    go_upto_region 16 with fail
    have cc := HL25.out.cell (W.heap.size) _ mem_3
    have z0 := cc 0 _ rfl
    have z1 := cc 1 _ rfl
    have z2 := cc 2 _ rfl
    have z3 := cc 3 _ rfl
    clear cc
    have cc := HL25.out.cell (w14.heap.size) _ mem_1
    have u0 := cc 0 _ rfl
    have u1 := cc 1 _ rfl
    have u2 := cc 2 _ rfl
    have u3 := cc 3 _ rfl
    clear cc
    have HSQ : Hid (∀ V, Below w24.heap.size w24 V → V.cell? ⟨W.heap.size, 0, none⟩ = some (.int .i64 x1_0) ∧ V.cell? ⟨W.heap.size, 1, none⟩ = some (.int .i64 x1_1) ∧ V.cell? ⟨W.heap.size, 2, none⟩ = some (.string x1_2) ∧ V.cell? ⟨W.heap.size, 3, none⟩ = some (.slice a1_3 n1_3 c1_3) ∧ V.cell? ⟨w14.heap.size, 0, none⟩ = some (.int .i64 x1_0) ∧ V.cell? ⟨w14.heap.size, 1, none⟩ = some (.int .i64 x1_1) ∧ V.cell? ⟨w14.heap.size, 2, none⟩ = some (.string x1_2) ∧ V.cell? ⟨w14.heap.size, 3, none⟩ = some (.slice xd1_3 n1_3 xe1_3)) := fun V hb => by
      have hl := HL25.out.below hb
      have cz := hl.cell (W.heap.size) _ mem_3
      have cu := hl.cell (w14.heap.size) _ mem_1
      exact ⟨cz 0 _ rfl, cz 1 _ rfl, cz 2 _ rfl, cz 3 _ rfl, cu 0 _ rfl, cu 1 _ rfl, cu 2 _ rfl, cu 3 _ rfl⟩
    have HDR : Hid (Below w24.heap.size w24 w24.drew) := (Below.refl _ _).drew
    have k0' := HSQ.out w24.drew HDR.out
    have HT6 : Hid (Calls Try.prog 11 #[.agg #[.int .i64 x1_0, .int .i64 x1_1, .string x1_2, .slice a1_3 n1_3 c1_3]] w24.drew fun e w' => ∃ (d1_3 : Option Addr) (e1_3 : Nat) (G : Fo), e = .returned (.agg #[.int .i64 x1_0, .int .i64 x1_1, .string x1_2, .slice d1_3 n1_3 e1_3]) ∧ Hid (G.vals = [.int .i64 x1_0, .int .i64 x1_1, .string x1_2, .slice d1_3 n1_3 e1_3] ∧ G.sim F1 ∧ G.Subs w' (fun c => c < w'.heap.size)) ∧ Hid (Below w24.heap.size w24 w')) := (HTo1.out w24.drew ((HL25.out.below HDR.out).fo F1 mem_5)).mono (by
      rintro e w' ⟨d1_3, e1_3, G, g1, g2, g3⟩
      exact ⟨d1_3, e1_3, G, g1, ⟨g2.out.1, g2.out.2.1, g2.out.2.2.subs.mono (fun _ x => x.2)⟩, HDR.out.trans g3.out⟩)
    have HE6 : Hid (∀ w8 (d1_3 : Option Addr) (e1_3 : Nat) (G : Fo), Hid (G.vals = [.int .i64 x1_0, .int .i64 x1_1, .string x1_2, .slice d1_3 n1_3 e1_3] ∧ G.sim F1 ∧ G.Subs w8 (fun c => c < w8.heap.size)) → Hid (Below w24.heap.size w24 w8) → Calls Try.prog 13 #[.agg #[.int .i64 x1_0, .int .i64 x1_1, .string x1_2, .slice xd1_3 n1_3 xe1_3], .agg #[.int .i64 x1_0, .int .i64 x1_1, .string x1_2, .slice d1_3 n1_3 e1_3]] w8 fun e w' => e = .returned (.bool true) ∧ Hid (Below w24.heap.size w24 w')) := fun w8 d1_3 e1_3 G hg hb => (HEa1.out w8 xd1_3 xe1_3 d1_3 e1_3 X1 G ⟨HX1.out.1, HX1.out.2.1, (HL25.out.below hb.out).fo X1 mem_1⟩ hg).mono (fun e w' h => ⟨h.1, hb.out.trans (h.2.out.mono hb.out.size)⟩)
    go_cut [49] (fun s wx => s = .bool false ∧ Below w24.heap.size w24 wx)
    case first =>
      go_region_held3 (fun V => V.cell? ⟨W.heap.size, 0, none⟩ = some (.int .i64 x1_0) ∧ V.cell? ⟨W.heap.size, 1, none⟩ = some (.int .i64 x1_1) ∧ V.cell? ⟨W.heap.size, 2, none⟩ = some (.string x1_2) ∧ V.cell? ⟨W.heap.size, 3, none⟩ = some (.slice a1_3 n1_3 c1_3) ∧ V.cell? ⟨w14.heap.size, 0, none⟩ = some (.int .i64 x1_0) ∧ V.cell? ⟨w14.heap.size, 1, none⟩ = some (.int .i64 x1_1) ∧ V.cell? ⟨w14.heap.size, 2, none⟩ = some (.string x1_2) ∧ V.cell? ⟨w14.heap.size, 3, none⟩ = some (.slice xd1_3 n1_3 xe1_3))
        (first | with_reducible exact k9' | with_reducible exact k8' | with_reducible exact k0')
        (first
          | (go_at_call 11; refine HT6.out.mono ?_; rintro e w8 ⟨yd1_3, ye1_3, Gx, rfl, g3, b8⟩; have k8' := HSQ.out w8 b8.out)
          | (go_at_call 13; refine (HE6.out w8 yd1_3 ye1_3 Gx g3 b8).mono ?_; rintro e w9 ⟨rfl, b9⟩; have k9' := HSQ.out w9 b9.out))
      all_goals
        go_wp2_with fail
        go_meet
        case rel => exact ⟨rfl, b9.out⟩
    case rest =>
      obtain ⟨rfl, hcb⟩ := hcut
      rename World => w26
      have HL27 : Hid (Law W [(w17.heap.size, [.int .i64 y0, .int .i64 y1, .string y2, .slice pbr_3 ym3 qbr_3]), (w14.heap.size, [.int .i64 x1_0, .int .i64 x1_1, .string x1_2, .slice xd1_3 n1_3 xe1_3]), (T0, [.int .i64 y0, .int .i64 y1, .string y2, .slice par_3 ym3 qar_3]), (W.heap.size, [.int .i64 x1_0, .int .i64 x1_1, .string x1_2, .slice a1_3 n1_3 c1_3])] [R1, X1, X0, R0, F0, F1] [(V15.heap.size, R1), (w12.heap.size, X1), (V11.heap.size, X0)] w26) := HL25.out.below hcb
      clear hcb HL25 HSQ HDR HT6 HE6 k0' z0 z1 z2 z3 u0 u1 u2 u3
      have HC := hide (HMa0.out w26 xd0 xe0 X0 _ HX0.out.1 HX0.out.2.1 (HL27.out.ow (_, X0) mem_2))
      go_wp2_with fail
      refine HC.out.mono ?_
      rintro e w28 ⟨rfl, k10⟩
      have HL29 : Hid (Law W [(w17.heap.size, [.int .i64 y0, .int .i64 y1, .string y2, .slice pbr_3 ym3 qbr_3]), (w14.heap.size, [.int .i64 x1_0, .int .i64 x1_1, .string x1_2, .slice xd1_3 n1_3 xe1_3]), (T0, [.int .i64 y0, .int .i64 y1, .string y2, .slice par_3 ym3 qar_3]), (W.heap.size, [.int .i64 x1_0, .int .i64 x1_1, .string x1_2, .slice a1_3 n1_3 c1_3])] [R1, X1, R0, F0, F1] [(V15.heap.size, R1), (w12.heap.size, X1)] w28) := by 
        have h0 := HR0.out.2.2
        have h1 := HR1.out.2.2
        have hF0 := HFin0.out
        have hF1 := HFin1.out
        have hX0 := HX0.out.2.2
        have hX1 := HX1.out.2.2
        have zz0 := HZ0.out
        have zz1 := HZ1.out
        have zz2 := HZ2.out
        have zz3 := HZ9.out
        refine (HL27.out.drop (fun _ x => x) (allc mem_0 (allc mem_1 (allc mem_3 (allc mem_4 (all1 mem_5))))) (allc mem_0 (all1 mem_1))).kept k10.out (fun c hc hx => by have := hX0 _ hx; omega) (allc (fun hx => by have := hX0 _ hx; omega) (allc (fun hx => by have := hX0 _ hx; omega) (allc (fun hx => by have := hX0 _ hx; omega) (all1 (fun hx => by have := hX0 _ hx; omega))))) (allc (fun c hc hx => by have := hX0 _ hx; have := h1 _ hc; omega) (allc (fun c hc hx => by have := hX0 _ hx; have := hX1 _ hc; omega) (allc (fun c hc hx => by have := hX0 _ hx; have := h0 _ hc; omega) (allc (fun c hc hx => by have := hX0 _ hx; have := hF0 _ hc; omega) (all1 (fun c hc hx => by have := hX0 _ hx; have := hF1 _ hc; omega)))))) (allc (fun c hc _ hx => by have := hX0 _ hx; omega) (all1 (fun c hc _ hx => by have := hX0 _ hx; omega)))
      clear HC HL27 k10
      have cc := HL29.out.cell (w14.heap.size) _ mem_1
      have z0 := cc 0 _ rfl
      have z1 := cc 1 _ rfl
      have z2 := cc 2 _ rfl
      have z3 := cc 3 _ rfl
      clear cc
      have HC := hide (HMa1.out w28 xd1_3 xe1_3 X1 _ HX1.out.1 HX1.out.2.1 (HL29.out.ow (_, X1) mem_1))
      go_wp2_with fail
      refine HC.out.mono ?_
      rintro e w30 ⟨rfl, k10⟩
      have HL31 : Hid (Law W [(w17.heap.size, [.int .i64 y0, .int .i64 y1, .string y2, .slice pbr_3 ym3 qbr_3]), (w14.heap.size, [.int .i64 x1_0, .int .i64 x1_1, .string x1_2, .slice xd1_3 n1_3 xe1_3]), (T0, [.int .i64 y0, .int .i64 y1, .string y2, .slice par_3 ym3 qar_3]), (W.heap.size, [.int .i64 x1_0, .int .i64 x1_1, .string x1_2, .slice a1_3 n1_3 c1_3])] [R1, R0, F0, F1] [(V15.heap.size, R1)] w30) := by 
        have h0 := HR0.out.2.2
        have h1 := HR1.out.2.2
        have hF0 := HFin0.out
        have hF1 := HFin1.out
        have hX0 := HX0.out.2.2
        have hX1 := HX1.out.2.2
        have zz0 := HZ0.out
        have zz1 := HZ1.out
        have zz2 := HZ2.out
        have zz3 := HZ9.out
        refine (HL29.out.drop (fun _ x => x) (allc mem_0 (allc mem_2 (allc mem_3 (all1 mem_4)))) (all1 mem_0)).kept k10.out (fun c hc hx => by have := hX1 _ hx; omega) (allc (fun hx => by have := hX1 _ hx; omega) (allc (fun hx => by have := hX1 _ hx; omega) (allc (fun hx => by have := hX1 _ hx; omega) (all1 (fun hx => by have := hX1 _ hx; omega))))) (allc (fun c hc hx => by have := hX1 _ hx; have := h1 _ hc; omega) (allc (fun c hc hx => by have := hX1 _ hx; have := h0 _ hc; omega) (allc (fun c hc hx => by have := hX1 _ hx; have := hF0 _ hc; omega) (all1 (fun c hc hx => by have := hX1 _ hx; have := hF1 _ hc; omega))))) (all1 (fun c hc _ hx => by have := hX1 _ hx; omega))
      clear HC HL29 k10 z0 z1 z2 z3
      go_upto_region 21 with fail
      have cc := HL31.out.cell (w17.heap.size) _ mem_0
      have z0 := cc 0 _ rfl
      have z1 := cc 1 _ rfl
      have z2 := cc 2 _ rfl
      have z3 := cc 3 _ rfl
      clear cc
      have cc := HL31.out.cell (T0) _ mem_2
      have u0 := cc 0 _ rfl
      have u1 := cc 1 _ rfl
      have u2 := cc 2 _ rfl
      have u3 := cc 3 _ rfl
      clear cc
      have HC := hide (HEr.out w30 pbr_3 qbr_3 par_3 qar_3 R1 R0 ⟨HR1.out.1, HR1.out.2.1, HL31.out.fo R1 mem_0⟩ ⟨HR0.out.1, HR0.out.2.1, HL31.out.fo R0 mem_1⟩)
      go_wp2_with fail
      refine HC.out.mono ?_
      rintro e w32 ⟨rfl, b6⟩
      have HL33 : Hid (Law W [(w17.heap.size, [.int .i64 y0, .int .i64 y1, .string y2, .slice pbr_3 ym3 qbr_3]), (w14.heap.size, [.int .i64 x1_0, .int .i64 x1_1, .string x1_2, .slice xd1_3 n1_3 xe1_3]), (T0, [.int .i64 y0, .int .i64 y1, .string y2, .slice par_3 ym3 qar_3]), (W.heap.size, [.int .i64 x1_0, .int .i64 x1_1, .string x1_2, .slice a1_3 n1_3 c1_3])] [R1, R0, F0, F1] [(V15.heap.size, R1)] w32) := HL31.out.below b6.out
      clear HC HL31 b6 z0 z1 z2 z3 u0 u1 u2 u3
      have cc := HL33.out.cell (w17.heap.size) _ mem_0
      have z0 := cc 0 _ rfl
      have z1 := cc 1 _ rfl
      have z2 := cc 2 _ rfl
      have z3 := cc 3 _ rfl
      clear cc
      have HC := hide (HMr.out w32 pbr_3 qbr_3 R1 _ ⟨HR1.out.1, HR1.out.2.1, HL33.out.ow (_, R1) mem_0⟩)
      go_wp2_with fail
      refine HC.out.mono ?_
      rintro e w34 ⟨rfl, m12, k12⟩
      have HL35 : Hid (Law W [(w17.heap.size, [.int .i64 y0, .int .i64 y1, .string y2, .slice pbr_3 ym3 qbr_3]), (w14.heap.size, [.int .i64 x1_0, .int .i64 x1_1, .string x1_2, .slice xd1_3 n1_3 xe1_3]), (T0, [.int .i64 y0, .int .i64 y1, .string y2, .slice par_3 ym3 qar_3]), (W.heap.size, [.int .i64 x1_0, .int .i64 x1_1, .string x1_2, .slice a1_3 n1_3 c1_3])] [R1.mks 1, R0, F0, F1] [] w34) := by 
        have h0 := HR0.out.2.2
        have h1 := HR1.out.2.2
        have hF0 := HFin0.out
        have hF1 := HFin1.out
        have zz0 := HZ0.out
        have zz1 := HZ1.out
        have zz2 := HZ2.out
        have zz3 := HZ9.out
        refine Law.add ((HL33.out.drop (fun _ x => x) (allc mem_1 (allc mem_2 (all1 mem_3))) (fun p hp => absurd hp List.not_mem_nil)).kept k12.out (fun c hc hx => by have := h1 c hx; omega) (allc (fun hx => by have := h1 _ hx; omega) (allc (fun hx => by have := h1 _ hx; omega) (allc (fun hx => by have := h1 _ hx; omega) (all1 (fun hx => by have := h1 _ hx; omega))))) (allc (fun c hc hx => by have := h1 _ hx; have := h0 _ hc; omega) (allc (fun c hc hx => by have := h1 _ hx; have := hF0 _ hc; omega) (all1 (fun c hc hx => by have := h1 _ hx; have := hF1 _ hc; omega)))) (fun p hp => absurd hp List.not_mem_nil)) m12.out
      clear HC HL33 m12 k12 z0 z1 z2 z3
      have cc := HL35.out.cell (w17.heap.size) _ mem_0
      have z0 := cc 0 _ rfl
      have z1 := cc 1 _ rfl
      have z2 := cc 2 _ rfl
      have z3 := cc 3 _ rfl
      clear cc
      have HC := hide (HHr.out w34 pbr_3 qbr_3 R1 HR1.out.1 HR1.out.2.1 (HL35.out.fo _ mem_0))
      go_wp2_with fail
      refine HC.out.mono ?_
      rintro e w36 ⟨rfl, b13⟩
      have HL37 : Hid (Law W [(w17.heap.size, [.int .i64 y0, .int .i64 y1, .string y2, .slice pbr_3 ym3 qbr_3]), (w14.heap.size, [.int .i64 x1_0, .int .i64 x1_1, .string x1_2, .slice xd1_3 n1_3 xe1_3]), (T0, [.int .i64 y0, .int .i64 y1, .string y2, .slice par_3 ym3 qar_3]), (W.heap.size, [.int .i64 x1_0, .int .i64 x1_1, .string x1_2, .slice a1_3 n1_3 c1_3])] [R1.mks 1, R0, F0, F1] [] w36) := HL35.out.below b13.out
      clear HC HL35 b13 z0 z1 z2 z3
      go_upto_region 31 with fail
      have cc := HL37.out.cell (W.heap.size) _ mem_3
      have z1_0 := cc 0 _ rfl
      have z1_1 := cc 1 _ rfl
      have z1_2 := cc 2 _ rfl
      have z1_3 := cc 3 _ rfl
      clear cc
      have HSQ : Hid (∀ V, Below w36.heap.size w36 V → V.cell? ⟨W.heap.size, 0, none⟩ = some (.int .i64 x1_0) ∧ V.cell? ⟨W.heap.size, 1, none⟩ = some (.int .i64 x1_1) ∧ V.cell? ⟨W.heap.size, 2, none⟩ = some (.string x1_2) ∧ V.cell? ⟨W.heap.size, 3, none⟩ = some (.slice a1_3 n1_3 c1_3)) := fun V hb => by
        have hl := HL37.out.below hb
        have cz1 := hl.cell (W.heap.size) _ mem_3
        exact ⟨cz1 0 _ rfl, cz1 1 _ rfl, cz1 2 _ rfl, cz1 3 _ rfl⟩
      have HT0 : Hid (∀ V , Hid (Law W [(w17.heap.size, [.int .i64 y0, .int .i64 y1, .string y2, .slice pbr_3 ym3 qbr_3]), (w14.heap.size, [.int .i64 x1_0, .int .i64 x1_1, .string x1_2, .slice xd1_3 n1_3 xe1_3]), (T0, [.int .i64 y0, .int .i64 y1, .string y2, .slice par_3 ym3 qar_3]), (W.heap.size, [.int .i64 x1_0, .int .i64 x1_1, .string x1_2, .slice a1_3 n1_3 c1_3])] [R1.mks 1, R0, F0, F1] [] V) → Hid (Below w36.heap.size w36 V) → Calls Try.prog 24 #[.slice a0 n0 c0] V fun e w' => ∃ v, e = .returned v ∧ ∃ (d0 : Option Addr) (e0 : Nat) (G0 : Fo) (lo0 : Nat), v = .slice d0 n0 e0 ∧ Hid (G0.vals = [.slice d0 n0 e0] ∧ G0.sim F0) ∧ Hid (Law W [(w17.heap.size, [.int .i64 y0, .int .i64 y1, .string y2, .slice pbr_3 ym3 qbr_3]), (w14.heap.size, [.int .i64 x1_0, .int .i64 x1_1, .string x1_2, .slice xd1_3 n1_3 xe1_3]), (T0, [.int .i64 y0, .int .i64 y1, .string y2, .slice par_3 ym3 qar_3]), (W.heap.size, [.int .i64 x1_0, .int .i64 x1_1, .string x1_2, .slice a1_3 n1_3 c1_3])] [G0, R1.mks 1, R0, F0, F1] [(lo0, G0)] w') ∧ Hid (Below w36.heap.size w36 w') ∧ Hid (Below V.heap.size V w')) := fun V  hl bV => by
        refine (HTo0.out V (hl.out.fo F0 mem_2)).mono ?_
        rintro e w' ⟨d0, e0, G, rfl, g1, b2⟩
        exact ⟨_, rfl, d0, e0, G, _, rfl, ⟨g1.out.1, g1.out.2.1⟩, (hl.out.below b2.out).adds g1.out.2.2, bV.out.trans (b2.out.mono bV.out.size), b2⟩
      have HT1 : Hid (∀ V (G0 : Fo) (lo0 : Nat), Hid (Law W [(w17.heap.size, [.int .i64 y0, .int .i64 y1, .string y2, .slice pbr_3 ym3 qbr_3]), (w14.heap.size, [.int .i64 x1_0, .int .i64 x1_1, .string x1_2, .slice xd1_3 n1_3 xe1_3]), (T0, [.int .i64 y0, .int .i64 y1, .string y2, .slice par_3 ym3 qar_3]), (W.heap.size, [.int .i64 x1_0, .int .i64 x1_1, .string x1_2, .slice a1_3 n1_3 c1_3])] [G0, R1.mks 1, R0, F0, F1] [(lo0, G0)] V) → Hid (Below w36.heap.size w36 V) → Calls Try.prog 11 #[.agg #[.int .i64 x1_0, .int .i64 x1_1, .string x1_2, .slice a1_3 n1_3 c1_3]] V fun e w' => ∃ v, e = .returned v ∧ ∃ (d1_3 : Option Addr) (e1_3 : Nat) (G1 : Fo) (lo1 : Nat), v = .agg #[.int .i64 x1_0, .int .i64 x1_1, .string x1_2, .slice d1_3 n1_3 e1_3] ∧ Hid (G1.vals = [.int .i64 x1_0, .int .i64 x1_1, .string x1_2, .slice d1_3 n1_3 e1_3] ∧ G1.sim F1) ∧ Hid (Law W [(w17.heap.size, [.int .i64 y0, .int .i64 y1, .string y2, .slice pbr_3 ym3 qbr_3]), (w14.heap.size, [.int .i64 x1_0, .int .i64 x1_1, .string x1_2, .slice xd1_3 n1_3 xe1_3]), (T0, [.int .i64 y0, .int .i64 y1, .string y2, .slice par_3 ym3 qar_3]), (W.heap.size, [.int .i64 x1_0, .int .i64 x1_1, .string x1_2, .slice a1_3 n1_3 c1_3])] [G1, G0, R1.mks 1, R0, F0, F1] [(lo1, G1), (lo0, G0)] w') ∧ Hid (Below w36.heap.size w36 w') ∧ Hid (Below V.heap.size V w')) := fun V G0 lo0 hl bV => by
        refine (HTo1.out V (hl.out.fo F1 mem_4)).mono ?_
        rintro e w' ⟨d1_3, e1_3, G, rfl, g1, b2⟩
        exact ⟨_, rfl, d1_3, e1_3, G, _, rfl, ⟨g1.out.1, g1.out.2.1⟩, (hl.out.below b2.out).adds g1.out.2.2, bV.out.trans (b2.out.mono bV.out.size), b2⟩
      have HT9 : Hid (∀ V (d0 : Option Addr) (e0 : Nat) (G0 : Fo) (lo0 : Nat) (d1_3 : Option Addr) (e1_3 : Nat) (G1 : Fo) (lo1 : Nat), Hid (G0.vals = [.slice d0 n0 e0] ∧ G0.sim F0) → Hid (G1.vals = [.int .i64 x1_0, .int .i64 x1_1, .string x1_2, .slice d1_3 n1_3 e1_3] ∧ G1.sim F1) → Hid (Law W [(w17.heap.size, [.int .i64 y0, .int .i64 y1, .string y2, .slice pbr_3 ym3 qbr_3]), (w14.heap.size, [.int .i64 x1_0, .int .i64 x1_1, .string x1_2, .slice xd1_3 n1_3 xe1_3]), (T0, [.int .i64 y0, .int .i64 y1, .string y2, .slice par_3 ym3 qar_3]), (W.heap.size, [.int .i64 x1_0, .int .i64 x1_1, .string x1_2, .slice a1_3 n1_3 c1_3])] [G1, G0, R1.mks 1, R0, F0, F1] [(lo1, G1), (lo0, G0)] V) → Hid (Below w36.heap.size w36 V) → Calls Try.prog 25 #[.slice d0 n0 e0, .agg #[.int .i64 x1_0, .int .i64 x1_1, .string x1_2, .slice d1_3 n1_3 e1_3]] V fun e w' => ∃ v, e = .returned v ∧ ∃ (pr_3 : Option Addr) (qr_3 : Nat) (R : Fo), v = .agg #[.int .i64 y0, .int .i64 y1, .string y2, .slice pr_3 ym3 qr_3] ∧ Hid (R.vals = [.int .i64 y0, .int .i64 y1, .string y2, .slice pr_3 ym3 qr_3] ∧ R.sim AN) ∧ Hid (R.Subs w' (fun c => V.heap.size ≤ c ∧ c < w'.heap.size)) ∧ Hid (Below w36.heap.size w36 w') ∧ Hid (Below V.heap.size V w')) := fun V d0 e0 G0 lo0 d1_3 e1_3 G1 lo1 hh0 hh1 hl bV => by
        refine (HPr.out V d0 e0 G0 _ d1_3 e1_3 G1 _ ⟨hh0.out.1, hh0.out.2, hl.out.ow (_, G0) mem_1⟩ ⟨hh1.out.1, hh1.out.2, hl.out.ow (_, G1) mem_0⟩).mono ?_
        rintro e w' ⟨pr_3, qr_3, R, rfl, r0, b2⟩
        exact ⟨_, rfl, pr_3, qr_3, R, rfl, ⟨r0.out.1, r0.out.2.1⟩, r0.out.2.2.subs, bV.out.trans (b2.out.mono bV.out.size), b2⟩
      go_cut [13] (fun s wx => ∃ (T2 : Nat) (pdr_3 : Option Addr) (qdr_3 : Nat) (R2 : Fo), s = .pointer (some ⟨T2, 0, none⟩) ∧ Hid (R2.vals = [.int .i64 y0, .int .i64 y1, .string y2, .slice pdr_3 ym3 qdr_3] ∧ R2.sim AN) ∧ Hid (Law W [(T2, [.int .i64 y0, .int .i64 y1, .string y2, .slice pdr_3 ym3 qdr_3]), (w17.heap.size, [.int .i64 y0, .int .i64 y1, .string y2, .slice pbr_3 ym3 qbr_3]), (w14.heap.size, [.int .i64 x1_0, .int .i64 x1_1, .string x1_2, .slice xd1_3 n1_3 xe1_3]), (T0, [.int .i64 y0, .int .i64 y1, .string y2, .slice par_3 ym3 qar_3]), (W.heap.size, [.int .i64 x1_0, .int .i64 x1_1, .string x1_2, .slice a1_3 n1_3 c1_3])] [R2, R1.mks 1, R0, F0, F1] [] wx))
      case first =>
        have hL0' : Hid (Law W [(w17.heap.size, [.int .i64 y0, .int .i64 y1, .string y2, .slice pbr_3 ym3 qbr_3]), (w14.heap.size, [.int .i64 x1_0, .int .i64 x1_1, .string x1_2, .slice xd1_3 n1_3 xe1_3]), (T0, [.int .i64 y0, .int .i64 y1, .string y2, .slice par_3 ym3 qar_3]), (W.heap.size, [.int .i64 x1_0, .int .i64 x1_1, .string x1_2, .slice a1_3 n1_3 c1_3])] [R1.mks 1, R0, F0, F1] [] w36.drew) := HL37.out.below ⟨rfl, rfl, rfl, Nat.le_refl _, fun _ _ => rfl⟩
        have hB0' : Hid (Below w36.heap.size w36 w36.drew) := ⟨rfl, rfl, rfl, Nat.le_refl _, fun _ _ => rfl⟩
        obtain ⟨y1_0, y1_1, y1_2, y1_3⟩ := HSQ.out (w36.alloc (.cells #[.int .i64 0, .int .i64 0, .string ⟨#[]⟩, .slice none 0 0] 29)) (below_alloc1 _ _)
        go_region_law (first
          | (refine Go.Proofs.Ytjlefdalobgdfaa.step_call (by rfl) 24 #[.slice a0 n0 c0] (by simp [go_sem]) _ (HT0.out _  (by first | exact hL0' | exact hL0'.out.below (below_alloc1 _ _)) (by first | exact hB0' | exact hB0'.out.trans ((below_alloc1 _ _).mono hB0'.out.size))) ?_; rintro v5 wc0 ⟨d0, e0, G0, lo0, rfl, hh0, hL0, hB0, hC0⟩; obtain ⟨z1_0, z1_1, z1_2, z1_3⟩ := HSQ.out wc0 hB0.out; obtain ⟨y1_0, y1_1, y1_2, y1_3⟩ := HSQ.out (wc0.alloc (.cells #[.int .i64 0, .int .i64 0, .string ⟨#[]⟩, .slice none 0 0] 29)) (hB0.out.trans ((below_alloc1 _ _).mono hB0.out.size)); (first | (have bx : Bx wc0 w36.heap.size [.int .i64 0, .int .i64 0, .string ⟨#[]⟩, .slice none 0 0] := (Bx.new w36.drew [.int .i64 0, .int .i64 0, .string ⟨#[]⟩, .slice none 0 0] 29).below hC0.out) | skip))
          | (refine Go.Proofs.Ytjlefdalobgdfaa.step_call (by rfl) 11 #[.agg #[.int .i64 x1_0, .int .i64 x1_1, .string x1_2, .slice a1_3 n1_3 c1_3]] (by simp [go_sem]) _ (HT1.out _ G0 lo0 (by first | exact hL0 | exact hL0.out.below (below_alloc1 _ _)) (by first | exact hB0 | exact hB0.out.trans ((below_alloc1 _ _).mono hB0.out.size))) ?_; rintro v5 wc1 ⟨d1_3, e1_3, G1, lo1, rfl, hh1, hL1, hB1, hC1⟩; obtain ⟨z1_0, z1_1, z1_2, z1_3⟩ := HSQ.out wc1 hB1.out; obtain ⟨y1_0, y1_1, y1_2, y1_3⟩ := HSQ.out (wc1.alloc (.cells #[.int .i64 0, .int .i64 0, .string ⟨#[]⟩, .slice none 0 0] 29)) (hB1.out.trans ((below_alloc1 _ _).mono hB1.out.size)); (first | (have bx := (Bx.new wc0 [.int .i64 0, .int .i64 0, .string ⟨#[]⟩, .slice none 0 0] 29).below hC1.out) | (have bx := bx.below hC1.out) | skip))
          | (refine Go.Proofs.Ytjlefdalobgdfaa.step_call (by rfl) 25 #[.slice d0 n0 e0, .agg #[.int .i64 x1_0, .int .i64 x1_1, .string x1_2, .slice d1_3 n1_3 e1_3]] (by simp [go_sem]) _ (HT9.out _ d0 e0 G0 lo0 d1_3 e1_3 G1 lo1 hh0 hh1 (by first | exact hL1 | exact hL1.out.below (below_alloc1 _ _)) (by first | exact hB1 | exact hB1.out.trans ((below_alloc1 _ _).mono hB1.out.size))) ?_; rintro v5 wc9 ⟨pdr_3, qdr_3, R9, rfl, hh9, hS0, hB9, hC9⟩; obtain ⟨z1_0, z1_1, z1_2, z1_3⟩ := HSQ.out wc9 hB9.out; (first | (have hS := hide (sub_ne (Bx.new wc1 [.int .i64 0, .int .i64 0, .string ⟨#[]⟩, .slice none 0 0] 29) hS0.out); have bx := (Bx.new wc1 [.int .i64 0, .int .i64 0, .string ⟨#[]⟩, .slice none 0 0] 29).below hC9.out) | (have hS := hide (sub_ne bx hS0.out); have bx := bx.below hC9.out) | skip); try (have bcl := bx.cel; have bfr := bx.live; have bc0 := bcl 0 _ rfl; have bc1 := bcl 1 _ rfl; have bc2 := bcl 2 _ rfl; have bc3 := bcl 3 _ rfl; have bf0 := bfr 0; have bf1 := bfr 1; have bf2 := bfr 2; have bf3 := bfr 3; clear bcl bfr)))
        all_goals
          go_wp2_with fail
          go_meet
          case rel =>
            first
              | exact ⟨wc9.heap.size, pdr_3, qdr_3, R9, rfl, hh9, Law.late HL37.out hB9.out hB9.out.size (Kept.alloc _ _ _) (Bx.new _ [.int .i64 y0, .int .i64 y1, .string y2, .slice pdr_3 ym3 qdr_3] 29) (sub_at hS0.out)⟩
              | exact ⟨_, pdr_3, qdr_3, R9, rfl, hh9, Law.late HL37.out hB9.out (by first | exact Nat.le_refl _ | exact hB0.out.size | exact hB1.out.size) (keep4 _ _ _ _ _ _) (fill4 bx _ _ _ _) hS.out⟩
      case rest =>
        obtain ⟨T2, pdr_3, qdr_3, R2, rfl, r2, HLT2⟩ := hcut
        rename World => V38
        clear HSQ HT9 HT0 HT1 z1_0 z1_1 z1_2 z1_3
        have HR2 : Hid (R2.vals = [.int .i64 y0, .int .i64 y1, .string y2, .slice pdr_3 ym3 qdr_3] ∧ R2.sim AN) := r2
        clear r2 HL37
        go_upto_region 32 with fail
        have cc := HLT2.out.cell (T2) _ mem_0
        have z0 := cc 0 _ rfl
        have z1 := cc 1 _ rfl
        have z2 := cc 2 _ rfl
        have z3 := cc 3 _ rfl
        clear cc
        have cc := HLT2.out.cell (T0) _ mem_3
        have u0 := cc 0 _ rfl
        have u1 := cc 1 _ rfl
        have u2 := cc 2 _ rfl
        have u3 := cc 3 _ rfl
        clear cc
        have HC := hide (HEr.out V38 pdr_3 qdr_3 par_3 qar_3 R2 R0 ⟨HR2.out.1, HR2.out.2, HLT2.out.fo R2 mem_0⟩ ⟨HR0.out.1, HR0.out.2.1, HLT2.out.fo R0 mem_2⟩)
        go_wp2_with fail
        refine HC.out.mono ?_
        rintro e w39 ⟨rfl, b6⟩
        have HL40 : Hid (Law W [(T2, [.int .i64 y0, .int .i64 y1, .string y2, .slice pdr_3 ym3 qdr_3]), (w17.heap.size, [.int .i64 y0, .int .i64 y1, .string y2, .slice pbr_3 ym3 qbr_3]), (w14.heap.size, [.int .i64 x1_0, .int .i64 x1_1, .string x1_2, .slice xd1_3 n1_3 xe1_3]), (T0, [.int .i64 y0, .int .i64 y1, .string y2, .slice par_3 ym3 qar_3]), (W.heap.size, [.int .i64 x1_0, .int .i64 x1_1, .string x1_2, .slice a1_3 n1_3 c1_3])] [R2, R1.mks 1, R0, F0, F1] [] w39) := HLT2.out.below b6.out
        clear HC HLT2 b6 z0 z1 z2 z3 u0 u1 u2 u3
        have cc := HL40.out.cell (w17.heap.size) _ mem_1
        have z0 := cc 0 _ rfl
        have z1 := cc 1 _ rfl
        have z2 := cc 2 _ rfl
        have z3 := cc 3 _ rfl
        clear cc
        have HC := hide (HHr.out w39 pbr_3 qbr_3 R1 HR1.out.1 HR1.out.2.1 (HL40.out.fo _ mem_1))
        go_wp2_with fail
        refine HC.out.mono ?_
        rintro e w41 ⟨rfl, b13⟩
        have HL42 : Hid (Law W [(T2, [.int .i64 y0, .int .i64 y1, .string y2, .slice pdr_3 ym3 qdr_3]), (w17.heap.size, [.int .i64 y0, .int .i64 y1, .string y2, .slice pbr_3 ym3 qbr_3]), (w14.heap.size, [.int .i64 x1_0, .int .i64 x1_1, .string x1_2, .slice xd1_3 n1_3 xe1_3]), (T0, [.int .i64 y0, .int .i64 y1, .string y2, .slice par_3 ym3 qar_3]), (W.heap.size, [.int .i64 x1_0, .int .i64 x1_1, .string x1_2, .slice a1_3 n1_3 c1_3])] [R2, R1.mks 1, R0, F0, F1] [] w41) := HL40.out.below b13.out
        clear HC HL40 b13 z0 z1 z2 z3
        go_wp2_with fail
        go_ret
        exact ⟨rfl, HL42.out.be⟩

end Go.Proofs.Ytjlefdalobgdfaa.U
