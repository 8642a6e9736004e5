import Derived.Test.YtcnokpaicnjkfaaEd
import Derived.Test.YtcnokpaicnjkfaaUx
import Derived.Test.YtcnokpaicnjkfaaKb
import Derived.Test.YtcnokpaicnjkfaaJD
import Derived.Test.YtcnokpaicnjkfaaJE
import Derived.Test.YtcnokpaicnjkfaaJF
import Derived.Test.YtcnokpaicnjkfaaKHdstring
import Derived.Deep.RegionHeld3
import Derived.Deep.DeepCutAuto
namespace Go.Proofs.Ytcnokpaicnjkfaa
open Go.RowKit Go.Joins

set_option maxHeartbeats 16000000 in
set_option maxRecDepth 100000 in
theorem lawAn (F0 : Fo) (W : World) (hf0 : Fit E F0 (E 3)) (hs0 : F0.Subs W (fun b => b < W.heap.size)) :
    Calls Try.prog 3 #[.agg F0.vals.toArray] W fun e W' => e = .returned (.bool true) ∧ Below W.heap.size W W' := by
  have hv0 : ∃ (x0_0 : Int) (x0_1 : ByteArray) (x0_2 : Bool) (a0_3 a0_4 a0_5 a0_6 : Option Addr) (c0_3 c0_4 c0_5 c0_6 : Nat) (n0_3 n0_4 n0_5 n0_6 : Nat), F0.vals = [.int .i64 x0_0, .string x0_1, .bool x0_2, .slice a0_3 n0_3 c0_3, .slice a0_4 n0_4 c0_4, .slice a0_5 n0_5 c0_5, .slice a0_6 n0_6 c0_6] ∧ ∀ G : Fo, G.sim F0 → ∃ (d0_3 d0_4 d0_5 d0_6 : Option Addr) (e0_3 e0_4 e0_5 e0_6 : Nat), G.vals = [.int .i64 x0_0, .string x0_1, .bool x0_2, .slice d0_3 n0_3 e0_3, .slice d0_4 n0_4 e0_4, .slice d0_5 n0_5 e0_5, .slice d0_6 n0_6 e0_6] := by
    replace hf : Fit E F0 [.i, .t, .b, .s 0, .s 1, .s 3, .s 2] := hf0
    clear hf0 hs0
    revert hf
    generalize F0 = F
    intro hf
    obtain ⟨x0, F0, rfl, -, hf⟩ := fit_i hf
    obtain ⟨x1, F1, rfl, -, hf⟩ := fit_t hf
    obtain ⟨x2, F2, rfl, hf⟩ := fit_b hf
    obtain ⟨a3, n3, c3, k3, F3, rfl, -, hf⟩ := fit_s hf
    obtain ⟨a4, n4, c4, k4, F4, rfl, -, hf⟩ := fit_s hf
    obtain ⟨a5, n5, c5, k5, F5, rfl, -, hf⟩ := fit_s hf
    obtain ⟨a6, n6, c6, k6, F6, rfl, -, hf⟩ := fit_s hf
    obtain rfl := fit_nil hf
    refine ⟨x0, x1, x2, a3, a4, a5, a6, c3, c4, c5, c6, n3, n4, n5, n6, rfl, fun G s_0 => ?_⟩
    obtain ⟨u0, rfl, s_1⟩ := Fo.sim_v s_0
    obtain ⟨u1, rfl, s_2⟩ := Fo.sim_v s_1
    obtain ⟨u2, rfl, s_3⟩ := Fo.sim_v s_2
    obtain ⟨d3, e3, t3, u3, rfl, -, s_4⟩ := Fo.sim_s s_3
    obtain ⟨d4, e4, t4, u4, rfl, -, s_5⟩ := Fo.sim_s s_4
    obtain ⟨d5, e5, t5, u5, rfl, -, s_6⟩ := Fo.sim_s s_5
    obtain ⟨d6, e6, t6, u6, rfl, -, s_7⟩ := Fo.sim_s s_6
    obtain rfl := Fo.sim_nil s_7
    exact ⟨d3, d4, d5, d6, e3, e4, e5, e6, rfl⟩
  obtain ⟨x0_0, x0_1, x0_2, a0_3, a0_4, a0_5, a0_6, c0_3, c0_4, c0_5, c0_6, n0_3, n0_4, n0_5, n0_6, hv0, hG0⟩ := hv0
  have HFi0 := hide hf0
  have HFin0 : Hid (∀ c ∈ F0.inn, c < W.heap.size) := hs0.inn_of
  have HS0 : Hid (∀ V (left : Int), F0.Subs V (fun c => c < V.heap.size) → 0 ≤ left → left ≤ 1048576 → Calls Try.prog 4 #[.agg #[.int .i64 x0_0, .string x0_1, .bool x0_2, .slice a0_3 n0_3 c0_3, .slice a0_4 n0_4 c0_4, .slice a0_5 n0_5 c0_5, .slice a0_6 n0_6 c0_6], .int .i64 left] V fun e w' => e = .returned (.int .i64 (szV left F0.wt)) ∧ Below V.heap.size V w') := fun V left hV h0 h1 => szC_rec sz_C_Core_all hv0 HFi0.out left h0 h1 V hV
  obtain ⟨A, hA⟩ : ∃ A, W.alloc (.cells #[.int .i64 x0_0, .string x0_1, .bool x0_2, .slice a0_3 n0_3 c0_3, .slice a0_4 n0_4 c0_4, .slice a0_5 n0_5 c0_5, .slice a0_6 n0_6 c0_6] 29) = A := ⟨_, rfl⟩
  have HL0 : Hid (Law W [(W.heap.size, [.int .i64 x0_0, .string x0_1, .bool x0_2, .slice a0_3 n0_3 c0_3, .slice a0_4 n0_4 c0_4, .slice a0_5 n0_5 c0_5, .slice a0_6 n0_6 c0_6])] [F0] [] A) := by have h := (((Law.start W).add hs0).box [.int .i64 x0_0, .string x0_1, .bool x0_2, .slice a0_3 n0_3 c0_3, .slice a0_4 n0_4 c0_4, .slice a0_5 n0_5 c0_5, .slice a0_6 n0_6 c0_6] 29); rw [hA] at h; exact h
  have HA := hide hA
  rw [hv0]
  show Calls Try.prog 3 #[.agg #[.int .i64 x0_0, .string x0_1, .bool x0_2, .slice a0_3 n0_3 c0_3, .slice a0_4 n0_4 c0_4, .slice a0_5 n0_5 c0_5, .slice a0_6 n0_6 c0_6]] W _
  clear hA
  by_cases g9_0 : (1048576 : Int) < ((F0.wt : Nat) : Int)
  · have hend := szV_lt g9_0
    have cc := HL0.out.cell (W.heap.size) _ mem_0
    have z0 := cc 0 _ rfl
    have z1 := cc 1 _ rfl
    have z2 := cc 2 _ rfl
    have z3 := cc 3 _ rfl
    have z4 := cc 4 _ rfl
    have z5 := cc 5 _ rfl
    have z6 := cc 6 _ rfl
    clear cc
    go_enter Try.func3, Try.ntmps3
    go_wp2_with fail
    rw [HA.out]
    refine (HS0.out A 1048576 (HL0.out.fo F0 mem_0) (by omega) (by omega)).mono ?_
    rintro e w1 ⟨rfl, b1⟩
    rw [hend]
    have HL2 : Hid (Law W [(W.heap.size, [.int .i64 x0_0, .string x0_1, .bool x0_2, .slice a0_3 n0_3 c0_3, .slice a0_4 n0_4 c0_4, .slice a0_5 n0_5 c0_5, .slice a0_6 n0_6 c0_6])] [F0] [] w1) := HL0.out.below b1
    clear b1 z0 z1 z2 z3 z4 z5 z6
    go_wp2_with fail
    go_ret
    exact ⟨rfl, HL2.out.be⟩
  obtain ⟨l0, hl0⟩ : ∃ l0 : Int, l0 = 1048576 - F0.wt := ⟨_, rfl⟩
  have he_0 : szV 1048576 F0.wt = l0 := by rw [szV_ge g9_0, hl0]
  have hge_0 : ¬ l0 < 0 := by omega
  have HLF0 : Hid (0 ≤ l0 ∧ l0 ≤ 1048576 ∧ F0.wt ≤ 1048576) := ⟨by omega, by omega, by omega⟩
  clear hl0 g9_0
  have hwt0 : F0.wt ≤ 1048576 := HLF0.out.2.2
  obtain ⟨AN, hAN⟩ : ∃ AN : Fo, AN = fnU F0 := ⟨_, rfl⟩
  have hAF : Fit E AN [.s 1] := by rw [hAN]; exact (fnU_fit hf0).1
  have hbA : AN.sct ≤ 1048577 := by rw [hAN]; exact (fnU_fit hf0).2
  have hr : ∃  (ym0 : Nat), ∀ G : Fo, G.sim AN → ∃ (dr_0 : Option Addr) (er_0 : Nat), G.vals = [.slice dr_0 ym0 er_0] := by
    replace hf : Fit E AN [.s 1] := hAF
    clear hAN hbA hAF
    obtain ⟨a0, n0, c0, k0, F0, rfl, -, hf⟩ := fit_s hf
    obtain rfl := fit_nil hf
    refine ⟨n0, fun G s_0 => ?_⟩
    obtain ⟨d0, e0, t0, u0, rfl, -, s_1⟩ := Fo.sim_s s_0
    obtain rfl := Fo.sim_nil s_1
    exact ⟨d0, e0, rfl⟩
  obtain ⟨ym0, hR⟩ := hr
  have hAS : ∃ a c K, AN = .s a ym0 c K .nil := by
    clear hAN hbA
    obtain ⟨a, n, c, k, F, rfl, -, h⟩ := fit_s hAF
    obtain rfl := fit_nil h
    obtain ⟨d, e, h2⟩ := hR _ (Fo.sim.refl _)
    simp only [Fo.vals, List.cons.injEq, Value.slice.injEq, and_true] at h2
    obtain ⟨rfl, rfl, rfl⟩ := h2
    exact ⟨_, _, _, rfl⟩
  obtain ⟨aA, cA, KA, hAS⟩ := hAS
  have HTo0 : Hid (∀ V, F0.Subs V (fun c => c < V.heap.size) → Calls Try.prog 6 #[.agg #[.int .i64 x0_0, .string x0_1, .bool x0_2, .slice a0_3 n0_3 c0_3, .slice a0_4 n0_4 c0_4, .slice a0_5 n0_5 c0_5, .slice a0_6 n0_6 c0_6]] V fun e w' => ∃ (d0_3 d0_4 d0_5 d0_6 : Option Addr) (e0_3 e0_4 e0_5 e0_6 : Nat) (G : Fo), e = .returned (.agg #[.int .i64 x0_0, .string x0_1, .bool x0_2, .slice d0_3 n0_3 e0_3, .slice d0_4 n0_4 e0_4, .slice d0_5 n0_5 e0_5, .slice d0_6 n0_6 e0_6]) ∧ Hid (G.vals = [.int .i64 x0_0, .string x0_1, .bool x0_2, .slice d0_3 n0_3 e0_3, .slice d0_4 n0_4 e0_4, .slice d0_5 n0_5 e0_5, .slice d0_6 n0_6 e0_6] ∧ G.sim F0 ∧ Own V.heap.size w' G) ∧ Hid (Below V.heap.size V w')) := fun V hV => by
    refine (toC_rec to_C_Core_all hv0 HFi0.out hwt0 V hV).mono ?_
    rintro e w' ⟨G, rfl, g1, g3, g2⟩
    obtain ⟨d0_3, d0_4, d0_5, d0_6, e0_3, e0_4, e0_5, e0_6, g4⟩ := hG0 G g1
    exact ⟨d0_3, d0_4, d0_5, d0_6, e0_3, e0_4, e0_5, e0_6, G, by rw [g4], ⟨g4, g1, g3⟩, g2⟩
  have HEa0 : Hid (∀ V (d0_3 d0_4 d0_5 d0_6 : Option Addr) (e0_3 e0_4 e0_5 e0_6 : Nat) (p0_3 p0_4 p0_5 p0_6 : Option Addr) (q0_3 q0_4 q0_5 q0_6 : Nat) (Q R : Fo), Hid (Q.vals = [.int .i64 x0_0, .string x0_1, .bool x0_2, .slice d0_3 n0_3 e0_3, .slice d0_4 n0_4 e0_4, .slice d0_5 n0_5 e0_5, .slice d0_6 n0_6 e0_6] ∧ Q.sim F0 ∧ Q.Subs V (fun c => c < V.heap.size)) → Hid (R.vals = [.int .i64 x0_0, .string x0_1, .bool x0_2, .slice p0_3 n0_3 q0_3, .slice p0_4 n0_4 q0_4, .slice p0_5 n0_5 q0_5, .slice p0_6 n0_6 q0_6] ∧ R.sim F0 ∧ R.Subs V (fun c => c < V.heap.size)) → Calls Try.prog 9 #[.agg #[.int .i64 x0_0, .string x0_1, .bool x0_2, .slice d0_3 n0_3 e0_3, .slice d0_4 n0_4 e0_4, .slice d0_5 n0_5 e0_5, .slice d0_6 n0_6 e0_6], .agg #[.int .i64 x0_0, .string x0_1, .bool x0_2, .slice p0_3 n0_3 q0_3, .slice p0_4 n0_4 q0_4, .slice p0_5 n0_5 q0_5, .slice p0_6 n0_6 q0_6]] V fun e w' => e = .returned (.bool true) ∧ Hid (Below V.heap.size V w')) := fun V d0_3 d0_4 d0_5 d0_6 e0_3 e0_4 e0_5 e0_6 p0_3 p0_4 p0_5 p0_6 q0_3 q0_4 q0_5 q0_6 Q R h h2 => eqC_rec eq_C_Core_all HFi0.out V _ _ Q R h h2
  have HMo : Hid (∀ V (d0_3 d0_4 d0_5 d0_6 : Option Addr) (e0_3 e0_4 e0_5 e0_6 : Nat) (G0 : Fo) (lo0 : Nat), Hid (G0.vals = [.int .i64 x0_0, .string x0_1, .bool x0_2, .slice d0_3 n0_3 e0_3, .slice d0_4 n0_4 e0_4, .slice d0_5 n0_5 e0_5, .slice d0_6 n0_6 e0_6] ∧ G0.sim F0 ∧ Own lo0 V G0) → Calls Try.prog 5 #[.agg #[.int .i64 x0_0, .string x0_1, .bool x0_2, .slice d0_3 n0_3 e0_3, .slice d0_4 n0_4 e0_4, .slice d0_5 n0_5 e0_5, .slice d0_6 n0_6 e0_6]] V fun e w' => ∃ (pr_0 : Option Addr) (qr_0 : Nat) (R : Fo), e = .returned (.slice pr_0 ym0 qr_0) ∧ Hid (R.vals = [.slice pr_0 ym0 qr_0] ∧ R.sim AN ∧ R.Subs w' (fun c => c < w'.heap.size)) ∧ Hid (Below V.heap.size V w')) := fun V d0_3 d0_4 d0_5 d0_6 e0_3 e0_4 e0_5 e0_6 G0 lo0 h0 => by
    obtain ⟨v0, s0', o0⟩ := h0.out
    have h := m_FN G0 V (s0'.fit HFi0.out) (by rw [s0'.wt]; exact hwt0)  (o0.subs.mono (fun _ x => x.2))
    rw [v0] at h
    refine h.mono ?_
    rintro e w' ⟨pz, qz, R, rfl, r6, r1, r3, r2⟩
    have r5 : R.sim AN := by rw [hAN]; exact r1.trans (fnU_sim HFi0.out s0')
    obtain ⟨pr_0, qr_0, r4⟩ := hR R r5
    exact ⟨pr_0, qr_0, R, congrArg Ending.returned (List.cons.inj (r6.symm.trans r4)).1, ⟨r4, r5, r3⟩, r2⟩
  have HPr : Hid (∀ V (d0_3 d0_4 d0_5 d0_6 : Option Addr) (e0_3 e0_4 e0_5 e0_6 : Nat) (G0 : Fo) (lo0 : Nat), Hid (G0.vals = [.int .i64 x0_0, .string x0_1, .bool x0_2, .slice d0_3 n0_3 e0_3, .slice d0_4 n0_4 e0_4, .slice d0_5 n0_5 e0_5, .slice d0_6 n0_6 e0_6] ∧ G0.sim F0 ∧ Own lo0 V G0) → Calls Try.prog 7 #[.agg #[.int .i64 x0_0, .string x0_1, .bool x0_2, .slice d0_3 n0_3 e0_3, .slice d0_4 n0_4 e0_4, .slice d0_5 n0_5 e0_5, .slice d0_6 n0_6 e0_6]] V fun e w' => ∃ (pr_0 : Option Addr) (qr_0 : Nat) (R : Fo), e = .returned (.slice pr_0 ym0 qr_0) ∧ Hid (R.vals = [.slice pr_0 ym0 qr_0] ∧ R.sim AN ∧ Own V.heap.size w' R) ∧ Hid (Below V.heap.size V w')) := fun V d0_3 d0_4 d0_5 d0_6 e0_3 e0_4 e0_5 e0_6 G0 lo0 h0 => by
    obtain ⟨v0, s0', o0⟩ := h0.out
    have h := i_FN G0 V (s0'.fit HFi0.out) (by rw [s0'.wt]; exact hwt0)  (o0.subs.mono (fun _ x => x.2))
    rw [v0] at h
    refine h.mono ?_
    rintro e w' ⟨pz, qz, R, rfl, r6, r1, r3, r2⟩
    have r5 : R.sim AN := by rw [hAN]; exact r1.trans (fnU_sim HFi0.out s0')
    obtain ⟨pr_0, qr_0, r4⟩ := hR R r5
    exact ⟨pr_0, qr_0, R, congrArg Ending.returned (List.cons.inj (r6.symm.trans r4)).1, ⟨r4, r5, r3⟩, r2⟩
  have HEr : Hid (∀ V (dr_0 : Option Addr) (er_0 : Nat) (pr_0 : Option Addr) (qr_0 : Nat) (Q R : Fo), Hid (Q.vals = [.slice dr_0 ym0 er_0] ∧ Q.sim AN ∧ Q.Subs V (fun c => c < V.heap.size)) → Hid (R.vals = [.slice pr_0 ym0 qr_0] ∧ R.sim AN ∧ R.Subs V (fun c => c < V.heap.size)) → Calls Try.prog 8 #[.slice dr_0 ym0 er_0, .slice pr_0 ym0 qr_0] V fun e w' => e = .returned (.bool true) ∧ Hid (Below V.heap.size V w')) := fun V dr_0 er_0 pr_0 qr_0 Q R h h2 => eqR_rec eq_R_StringS hAS hAF V _ _ _ _ Q R h h2
  have hb0 := (Fit.bounds (M := 9) hEM F0 _ HFi0.out).2.1
  obtain ⟨KA0, hKA0⟩ : ∃ KA : Nat, 1 + F0.sct = KA := ⟨_, rfl⟩
  have hka0 : ¬ (KA0 : Int) < 0 := by omega
  have HMa0 : Hid (∀ V (d0_3 d0_4 d0_5 d0_6 : Option Addr) (e0_3 e0_4 e0_5 e0_6 : Nat) (G : Fo) (lo : Nat), G.vals = [.int .i64 x0_0, .string x0_1, .bool x0_2, .slice d0_3 n0_3 e0_3, .slice d0_4 n0_4 e0_4, .slice d0_5 n0_5 e0_5, .slice d0_6 n0_6 e0_6] → G.sim F0 → Own lo V G → Calls Try.prog 10 #[.agg #[.int .i64 x0_0, .string x0_1, .bool x0_2, .slice d0_3 n0_3 e0_3, .slice d0_4 n0_4 e0_4, .slice d0_5 n0_5 e0_5, .slice d0_6 n0_6 e0_6], .int .i64 (1 : Int)] V fun e w' => e = .returned (.int .i64 (KA0 : Int)) ∧ Hid (Kept (fun c => c ∉ G.inn) V w')) := fun V d0_3 d0_4 d0_5 d0_6 e0_3 e0_4 e0_5 e0_6 G lo g4 g1 g3 => by
    have h1 := mkC_rec mk_C_Core HFi0.out V _ G lo 1 (by omega) (by omega) g4 g1 g3
    rw [hKA0] at h1
    exact h1.mono (fun e w' h => ⟨h.1, h.2.2⟩)
  obtain ⟨KR, hKR⟩ : ∃ KR : Nat, 1 + AN.sct = KR := ⟨_, rfl⟩
  have hkr : ¬ (KR : Int) < 0 := by omega
  have HMr : Hid (∀ V (dr_0 : Option Addr) (er_0 : Nat) (G : Fo) (lo : Nat), Hid (G.vals = [.slice dr_0 ym0 er_0] ∧ G.sim AN ∧ Own lo V G) → Calls Try.prog 11 #[.slice dr_0 ym0 er_0, .int .i64 1] V fun e w' => e = .returned (.int .i64 (KR : Int)) ∧ Hid ((G.mks 1).Subs w' (fun c => c < w'.heap.size)) ∧ Hid (Kept (fun c => c ∉ G.inn) V w')) := fun V dr_0 er_0 G lo h => by
    obtain ⟨g4, g1, g3⟩ := h.out
    have h1 := mkR_rec mk_R_StringS hAS hAF V _ _ G lo 1 (by omega) (by omega) g4 g1 g3
    rw [hKR] at h1
    exact h1
  have HHr : Hid (∀ V (dr_0 : Option Addr) (er_0 : Nat) (G : Fo), G.vals = [.slice dr_0 ym0 er_0] → G.sim AN → (G.mks 1).Subs V (fun c => c < V.heap.size) → Calls Try.prog 12 #[.slice dr_0 ym0 er_0, .int .i64 1] V fun e w' => e = .returned (.int .i64 (KR : Int)) ∧ Hid (Below V.heap.size V w')) := fun V dr_0 er_0 G g4 g1 g3 => by
    have h1 := hdR_rec hd_R_StringS hAS hAF V _ _ G 1 (by omega) (by omega) g4 g1 g3
    rw [hKR] at h1
    exact h1
  clear hR hAF hAS hAN hbA hKR hv0 hf0 hs0 hwt0 hb0 hKA0 hG0   
  have cc := HL0.out.cell (W.heap.size) _ mem_0
  have z0 := cc 0 _ rfl
  have z1 := cc 1 _ rfl
  have z2 := cc 2 _ rfl
  have z3 := cc 3 _ rfl
  have z4 := cc 4 _ rfl
  have z5 := cc 5 _ rfl
  have z6 := cc 6 _ rfl
  clear cc
  go_enter Try.func3, Try.ntmps3
  go_wp2_with fail
  rw [HA.out]
  clear HA
  refine (HS0.out A 1048576 (HL0.out.fo F0 mem_0) (by omega) (by omega)).mono ?_
  rintro e w3 ⟨rfl, b1⟩
  rw [he_0]
  have HL4 : Hid (Law W [(W.heap.size, [.int .i64 x0_0, .string x0_1, .bool x0_2, .slice a0_3 n0_3 c0_3, .slice a0_4 n0_4 c0_4, .slice a0_5 n0_5 c0_5, .slice a0_6 n0_6 c0_6])] [F0] [] w3) := HL0.out.below b1
  clear b1 HL0 HS0 he_0 z0 z1 z2 z3 z4 z5 z6
  have cc := HL4.out.cell (W.heap.size) _ mem_0
  have z0 := cc 0 _ rfl
  have z1 := cc 1 _ rfl
  have z2 := cc 2 _ rfl
  have z3 := cc 3 _ rfl
  have z4 := cc 4 _ rfl
  have z5 := cc 5 _ rfl
  have z6 := cc 6 _ rfl
  clear cc
  go_wp2_with fail
  refine (HTo0.out w3 (HL4.out.fo F0 mem_0)).mono ?_
  rintro e w5 ⟨md0_3, md0_4, md0_5, md0_6, me0_3, me0_4, me0_5, me0_6, Gm0, rfl, g1, b2⟩
  have HL6 : Hid (Law W [(W.heap.size, [.int .i64 x0_0, .string x0_1, .bool x0_2, .slice a0_3 n0_3 c0_3, .slice a0_4 n0_4 c0_4, .slice a0_5 n0_5 c0_5, .slice a0_6 n0_6 c0_6])] [Gm0, F0] [(w3.heap.size, Gm0)] w5) := (HL4.out.below b2.out).adds g1.out.2.2
  have HVGm0 : Hid (Gm0.vals = [.int .i64 x0_0, .string x0_1, .bool x0_2, .slice md0_3 n0_3 me0_3, .slice md0_4 n0_4 me0_4, .slice md0_5 n0_5 me0_5, .slice md0_6 n0_6 me0_6] ∧ Gm0.sim F0) := ⟨g1.out.1, g1.out.2.1⟩
  clear g1 b2 HL4 z0 z1 z2 z3 z4 z5 z6
  have HC := hide (HMo.out w5 md0_3 md0_4 md0_5 md0_6 me0_3 me0_4 me0_5 me0_6 Gm0 _ ⟨HVGm0.out.1, HVGm0.out.2, HL6.out.ow (_, Gm0) mem_0⟩)
  go_wp2_with fail
  refine HC.out.mono ?_
  rintro e w7 ⟨par_0, qar_0, R0, rfl, r0, b3⟩
  have HL9 : Hid (Law W [(W.heap.size, [.int .i64 x0_0, .string x0_1, .bool x0_2, .slice a0_3 n0_3 c0_3, .slice a0_4 n0_4 c0_4, .slice a0_5 n0_5 c0_5, .slice a0_6 n0_6 c0_6])] [R0, F0] [] w7) := by unfold Hid; exact ((HL6.out.below b3.out).drop (fun _ x => x) (all1 mem_1) (fun p hp => absurd hp List.not_mem_nil)).add r0.out.2.2
  have HR0 : Hid (R0.vals = [.slice par_0 ym0 qar_0] ∧ R0.sim AN ∧ ∀ c ∈ R0.inn, c < w7.heap.size) := ⟨r0.out.1, r0.out.2.1, r0.out.2.2.inn_of⟩
  have HZ0 : Hid (W.heap.size ≤ w7.heap.size ∧ W.heap.size < w7.heap.size) := ⟨(HL6.out.below b3.out).be.size, (HL6.out.below b3.out).lt (W.heap.size) _ mem_0⟩
  clear HC HL6 r0 b3 HVGm0
  go_upto_region 6 with fail
  have cc := HL9.out.cell (W.heap.size) _ mem_0
  have z0 := cc 0 _ rfl
  have z1 := cc 1 _ rfl
  have z2 := cc 2 _ rfl
  have z3 := cc 3 _ rfl
  have z4 := cc 4 _ rfl
  have z5 := cc 5 _ rfl
  have z6 := cc 6 _ rfl
  clear cc
  go_wp2_with fail
  refine (HTo0.out w7 (HL9.out.fo F0 mem_1)).mono ?_
  rintro e w10 ⟨xd0_3, xd0_4, xd0_5, xd0_6, xe0_3, xe0_4, xe0_5, xe0_6, X0, rfl, g1, b2⟩
  have HX0 : Hid (X0.vals = [.int .i64 x0_0, .string x0_1, .bool x0_2, .slice xd0_3 n0_3 xe0_3, .slice xd0_4 n0_4 xe0_4, .slice xd0_5 n0_5 xe0_5, .slice xd0_6 n0_6 xe0_6] ∧ X0.sim F0 ∧ ∀ c ∈ X0.inn, w7.heap.size ≤ c ∧ c < w10.heap.size) := ⟨g1.out.1, g1.out.2.1, g1.out.2.2.subs.inn_of⟩
  obtain ⟨V11, hV⟩ : ∃ V, w10.alloc (.cells #[.int .i64 x0_0, .string x0_1, .bool x0_2, .slice xd0_3 n0_3 xe0_3, .slice xd0_4 n0_4 xe0_4, .slice xd0_5 n0_5 xe0_5, .slice xd0_6 n0_6 xe0_6] 36) = V := ⟨_, rfl⟩
  have HL12 : Hid (Law W [(w10.heap.size, [.int .i64 x0_0, .string x0_1, .bool x0_2, .slice xd0_3 n0_3 xe0_3, .slice xd0_4 n0_4 xe0_4, .slice xd0_5 n0_5 xe0_5, .slice xd0_6 n0_6 xe0_6]), (W.heap.size, [.int .i64 x0_0, .string x0_1, .bool x0_2, .slice a0_3 n0_3 c0_3, .slice a0_4 n0_4 c0_4, .slice a0_5 n0_5 c0_5, .slice a0_6 n0_6 c0_6])] [X0, R0, F0] [(w7.heap.size, X0)] V11) := by unfold Hid; rw [← hV]; exact ((HL9.out.below b2.out).adds g1.out.2.2).box _ _
  have HZ1 : Hid (V11.heap.size = w10.heap.size + 1 ∧ w7.heap.size ≤ w10.heap.size) := ⟨by rw [← hV]; simp, b2.out.size⟩
  have HV := hide hV
  clear g1 b2 hV HL9 z0 z1 z2 z3 z4 z5 z6
  go_upto_region 7 with fail
  rw [HV.out]
  clear HV
  have cc := HL12.out.cell (w10.heap.size) _ mem_0
  have z0_0 := cc 0 _ rfl
  have z0_1 := cc 1 _ rfl
  have z0_2 := cc 2 _ rfl
  have z0_3 := cc 3 _ rfl
  have z0_4 := cc 4 _ rfl
  have z0_5 := cc 5 _ rfl
  have z0_6 := cc 6 _ rfl
  clear cc
  have HC := hide (HPr.out V11 xd0_3 xd0_4 xd0_5 xd0_6 xe0_3 xe0_4 xe0_5 xe0_6 X0 _ ⟨HX0.out.1, HX0.out.2.1, HL12.out.ow (_, X0) mem_0⟩)
  go_wp2_with fail
  refine HC.out.mono ?_
  rintro e w13 ⟨pbr_0, qbr_0, R1, rfl, r1, b5⟩
  have HL15 : Hid (Law W [(w10.heap.size, [.int .i64 x0_0, .string x0_1, .bool x0_2, .slice xd0_3 n0_3 xe0_3, .slice xd0_4 n0_4 xe0_4, .slice xd0_5 n0_5 xe0_5, .slice xd0_6 n0_6 xe0_6]), (W.heap.size, [.int .i64 x0_0, .string x0_1, .bool x0_2, .slice a0_3 n0_3 c0_3, .slice a0_4 n0_4 c0_4, .slice a0_5 n0_5 c0_5, .slice a0_6 n0_6 c0_6])] [R1, X0, R0, F0] [(V11.heap.size, R1), (w7.heap.size, X0)] w13) := by unfold Hid; exact (HL12.out.below b5.out).adds r1.out.2.2
  have HR1 : Hid (R1.vals = [.slice pbr_0 ym0 qbr_0] ∧ R1.sim AN ∧ ∀ c ∈ R1.inn, V11.heap.size ≤ c ∧ c < w13.heap.size) := ⟨r1.out.1, r1.out.2.1, r1.out.2.2.subs.inn_of⟩
  have HZ9 : Hid (V11.heap.size ≤ w13.heap.size) := b5.out.size
  clear HC HL12 r1 b5 z0_0 z0_1 z0_2 z0_3 z0_4 z0_5 z0_6
  go_upto_region 8 with fail
  have HC := hide (HEr.out w13 pbr_0 qbr_0 par_0 qar_0 R1 R0 ⟨HR1.out.1, HR1.out.2.1, HL15.out.fo R1 mem_0⟩ ⟨HR0.out.1, HR0.out.2.1, HL15.out.fo R0 mem_2⟩)
  go_wp2_with fail
  refine HC.out.mono ?_
  rintro e w16 ⟨rfl, b6⟩
  have HL17 : Hid (Law W [(w10.heap.size, [.int .i64 x0_0, .string x0_1, .bool x0_2, .slice xd0_3 n0_3 xe0_3, .slice xd0_4 n0_4 xe0_4, .slice xd0_5 n0_5 xe0_5, .slice xd0_6 n0_6 xe0_6]), (W.heap.size, [.int .i64 x0_0, .string x0_1, .bool x0_2, .slice a0_3 n0_3 c0_3, .slice a0_4 n0_4 c0_4, .slice a0_5 n0_5 c0_5, .slice a0_6 n0_6 c0_6])] [R1, X0, R0, F0] [(V11.heap.size, R1), (w7.heap.size, X0)] w16) := HL15.out.below b6.out
  clear HC HL15 b6
  go_upto_region 10 with fail
  have cc := HL17.out.cell (W.heap.size) _ mem_1
  have z0 := cc 0 _ rfl
  have z1 := cc 1 _ rfl
  have z2 := cc 2 _ rfl
  have z3 := cc 3 _ rfl
  have z4 := cc 4 _ rfl
  have z5 := cc 5 _ rfl
  have z6 := cc 6 _ rfl
  clear cc
  have cc := HL17.out.cell (w10.heap.size) _ mem_0
  have u0 := cc 0 _ rfl
  have u1 := cc 1 _ rfl
  have u2 := cc 2 _ rfl
  have u3 := cc 3 _ rfl
  have u4 := cc 4 _ rfl
  have u5 := cc 5 _ rfl
  have u6 := cc 6 _ rfl
  clear cc
  have HSQ : Hid (∀ V, Below w16.heap.size w16 V → V.cell? ⟨W.heap.size, 0, none⟩ = some (.int .i64 x0_0) ∧ V.cell? ⟨W.heap.size, 1, none⟩ = some (.string x0_1) ∧ V.cell? ⟨W.heap.size, 2, none⟩ = some (.bool x0_2) ∧ V.cell? ⟨W.heap.size, 3, none⟩ = some (.slice a0_3 n0_3 c0_3) ∧ V.cell? ⟨W.heap.size, 4, none⟩ = some (.slice a0_4 n0_4 c0_4) ∧ V.cell? ⟨W.heap.size, 5, none⟩ = some (.slice a0_5 n0_5 c0_5) ∧ V.cell? ⟨W.heap.size, 6, none⟩ = some (.slice a0_6 n0_6 c0_6) ∧ V.cell? ⟨w10.heap.size, 0, none⟩ = some (.int .i64 x0_0) ∧ V.cell? ⟨w10.heap.size, 1, none⟩ = some (.string x0_1) ∧ V.cell? ⟨w10.heap.size, 2, none⟩ = some (.bool x0_2) ∧ V.cell? ⟨w10.heap.size, 3, none⟩ = some (.slice xd0_3 n0_3 xe0_3) ∧ V.cell? ⟨w10.heap.size, 4, none⟩ = some (.slice xd0_4 n0_4 xe0_4) ∧ V.cell? ⟨w10.heap.size, 5, none⟩ = some (.slice xd0_5 n0_5 xe0_5) ∧ V.cell? ⟨w10.heap.size, 6, none⟩ = some (.slice xd0_6 n0_6 xe0_6)) := fun V hb => by
    have hl := HL17.out.below hb
    have cz := hl.cell (W.heap.size) _ mem_1
    have cu := hl.cell (w10.heap.size) _ mem_0
    exact ⟨cz 0 _ rfl, cz 1 _ rfl, cz 2 _ rfl, cz 3 _ rfl, cz 4 _ rfl, cz 5 _ rfl, cz 6 _ rfl, cu 0 _ rfl, cu 1 _ rfl, cu 2 _ rfl, cu 3 _ rfl, cu 4 _ rfl, cu 5 _ rfl, cu 6 _ rfl⟩
  have HDR : Hid (Below w16.heap.size w16 w16.drew) := (Below.refl _ _).drew
  have k0' := HSQ.out w16.drew HDR.out
  have HT6 : Hid (Calls Try.prog 6 #[.agg #[.int .i64 x0_0, .string x0_1, .bool x0_2, .slice a0_3 n0_3 c0_3, .slice a0_4 n0_4 c0_4, .slice a0_5 n0_5 c0_5, .slice a0_6 n0_6 c0_6]] w16.drew fun e w' => ∃ (d0_3 d0_4 d0_5 d0_6 : Option Addr) (e0_3 e0_4 e0_5 e0_6 : Nat) (G : Fo), e = .returned (.agg #[.int .i64 x0_0, .string x0_1, .bool x0_2, .slice d0_3 n0_3 e0_3, .slice d0_4 n0_4 e0_4, .slice d0_5 n0_5 e0_5, .slice d0_6 n0_6 e0_6]) ∧ Hid (G.vals = [.int .i64 x0_0, .string x0_1, .bool x0_2, .slice d0_3 n0_3 e0_3, .slice d0_4 n0_4 e0_4, .slice d0_5 n0_5 e0_5, .slice d0_6 n0_6 e0_6] ∧ G.sim F0 ∧ G.Subs w' (fun c => c < w'.heap.size)) ∧ Hid (Below w16.heap.size w16 w')) := (HTo0.out w16.drew ((HL17.out.below HDR.out).fo F0 mem_3)).mono (by
    rintro e w' ⟨d0_3, d0_4, d0_5, d0_6, e0_3, e0_4, e0_5, e0_6, G, g1, g2, g3⟩
    exact ⟨d0_3, d0_4, d0_5, d0_6, e0_3, e0_4, e0_5, e0_6, G, g1, ⟨g2.out.1, g2.out.2.1, g2.out.2.2.subs.mono (fun _ x => x.2)⟩, HDR.out.trans g3.out⟩)
  have HE6 : Hid (∀ w8 (d0_3 d0_4 d0_5 d0_6 : Option Addr) (e0_3 e0_4 e0_5 e0_6 : Nat) (G : Fo), Hid (G.vals = [.int .i64 x0_0, .string x0_1, .bool x0_2, .slice d0_3 n0_3 e0_3, .slice d0_4 n0_4 e0_4, .slice d0_5 n0_5 e0_5, .slice d0_6 n0_6 e0_6] ∧ G.sim F0 ∧ G.Subs w8 (fun c => c < w8.heap.size)) → Hid (Below w16.heap.size w16 w8) → Calls Try.prog 9 #[.agg #[.int .i64 x0_0, .string x0_1, .bool x0_2, .slice xd0_3 n0_3 xe0_3, .slice xd0_4 n0_4 xe0_4, .slice xd0_5 n0_5 xe0_5, .slice xd0_6 n0_6 xe0_6], .agg #[.int .i64 x0_0, .string x0_1, .bool x0_2, .slice d0_3 n0_3 e0_3, .slice d0_4 n0_4 e0_4, .slice d0_5 n0_5 e0_5, .slice d0_6 n0_6 e0_6]] w8 fun e w' => e = .returned (.bool true) ∧ Hid (Below w16.heap.size w16 w')) := fun w8 d0_3 d0_4 d0_5 d0_6 e0_3 e0_4 e0_5 e0_6 G hg hb => (HEa0.out w8 xd0_3 xd0_4 xd0_5 xd0_6 xe0_3 xe0_4 xe0_5 xe0_6 d0_3 d0_4 d0_5 d0_6 e0_3 e0_4 e0_5 e0_6 X0 G ⟨HX0.out.1, HX0.out.2.1, (HL17.out.below hb.out).fo X0 mem_1⟩ hg).mono (fun e w' h => ⟨h.1, hb.out.trans (h.2.out.mono hb.out.size)⟩)
  go_cut [31] (fun s wx => s = .bool false ∧ Below w16.heap.size w16 wx)
  case first =>
    go_region_held3 (fun V => V.cell? ⟨W.heap.size, 0, none⟩ = some (.int .i64 x0_0) ∧ V.cell? ⟨W.heap.size, 1, none⟩ = some (.string x0_1) ∧ V.cell? ⟨W.heap.size, 2, none⟩ = some (.bool x0_2) ∧ V.cell? ⟨W.heap.size, 3, none⟩ = some (.slice a0_3 n0_3 c0_3) ∧ V.cell? ⟨W.heap.size, 4, none⟩ = some (.slice a0_4 n0_4 c0_4) ∧ V.cell? ⟨W.heap.size, 5, none⟩ = some (.slice a0_5 n0_5 c0_5) ∧ V.cell? ⟨W.heap.size, 6, none⟩ = some (.slice a0_6 n0_6 c0_6) ∧ V.cell? ⟨w10.heap.size, 0, none⟩ = some (.int .i64 x0_0) ∧ V.cell? ⟨w10.heap.size, 1, none⟩ = some (.string x0_1) ∧ V.cell? ⟨w10.heap.size, 2, none⟩ = some (.bool x0_2) ∧ V.cell? ⟨w10.heap.size, 3, none⟩ = some (.slice xd0_3 n0_3 xe0_3) ∧ V.cell? ⟨w10.heap.size, 4, none⟩ = some (.slice xd0_4 n0_4 xe0_4) ∧ V.cell? ⟨w10.heap.size, 5, none⟩ = some (.slice xd0_5 n0_5 xe0_5) ∧ V.cell? ⟨w10.heap.size, 6, none⟩ = some (.slice xd0_6 n0_6 xe0_6))
      (first | with_reducible exact k9' | with_reducible exact k8' | with_reducible exact k0')
      (first
        | (go_at_call 6; refine HT6.out.mono ?_; rintro e w8 ⟨yd0_3, yd0_4, yd0_5, yd0_6, ye0_3, ye0_4, ye0_5, ye0_6, Gx, rfl, g3, b8⟩; have k8' := HSQ.out w8 b8.out)
        | (go_at_call 9; refine (HE6.out w8 yd0_3 yd0_4 yd0_5 yd0_6 ye0_3 ye0_4 ye0_5 ye0_6 Gx g3 b8).mono ?_; rintro e w9 ⟨rfl, b9⟩; have k9' := HSQ.out w9 b9.out))
    all_goals
      go_wp2_with fail
      go_meet
      case rel => exact ⟨rfl, b9.out⟩
  case rest =>
    obtain ⟨rfl, hcb⟩ := hcut
    rename World => w18
    have HL19 : Hid (Law W [(w10.heap.size, [.int .i64 x0_0, .string x0_1, .bool x0_2, .slice xd0_3 n0_3 xe0_3, .slice xd0_4 n0_4 xe0_4, .slice xd0_5 n0_5 xe0_5, .slice xd0_6 n0_6 xe0_6]), (W.heap.size, [.int .i64 x0_0, .string x0_1, .bool x0_2, .slice a0_3 n0_3 c0_3, .slice a0_4 n0_4 c0_4, .slice a0_5 n0_5 c0_5, .slice a0_6 n0_6 c0_6])] [R1, X0, R0, F0] [(V11.heap.size, R1), (w7.heap.size, X0)] w18) := HL17.out.below hcb
    clear hcb HL17 HSQ HDR HT6 HE6 k0' z0 z1 z2 z3 z4 z5 z6 u0 u1 u2 u3 u4 u5 u6
    have cc := HL19.out.cell (w10.heap.size) _ mem_0
    have z0 := cc 0 _ rfl
    have z1 := cc 1 _ rfl
    have z2 := cc 2 _ rfl
    have z3 := cc 3 _ rfl
    have z4 := cc 4 _ rfl
    have z5 := cc 5 _ rfl
    have z6 := cc 6 _ rfl
    clear cc
    have HC := hide (HMa0.out w18 xd0_3 xd0_4 xd0_5 xd0_6 xe0_3 xe0_4 xe0_5 xe0_6 X0 _ HX0.out.1 HX0.out.2.1 (HL19.out.ow (_, X0) mem_1))
    go_wp2_with fail
    refine HC.out.mono ?_
    rintro e w20 ⟨rfl, k10⟩
    have HL21 : Hid (Law W [(w10.heap.size, [.int .i64 x0_0, .string x0_1, .bool x0_2, .slice xd0_3 n0_3 xe0_3, .slice xd0_4 n0_4 xe0_4, .slice xd0_5 n0_5 xe0_5, .slice xd0_6 n0_6 xe0_6]), (W.heap.size, [.int .i64 x0_0, .string x0_1, .bool x0_2, .slice a0_3 n0_3 c0_3, .slice a0_4 n0_4 c0_4, .slice a0_5 n0_5 c0_5, .slice a0_6 n0_6 c0_6])] [R1, R0, F0] [(V11.heap.size, R1)] w20) := by 
      have h0 := HR0.out.2.2
      have h1 := HR1.out.2.2
      have hF0 := HFin0.out
      have hX0 := HX0.out.2.2
      have zz0 := HZ0.out
      have zz1 := HZ1.out
      have zz2 := HZ9.out
      refine (HL19.out.drop (fun _ x => x) (allc mem_0 (allc mem_2 (all1 mem_3))) (all1 mem_0)).kept k10.out (fun c hc hx => by have := hX0 _ hx; omega) (allc (fun hx => by have := hX0 _ hx; omega) (all1 (fun hx => by have := hX0 _ hx; omega))) (allc (fun c hc hx => by have := hX0 _ hx; have := h1 _ hc; omega) (allc (fun c hc hx => by have := hX0 _ hx; have := h0 _ hc; omega) (all1 (fun c hc hx => by have := hX0 _ hx; have := hF0 _ hc; omega)))) (all1 (fun c hc _ hx => by have := hX0 _ hx; omega))
    clear HC HL19 k10 z0 z1 z2 z3 z4 z5 z6
    go_upto_region 14 with fail
    have HC := hide (HEr.out w20 pbr_0 qbr_0 par_0 qar_0 R1 R0 ⟨HR1.out.1, HR1.out.2.1, HL21.out.fo R1 mem_0⟩ ⟨HR0.out.1, HR0.out.2.1, HL21.out.fo R0 mem_1⟩)
    go_wp2_with fail
    refine HC.out.mono ?_
    rintro e w22 ⟨rfl, b6⟩
    have HL23 : Hid (Law W [(w10.heap.size, [.int .i64 x0_0, .string x0_1, .bool x0_2, .slice xd0_3 n0_3 xe0_3, .slice xd0_4 n0_4 xe0_4, .slice xd0_5 n0_5 xe0_5, .slice xd0_6 n0_6 xe0_6]), (W.heap.size, [.int .i64 x0_0, .string x0_1, .bool x0_2, .slice a0_3 n0_3 c0_3, .slice a0_4 n0_4 c0_4, .slice a0_5 n0_5 c0_5, .slice a0_6 n0_6 c0_6])] [R1, R0, F0] [(V11.heap.size, R1)] w22) := HL21.out.below b6.out
    clear HC HL21 b6
    have HC := hide (HMr.out w22 pbr_0 qbr_0 R1 _ ⟨HR1.out.1, HR1.out.2.1, HL23.out.ow (_, R1) mem_0⟩)
    go_wp2_with fail
    refine HC.out.mono ?_
    rintro e w24 ⟨rfl, m12, k12⟩
    have HL25 : Hid (Law W [(w10.heap.size, [.int .i64 x0_0, .string x0_1, .bool x0_2, .slice xd0_3 n0_3 xe0_3, .slice xd0_4 n0_4 xe0_4, .slice xd0_5 n0_5 xe0_5, .slice xd0_6 n0_6 xe0_6]), (W.heap.size, [.int .i64 x0_0, .string x0_1, .bool x0_2, .slice a0_3 n0_3 c0_3, .slice a0_4 n0_4 c0_4, .slice a0_5 n0_5 c0_5, .slice a0_6 n0_6 c0_6])] [R1.mks 1, R0, F0] [] w24) := by 
      have h0 := HR0.out.2.2
      have h1 := HR1.out.2.2
      have hF0 := HFin0.out
      have zz0 := HZ0.out
      have zz1 := HZ1.out
      have zz2 := HZ9.out
      refine Law.add ((HL23.out.drop (fun _ x => x) (allc mem_1 (all1 mem_2)) (fun p hp => absurd hp List.not_mem_nil)).kept k12.out (fun c hc hx => by have := h1 c hx; omega) (allc (fun hx => by have := h1 _ hx; omega) (all1 (fun hx => by have := h1 _ hx; omega))) (allc (fun c hc hx => by have := h1 _ hx; have := h0 _ hc; omega) (all1 (fun c hc hx => by have := h1 _ hx; have := hF0 _ hc; omega))) (fun p hp => absurd hp List.not_mem_nil)) m12.out
    clear HC HL23 m12 k12
    have HC := hide (HHr.out w24 pbr_0 qbr_0 R1 HR1.out.1 HR1.out.2.1 (HL25.out.fo _ mem_0))
    go_wp2_with fail
    refine HC.out.mono ?_
    rintro e w26 ⟨rfl, b13⟩
    have HL27 : Hid (Law W [(w10.heap.size, [.int .i64 x0_0, .string x0_1, .bool x0_2, .slice xd0_3 n0_3 xe0_3, .slice xd0_4 n0_4 xe0_4, .slice xd0_5 n0_5 xe0_5, .slice xd0_6 n0_6 xe0_6]), (W.heap.size, [.int .i64 x0_0, .string x0_1, .bool x0_2, .slice a0_3 n0_3 c0_3, .slice a0_4 n0_4 c0_4, .slice a0_5 n0_5 c0_5, .slice a0_6 n0_6 c0_6])] [R1.mks 1, R0, F0] [] w26) := HL25.out.below b13.out
    clear HC HL25 b13
    have cc := HL27.out.cell (W.heap.size) _ mem_1
    have z0 := cc 0 _ rfl
    have z1 := cc 1 _ rfl
    have z2 := cc 2 _ rfl
    have z3 := cc 3 _ rfl
    have z4 := cc 4 _ rfl
    have z5 := cc 5 _ rfl
    have z6 := cc 6 _ rfl
    clear cc
    go_wp2_with fail
    refine (HTo0.out w26 (HL27.out.fo F0 mem_2)).mono ?_
    rintro e w28 ⟨hd0_3, hd0_4, hd0_5, hd0_6, he0_3, he0_4, he0_5, he0_6, Gh0, rfl, g1, b2⟩
    have HL29 : Hid (Law W [(w10.heap.size, [.int .i64 x0_0, .string x0_1, .bool x0_2, .slice xd0_3 n0_3 xe0_3, .slice xd0_4 n0_4 xe0_4, .slice xd0_5 n0_5 xe0_5, .slice xd0_6 n0_6 xe0_6]), (W.heap.size, [.int .i64 x0_0, .string x0_1, .bool x0_2, .slice a0_3 n0_3 c0_3, .slice a0_4 n0_4 c0_4, .slice a0_5 n0_5 c0_5, .slice a0_6 n0_6 c0_6])] [Gh0, R1.mks 1, R0, F0] [(w26.heap.size, Gh0)] w28) := (HL27.out.below b2.out).adds g1.out.2.2
    have HVGh0 : Hid (Gh0.vals = [.int .i64 x0_0, .string x0_1, .bool x0_2, .slice hd0_3 n0_3 he0_3, .slice hd0_4 n0_4 he0_4, .slice hd0_5 n0_5 he0_5, .slice hd0_6 n0_6 he0_6] ∧ Gh0.sim F0) := ⟨g1.out.1, g1.out.2.1⟩
    clear g1 b2 HL27 z0 z1 z2 z3 z4 z5 z6
    have HC := hide (HPr.out w28 hd0_3 hd0_4 hd0_5 hd0_6 he0_3 he0_4 he0_5 he0_6 Gh0 _ ⟨HVGh0.out.1, HVGh0.out.2, HL29.out.ow (_, Gh0) mem_0⟩)
    go_wp2_with fail
    refine HC.out.mono ?_
    rintro e w30 ⟨pdr_0, qdr_0, R2, rfl, r2, b15⟩
    have HL32 : Hid (Law W [(w10.heap.size, [.int .i64 x0_0, .string x0_1, .bool x0_2, .slice xd0_3 n0_3 xe0_3, .slice xd0_4 n0_4 xe0_4, .slice xd0_5 n0_5 xe0_5, .slice xd0_6 n0_6 xe0_6]), (W.heap.size, [.int .i64 x0_0, .string x0_1, .bool x0_2, .slice a0_3 n0_3 c0_3, .slice a0_4 n0_4 c0_4, .slice a0_5 n0_5 c0_5, .slice a0_6 n0_6 c0_6])] [R2, R1.mks 1, R0, F0] [] w30) := by unfold Hid; exact ((HL29.out.below b15.out).drop (fun _ x => x) (allc mem_1 (allc mem_2 (all1 mem_3))) (fun p hp => absurd hp List.not_mem_nil)).add (r2.out.2.2.subs.mono (fun _ x => x.2))
    have HR2 : Hid (R2.vals = [.slice pdr_0 ym0 qdr_0] ∧ R2.sim AN) := ⟨r2.out.1, r2.out.2.1⟩
    clear HC HL29 r2 b15 HVGh0
    go_upto_region 25 with fail
    have HC := hide (HEr.out w30 pdr_0 qdr_0 par_0 qar_0 R2 R0 ⟨HR2.out.1, HR2.out.2, HL32.out.fo R2 mem_0⟩ ⟨HR0.out.1, HR0.out.2.1, HL32.out.fo R0 mem_2⟩)
    go_wp2_with fail
    refine HC.out.mono ?_
    rintro e w33 ⟨rfl, b6⟩
    have HL34 : Hid (Law W [(w10.heap.size, [.int .i64 x0_0, .string x0_1, .bool x0_2, .slice xd0_3 n0_3 xe0_3, .slice xd0_4 n0_4 xe0_4, .slice xd0_5 n0_5 xe0_5, .slice xd0_6 n0_6 xe0_6]), (W.heap.size, [.int .i64 x0_0, .string x0_1, .bool x0_2, .slice a0_3 n0_3 c0_3, .slice a0_4 n0_4 c0_4, .slice a0_5 n0_5 c0_5, .slice a0_6 n0_6 c0_6])] [R2, R1.mks 1, R0, F0] [] w33) := HL32.out.below b6.out
    clear HC HL32 b6
    have HC := hide (HHr.out w33 pbr_0 qbr_0 R1 HR1.out.1 HR1.out.2.1 (HL34.out.fo _ mem_1))
    go_wp2_with fail
    refine HC.out.mono ?_
    rintro e w35 ⟨rfl, b13⟩
    have HL36 : Hid (Law W [(w10.heap.size, [.int .i64 x0_0, .string x0_1, .bool x0_2, .slice xd0_3 n0_3 xe0_3, .slice xd0_4 n0_4 xe0_4, .slice xd0_5 n0_5 xe0_5, .slice xd0_6 n0_6 xe0_6]), (W.heap.size, [.int .i64 x0_0, .string x0_1, .bool x0_2, .slice a0_3 n0_3 c0_3, .slice a0_4 n0_4 c0_4, .slice a0_5 n0_5 c0_5, .slice a0_6 n0_6 c0_6])] [R2, R1.mks 1, R0, F0] [] w35) := HL34.out.below b13.out
    clear HC HL34 b13
    go_wp2_with fail
    go_ret
    exact ⟨rfl, HL36.out.be⟩

end Go.Proofs.Ytcnokpaicnjkfaa
