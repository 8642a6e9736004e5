import Derived.Test.YtacaihhlcaoheaaXu
import Derived.Test.YtacaihhlcaoheaaUx
import Derived.Test.YtacaihhlcaoheaaKb
import Derived.Test.YtacaihhlcaoheaaJN
import Derived.Test.YtacaihhlcaoheaaJO
import Derived.Deep.RegionHeld3
import Derived.Deep.DeepCutAuto
namespace Go.Proofs.Ytacaihhlcaoheaa
open Go.RowKit Go.Joins

set_option maxHeartbeats 16000000 in
set_option maxRecDepth 100000 in
theorem lawSz (F0 : Fo) (W : World) (hf0 : Fit E F0 (E 3)) (hs0 : F0.Subs W (fun b => b < W.heap.size)) :
    Calls Try.prog 3 #[.agg F0.vals.toArray] W fun e W' => e = .returned (.bool true) ∧ Below W.heap.size W W' := by
  have hv0 : ∃ (x0_0 : Int) (x0_1 : ByteArray) (x0_2 : Bool) (a0_3 a0_4 a0_5 a0_6 : Option Addr) (c0_3 c0_4 c0_5 c0_6 : Nat) (n0_3 n0_4 n0_5 n0_6 : Nat), F0.vals = [.int .i64 x0_0, .string x0_1, .bool x0_2, .slice a0_3 n0_3 c0_3, .slice a0_4 n0_4 c0_4, .slice a0_5 n0_5 c0_5, .slice a0_6 n0_6 c0_6] ∧ ∀ G : Fo, G.sim F0 → ∃ (d0_3 d0_4 d0_5 d0_6 : Option Addr) (e0_3 e0_4 e0_5 e0_6 : Nat), G.vals = [.int .i64 x0_0, .string x0_1, .bool x0_2, .slice d0_3 n0_3 e0_3, .slice d0_4 n0_4 e0_4, .slice d0_5 n0_5 e0_5, .slice d0_6 n0_6 e0_6] := by
    replace hf : Fit E F0 [.i, .t, .b, .s 0, .s 1, .s 3, .s 2] := hf0
    clear hf0 hs0
    revert hf
    generalize F0 = F
    intro hf
    obtain ⟨x0, F0, rfl, -, hf⟩ := fit_i hf
    obtain ⟨x1, F1, rfl, -, hf⟩ := fit_t hf
    obtain ⟨x2, F2, rfl, hf⟩ := fit_b hf
    obtain ⟨a3, n3, c3, k3, F3, rfl, -, hf⟩ := fit_s hf
    obtain ⟨a4, n4, c4, k4, F4, rfl, -, hf⟩ := fit_s hf
    obtain ⟨a5, n5, c5, k5, F5, rfl, -, hf⟩ := fit_s hf
    obtain ⟨a6, n6, c6, k6, F6, rfl, -, hf⟩ := fit_s hf
    obtain rfl := fit_nil hf
    refine ⟨x0, x1, x2, a3, a4, a5, a6, c3, c4, c5, c6, n3, n4, n5, n6, rfl, fun G s_0 => ?_⟩
    obtain ⟨u0, rfl, s_1⟩ := Fo.sim_v s_0
    obtain ⟨u1, rfl, s_2⟩ := Fo.sim_v s_1
    obtain ⟨u2, rfl, s_3⟩ := Fo.sim_v s_2
    obtain ⟨d3, e3, t3, u3, rfl, -, s_4⟩ := Fo.sim_s s_3
    obtain ⟨d4, e4, t4, u4, rfl, -, s_5⟩ := Fo.sim_s s_4
    obtain ⟨d5, e5, t5, u5, rfl, -, s_6⟩ := Fo.sim_s s_5
    obtain ⟨d6, e6, t6, u6, rfl, -, s_7⟩ := Fo.sim_s s_6
    obtain rfl := Fo.sim_nil s_7
    exact ⟨d3, d4, d5, d6, e3, e4, e5, e6, rfl⟩
  obtain ⟨x0_0, x0_1, x0_2, a0_3, a0_4, a0_5, a0_6, c0_3, c0_4, c0_5, c0_6, n0_3, n0_4, n0_5, n0_6, hv0, hG0⟩ := hv0
  have HFi0 := hide hf0
  have HFin0 : Hid (∀ c ∈ F0.inn, c < W.heap.size) := hs0.inn_of
  have HS0 : Hid (∀ V (left : Int), F0.Subs V (fun c => c < V.heap.size) → 0 ≤ left → left ≤ 1048576 → Calls Try.prog 5 #[.agg #[.int .i64 x0_0, .string x0_1, .bool x0_2, .slice a0_3 n0_3 c0_3, .slice a0_4 n0_4 c0_4, .slice a0_5 n0_5 c0_5, .slice a0_6 n0_6 c0_6], .int .i64 left] V fun e w' => e = .returned (.int .i64 (szV left F0.wt)) ∧ Below V.heap.size V w') := fun V left hV h0 h1 => szC_rec sz_C_Core_all hv0 HFi0.out left h0 h1 V hV
  obtain ⟨A, hA⟩ : ∃ A, W.alloc (.cells #[.int .i64 x0_0, .string x0_1, .bool x0_2, .slice a0_3 n0_3 c0_3, .slice a0_4 n0_4 c0_4, .slice a0_5 n0_5 c0_5, .slice a0_6 n0_6 c0_6] 29) = A := ⟨_, rfl⟩
  have HL0 : Hid (Law W [(W.heap.size, [.int .i64 x0_0, .string x0_1, .bool x0_2, .slice a0_3 n0_3 c0_3, .slice a0_4 n0_4 c0_4, .slice a0_5 n0_5 c0_5, .slice a0_6 n0_6 c0_6])] [F0] [] A) := by have h := (((Law.start W).add hs0).box [.int .i64 x0_0, .string x0_1, .bool x0_2, .slice a0_3 n0_3 c0_3, .slice a0_4 n0_4 c0_4, .slice a0_5 n0_5 c0_5, .slice a0_6 n0_6 c0_6] 29); rw [hA] at h; exact h
  have HA := hide hA
  rw [hv0]
  show Calls Try.prog 3 #[.agg #[.int .i64 x0_0, .string x0_1, .bool x0_2, .slice a0_3 n0_3 c0_3, .slice a0_4 n0_4 c0_4, .slice a0_5 n0_5 c0_5, .slice a0_6 n0_6 c0_6]] W _
  clear hA
  by_cases g9_0 : (1048576 : Int) < ((F0.wt : Nat) : Int)
  · have hend := szV_lt g9_0
    have cc := HL0.out.cell (W.heap.size) _ mem_0
    have z0 := cc 0 _ rfl
    have z1 := cc 1 _ rfl
    have z2 := cc 2 _ rfl
    have z3 := cc 3 _ rfl
    have z4 := cc 4 _ rfl
    have z5 := cc 5 _ rfl
    have z6 := cc 6 _ rfl
    clear cc
    go_enter Try.func3, Try.ntmps3
    go_wp2_with fail
    rw [HA.out]
    refine (HS0.out A 1048576 (HL0.out.fo F0 mem_0) (by omega) (by omega)).mono ?_
    rintro e w1 ⟨rfl, b1⟩
    rw [hend]
    have HL2 : Hid (Law W [(W.heap.size, [.int .i64 x0_0, .string x0_1, .bool x0_2, .slice a0_3 n0_3 c0_3, .slice a0_4 n0_4 c0_4, .slice a0_5 n0_5 c0_5, .slice a0_6 n0_6 c0_6])] [F0] [] w1) := HL0.out.below b1
    clear b1 z0 z1 z2 z3 z4 z5 z6
    go_wp2_with fail
    go_ret
    exact ⟨rfl, HL2.out.be⟩
  obtain ⟨l0, hl0⟩ : ∃ l0 : Int, l0 = 1048576 - F0.wt := ⟨_, rfl⟩
  have he_0 : szV 1048576 F0.wt = l0 := by rw [szV_ge g9_0, hl0]
  have hge_0 : ¬ l0 < 0 := by omega
  have HLF0 : Hid (0 ≤ l0 ∧ l0 ≤ 1048576 ∧ F0.wt ≤ 1048576) := ⟨by omega, by omega, by omega⟩
  clear hl0 g9_0
  have hwt0 : F0.wt ≤ 1048576 := HLF0.out.2.2
  obtain ⟨qq, hqq⟩ : ∃ qq : Nat, qq = tcK F0 := ⟨_, rfl⟩
  have HTo0 : Hid (∀ V, F0.Subs V (fun c => c < V.heap.size) → Calls Try.prog 7 #[.agg #[.int .i64 x0_0, .string x0_1, .bool x0_2, .slice a0_3 n0_3 c0_3, .slice a0_4 n0_4 c0_4, .slice a0_5 n0_5 c0_5, .slice a0_6 n0_6 c0_6]] V fun e w' => ∃ (d0_3 d0_4 d0_5 d0_6 : Option Addr) (e0_3 e0_4 e0_5 e0_6 : Nat) (G : Fo), e = .returned (.agg #[.int .i64 x0_0, .string x0_1, .bool x0_2, .slice d0_3 n0_3 e0_3, .slice d0_4 n0_4 e0_4, .slice d0_5 n0_5 e0_5, .slice d0_6 n0_6 e0_6]) ∧ Hid (G.vals = [.int .i64 x0_0, .string x0_1, .bool x0_2, .slice d0_3 n0_3 e0_3, .slice d0_4 n0_4 e0_4, .slice d0_5 n0_5 e0_5, .slice d0_6 n0_6 e0_6] ∧ G.sim F0 ∧ Own V.heap.size w' G) ∧ Hid (Below V.heap.size V w')) := fun V hV => by
    refine (toC_rec to_C_Core_all hv0 HFi0.out hwt0 V hV).mono ?_
    rintro e w' ⟨G, rfl, g1, g3, g2⟩
    obtain ⟨d0_3, d0_4, d0_5, d0_6, e0_3, e0_4, e0_5, e0_6, g4⟩ := hG0 G g1
    exact ⟨d0_3, d0_4, d0_5, d0_6, e0_3, e0_4, e0_5, e0_6, G, by rw [g4], ⟨g4, g1, g3⟩, g2⟩
  have HEa0 : Hid (∀ V (d0_3 d0_4 d0_5 d0_6 : Option Addr) (e0_3 e0_4 e0_5 e0_6 : Nat) (p0_3 p0_4 p0_5 p0_6 : Option Addr) (q0_3 q0_4 q0_5 q0_6 : Nat) (Q R : Fo), Hid (Q.vals = [.int .i64 x0_0, .string x0_1, .bool x0_2, .slice d0_3 n0_3 e0_3, .slice d0_4 n0_4 e0_4, .slice d0_5 n0_5 e0_5, .slice d0_6 n0_6 e0_6] ∧ Q.sim F0 ∧ Q.Subs V (fun c => c < V.heap.size)) → Hid (R.vals = [.int .i64 x0_0, .string x0_1, .bool x0_2, .slice p0_3 n0_3 q0_3, .slice p0_4 n0_4 q0_4, .slice p0_5 n0_5 q0_5, .slice p0_6 n0_6 q0_6] ∧ R.sim F0 ∧ R.Subs V (fun c => c < V.heap.size)) → Calls Try.prog 9 #[.agg #[.int .i64 x0_0, .string x0_1, .bool x0_2, .slice d0_3 n0_3 e0_3, .slice d0_4 n0_4 e0_4, .slice d0_5 n0_5 e0_5, .slice d0_6 n0_6 e0_6], .agg #[.int .i64 x0_0, .string x0_1, .bool x0_2, .slice p0_3 n0_3 q0_3, .slice p0_4 n0_4 q0_4, .slice p0_5 n0_5 q0_5, .slice p0_6 n0_6 q0_6]] V fun e w' => e = .returned (.bool true) ∧ Hid (Below V.heap.size V w')) := fun V d0_3 d0_4 d0_5 d0_6 e0_3 e0_4 e0_5 e0_6 p0_3 p0_4 p0_5 p0_6 q0_3 q0_4 q0_5 q0_6 Q R h h2 => eqC_rec eq_C_Core_all HFi0.out V _ _ Q R h h2
  have HMo : Hid (∀ V (d0_3 d0_4 d0_5 d0_6 : Option Addr) (e0_3 e0_4 e0_5 e0_6 : Nat) (G0 : Fo), Hid (G0.vals = [.int .i64 x0_0, .string x0_1, .bool x0_2, .slice d0_3 n0_3 e0_3, .slice d0_4 n0_4 e0_4, .slice d0_5 n0_5 e0_5, .slice d0_6 n0_6 e0_6] ∧ G0.sim F0 ∧ G0.Subs V (fun c => c < V.heap.size)) → Calls Try.prog 6 #[.agg #[.int .i64 x0_0, .string x0_1, .bool x0_2, .slice d0_3 n0_3 e0_3, .slice d0_4 n0_4 e0_4, .slice d0_5 n0_5 e0_5, .slice d0_6 n0_6 e0_6]] V fun e w' => e = .returned (.int .i64 (qq : Int)) ∧ Hid (Below V.heap.size V w')) := fun V d0_3 d0_4 d0_5 d0_6 e0_3 e0_4 e0_5 e0_6 G0 h0 => by
    obtain ⟨v0, s0', o0⟩ := h0.out
    have h := m_size G0 V (s0'.fit HFi0.out) (by rw [s0'.wt]; exact hwt0) o0
    rw [v0] at h
    refine h.mono ?_
    rintro e w' ⟨rfl, r2⟩
    exact ⟨by rw [hqq, tc_sim HFi0.out s0'], r2⟩
  have HPr : Hid (∀ V (d0_3 d0_4 d0_5 d0_6 : Option Addr) (e0_3 e0_4 e0_5 e0_6 : Nat) (G0 : Fo) (lo0 : Nat), Hid (G0.vals = [.int .i64 x0_0, .string x0_1, .bool x0_2, .slice d0_3 n0_3 e0_3, .slice d0_4 n0_4 e0_4, .slice d0_5 n0_5 e0_5, .slice d0_6 n0_6 e0_6] ∧ G0.sim F0 ∧ Own lo0 V G0) → Calls Try.prog 8 #[.agg #[.int .i64 x0_0, .string x0_1, .bool x0_2, .slice d0_3 n0_3 e0_3, .slice d0_4 n0_4 e0_4, .slice d0_5 n0_5 e0_5, .slice d0_6 n0_6 e0_6]] V fun e w' => e = .returned (.int .i64 (qq : Int)) ∧ Hid (Below V.heap.size V w')) := fun V d0_3 d0_4 d0_5 d0_6 e0_3 e0_4 e0_5 e0_6 G0 lo0 h0 => by
    obtain ⟨v0, s0', o0⟩ := h0.out
    have h := i_size2 G0 V (s0'.fit HFi0.out) (by rw [s0'.wt]; exact hwt0) o0
    rw [v0] at h
    refine h.mono ?_
    rintro e w' ⟨rfl, r2⟩
    exact ⟨by rw [hqq, tc_sim HFi0.out s0'], r2⟩
  clear hqq hv0 hf0 hs0 hwt0 hG0   
  have cc := HL0.out.cell (W.heap.size) _ mem_0
  have z0 := cc 0 _ rfl
  have z1 := cc 1 _ rfl
  have z2 := cc 2 _ rfl
  have z3 := cc 3 _ rfl
  have z4 := cc 4 _ rfl
  have z5 := cc 5 _ rfl
  have z6 := cc 6 _ rfl
  clear cc
  go_enter Try.func3, Try.ntmps3
  go_wp2_with fail
  rw [HA.out]
  clear HA
  refine (HS0.out A 1048576 (HL0.out.fo F0 mem_0) (by omega) (by omega)).mono ?_
  rintro e w3 ⟨rfl, b1⟩
  rw [he_0]
  have HL4 : Hid (Law W [(W.heap.size, [.int .i64 x0_0, .string x0_1, .bool x0_2, .slice a0_3 n0_3 c0_3, .slice a0_4 n0_4 c0_4, .slice a0_5 n0_5 c0_5, .slice a0_6 n0_6 c0_6])] [F0] [] w3) := HL0.out.below b1
  clear b1 HL0 HS0 he_0 z0 z1 z2 z3 z4 z5 z6
  have cc := HL4.out.cell (W.heap.size) _ mem_0
  have z0 := cc 0 _ rfl
  have z1 := cc 1 _ rfl
  have z2 := cc 2 _ rfl
  have z3 := cc 3 _ rfl
  have z4 := cc 4 _ rfl
  have z5 := cc 5 _ rfl
  have z6 := cc 6 _ rfl
  clear cc
  go_wp2_with fail
  refine (HTo0.out w3 (HL4.out.fo F0 mem_0)).mono ?_
  rintro e w5 ⟨md0_3, md0_4, md0_5, md0_6, me0_3, me0_4, me0_5, me0_6, Gm0, rfl, g1, b2⟩
  have HL6 : Hid (Law W [(W.heap.size, [.int .i64 x0_0, .string x0_1, .bool x0_2, .slice a0_3 n0_3 c0_3, .slice a0_4 n0_4 c0_4, .slice a0_5 n0_5 c0_5, .slice a0_6 n0_6 c0_6])] [Gm0, F0] [(w3.heap.size, Gm0)] w5) := (HL4.out.below b2.out).adds g1.out.2.2
  have HVGm0 : Hid (Gm0.vals = [.int .i64 x0_0, .string x0_1, .bool x0_2, .slice md0_3 n0_3 me0_3, .slice md0_4 n0_4 me0_4, .slice md0_5 n0_5 me0_5, .slice md0_6 n0_6 me0_6] ∧ Gm0.sim F0) := ⟨g1.out.1, g1.out.2.1⟩
  clear g1 b2 HL4 z0 z1 z2 z3 z4 z5 z6
  have HC := hide (HMo.out w5 md0_3 md0_4 md0_5 md0_6 me0_3 me0_4 me0_5 me0_6 Gm0 ⟨HVGm0.out.1, HVGm0.out.2, (HL6.out.ow (_, Gm0) mem_0).subs.mono (fun _ x => x.2)⟩)
  go_wp2_with fail
  refine HC.out.mono ?_
  rintro e w7 ⟨rfl, b3⟩
  have HL8 : Hid (Law W [(W.heap.size, [.int .i64 x0_0, .string x0_1, .bool x0_2, .slice a0_3 n0_3 c0_3, .slice a0_4 n0_4 c0_4, .slice a0_5 n0_5 c0_5, .slice a0_6 n0_6 c0_6])] [F0] [] w7) := (HL6.out.below b3.out).drop (fun _ x => x) (all1 mem_1) (fun p hp => absurd hp List.not_mem_nil)
  clear HC HL6 b3 HVGm0
  go_upto_region 6 with fail
  have cc := HL8.out.cell (W.heap.size) _ mem_0
  have z0 := cc 0 _ rfl
  have z1 := cc 1 _ rfl
  have z2 := cc 2 _ rfl
  have z3 := cc 3 _ rfl
  have z4 := cc 4 _ rfl
  have z5 := cc 5 _ rfl
  have z6 := cc 6 _ rfl
  clear cc
  go_wp2_with fail
  refine (HTo0.out w7 (HL8.out.fo F0 mem_0)).mono ?_
  rintro e w9 ⟨xd0_3, xd0_4, xd0_5, xd0_6, xe0_3, xe0_4, xe0_5, xe0_6, X0, rfl, g1, b2⟩
  have HX0 : Hid (X0.vals = [.int .i64 x0_0, .string x0_1, .bool x0_2, .slice xd0_3 n0_3 xe0_3, .slice xd0_4 n0_4 xe0_4, .slice xd0_5 n0_5 xe0_5, .slice xd0_6 n0_6 xe0_6] ∧ X0.sim F0 ∧ ∀ c ∈ X0.inn, w7.heap.size ≤ c ∧ c < w9.heap.size) := ⟨g1.out.1, g1.out.2.1, g1.out.2.2.subs.inn_of⟩
  obtain ⟨V10, hV⟩ : ∃ V, w9.alloc (.cells #[.int .i64 x0_0, .string x0_1, .bool x0_2, .slice xd0_3 n0_3 xe0_3, .slice xd0_4 n0_4 xe0_4, .slice xd0_5 n0_5 xe0_5, .slice xd0_6 n0_6 xe0_6] 36) = V := ⟨_, rfl⟩
  have HL11 : Hid (Law W [(w9.heap.size, [.int .i64 x0_0, .string x0_1, .bool x0_2, .slice xd0_3 n0_3 xe0_3, .slice xd0_4 n0_4 xe0_4, .slice xd0_5 n0_5 xe0_5, .slice xd0_6 n0_6 xe0_6]), (W.heap.size, [.int .i64 x0_0, .string x0_1, .bool x0_2, .slice a0_3 n0_3 c0_3, .slice a0_4 n0_4 c0_4, .slice a0_5 n0_5 c0_5, .slice a0_6 n0_6 c0_6])] [X0, F0] [(w7.heap.size, X0)] V10) := by unfold Hid; rw [← hV]; exact ((HL8.out.below b2.out).adds g1.out.2.2).box _ _
  have HZ1 : Hid (V10.heap.size = w9.heap.size + 1 ∧ w7.heap.size ≤ w9.heap.size) := ⟨by rw [← hV]; simp, b2.out.size⟩
  have HV := hide hV
  clear g1 b2 hV HL8 z0 z1 z2 z3 z4 z5 z6
  go_upto_region 7 with fail
  rw [HV.out]
  clear HV
  have cc := HL11.out.cell (w9.heap.size) _ mem_0
  have z0_0 := cc 0 _ rfl
  have z0_1 := cc 1 _ rfl
  have z0_2 := cc 2 _ rfl
  have z0_3 := cc 3 _ rfl
  have z0_4 := cc 4 _ rfl
  have z0_5 := cc 5 _ rfl
  have z0_6 := cc 6 _ rfl
  clear cc
  have HC := hide (HPr.out V10 xd0_3 xd0_4 xd0_5 xd0_6 xe0_3 xe0_4 xe0_5 xe0_6 X0 _ ⟨HX0.out.1, HX0.out.2.1, HL11.out.ow (_, X0) mem_0⟩)
  go_wp2_with fail
  refine HC.out.mono ?_
  rintro e w12 ⟨rfl, b5⟩
  have HL13 : Hid (Law W [(w9.heap.size, [.int .i64 x0_0, .string x0_1, .bool x0_2, .slice xd0_3 n0_3 xe0_3, .slice xd0_4 n0_4 xe0_4, .slice xd0_5 n0_5 xe0_5, .slice xd0_6 n0_6 xe0_6]), (W.heap.size, [.int .i64 x0_0, .string x0_1, .bool x0_2, .slice a0_3 n0_3 c0_3, .slice a0_4 n0_4 c0_4, .slice a0_5 n0_5 c0_5, .slice a0_6 n0_6 c0_6])] [X0, F0] [(w7.heap.size, X0)] w12) := HL11.out.below b5.out
  clear HC HL11 b5 z0_0 z0_1 z0_2 z0_3 z0_4 z0_5 z0_6
  go_upto_region 10 with fail
  have cc := HL13.out.cell (W.heap.size) _ mem_1
  have z0 := cc 0 _ rfl
  have z1 := cc 1 _ rfl
  have z2 := cc 2 _ rfl
  have z3 := cc 3 _ rfl
  have z4 := cc 4 _ rfl
  have z5 := cc 5 _ rfl
  have z6 := cc 6 _ rfl
  clear cc
  have cc := HL13.out.cell (w9.heap.size) _ mem_0
  have u0 := cc 0 _ rfl
  have u1 := cc 1 _ rfl
  have u2 := cc 2 _ rfl
  have u3 := cc 3 _ rfl
  have u4 := cc 4 _ rfl
  have u5 := cc 5 _ rfl
  have u6 := cc 6 _ rfl
  clear cc
  have HSQ : Hid (∀ V, Below w12.heap.size w12 V → V.cell? ⟨W.heap.size, 0, none⟩ = some (.int .i64 x0_0) ∧ V.cell? ⟨W.heap.size, 1, none⟩ = some (.string x0_1) ∧ V.cell? ⟨W.heap.size, 2, none⟩ = some (.bool x0_2) ∧ V.cell? ⟨W.heap.size, 3, none⟩ = some (.slice a0_3 n0_3 c0_3) ∧ V.cell? ⟨W.heap.size, 4, none⟩ = some (.slice a0_4 n0_4 c0_4) ∧ V.cell? ⟨W.heap.size, 5, none⟩ = some (.slice a0_5 n0_5 c0_5) ∧ V.cell? ⟨W.heap.size, 6, none⟩ = some (.slice a0_6 n0_6 c0_6) ∧ V.cell? ⟨w9.heap.size, 0, none⟩ = some (.int .i64 x0_0) ∧ V.cell? ⟨w9.heap.size, 1, none⟩ = some (.string x0_1) ∧ V.cell? ⟨w9.heap.size, 2, none⟩ = some (.bool x0_2) ∧ V.cell? ⟨w9.heap.size, 3, none⟩ = some (.slice xd0_3 n0_3 xe0_3) ∧ V.cell? ⟨w9.heap.size, 4, none⟩ = some (.slice xd0_4 n0_4 xe0_4) ∧ V.cell? ⟨w9.heap.size, 5, none⟩ = some (.slice xd0_5 n0_5 xe0_5) ∧ V.cell? ⟨w9.heap.size, 6, none⟩ = some (.slice xd0_6 n0_6 xe0_6)) := fun V hb => by
    have hl := HL13.out.below hb
    have cz := hl.cell (W.heap.size) _ mem_1
    have cu := hl.cell (w9.heap.size) _ mem_0
    exact ⟨cz 0 _ rfl, cz 1 _ rfl, cz 2 _ rfl, cz 3 _ rfl, cz 4 _ rfl, cz 5 _ rfl, cz 6 _ rfl, cu 0 _ rfl, cu 1 _ rfl, cu 2 _ rfl, cu 3 _ rfl, cu 4 _ rfl, cu 5 _ rfl, cu 6 _ rfl⟩
  have HDR : Hid (Below w12.heap.size w12 w12.drew) := (Below.refl _ _).drew
  have k0' := HSQ.out w12.drew HDR.out
  have HT6 : Hid (Calls Try.prog 7 #[.agg #[.int .i64 x0_0, .string x0_1, .bool x0_2, .slice a0_3 n0_3 c0_3, .slice a0_4 n0_4 c0_4, .slice a0_5 n0_5 c0_5, .slice a0_6 n0_6 c0_6]] w12.drew fun e w' => ∃ (d0_3 d0_4 d0_5 d0_6 : Option Addr) (e0_3 e0_4 e0_5 e0_6 : Nat) (G : Fo), e = .returned (.agg #[.int .i64 x0_0, .string x0_1, .bool x0_2, .slice d0_3 n0_3 e0_3, .slice d0_4 n0_4 e0_4, .slice d0_5 n0_5 e0_5, .slice d0_6 n0_6 e0_6]) ∧ Hid (G.vals = [.int .i64 x0_0, .string x0_1, .bool x0_2, .slice d0_3 n0_3 e0_3, .slice d0_4 n0_4 e0_4, .slice d0_5 n0_5 e0_5, .slice d0_6 n0_6 e0_6] ∧ G.sim F0 ∧ G.Subs w' (fun c => c < w'.heap.size)) ∧ Hid (Below w12.heap.size w12 w')) := (HTo0.out w12.drew ((HL13.out.below HDR.out).fo F0 mem_1)).mono (by
    rintro e w' ⟨d0_3, d0_4, d0_5, d0_6, e0_3, e0_4, e0_5, e0_6, G, g1, g2, g3⟩
    exact ⟨d0_3, d0_4, d0_5, d0_6, e0_3, e0_4, e0_5, e0_6, G, g1, ⟨g2.out.1, g2.out.2.1, g2.out.2.2.subs.mono (fun _ x => x.2)⟩, HDR.out.trans g3.out⟩)
  have HE6 : Hid (∀ w8 (d0_3 d0_4 d0_5 d0_6 : Option Addr) (e0_3 e0_4 e0_5 e0_6 : Nat) (G : Fo), Hid (G.vals = [.int .i64 x0_0, .string x0_1, .bool x0_2, .slice d0_3 n0_3 e0_3, .slice d0_4 n0_4 e0_4, .slice d0_5 n0_5 e0_5, .slice d0_6 n0_6 e0_6] ∧ G.sim F0 ∧ G.Subs w8 (fun c => c < w8.heap.size)) → Hid (Below w12.heap.size w12 w8) → Calls Try.prog 9 #[.agg #[.int .i64 x0_0, .string x0_1, .bool x0_2, .slice xd0_3 n0_3 xe0_3, .slice xd0_4 n0_4 xe0_4, .slice xd0_5 n0_5 xe0_5, .slice xd0_6 n0_6 xe0_6], .agg #[.int .i64 x0_0, .string x0_1, .bool x0_2, .slice d0_3 n0_3 e0_3, .slice d0_4 n0_4 e0_4, .slice d0_5 n0_5 e0_5, .slice d0_6 n0_6 e0_6]] w8 fun e w' => e = .returned (.bool true) ∧ Hid (Below w12.heap.size w12 w')) := fun w8 d0_3 d0_4 d0_5 d0_6 e0_3 e0_4 e0_5 e0_6 G hg hb => (HEa0.out w8 xd0_3 xd0_4 xd0_5 xd0_6 xe0_3 xe0_4 xe0_5 xe0_6 d0_3 d0_4 d0_5 d0_6 e0_3 e0_4 e0_5 e0_6 X0 G ⟨HX0.out.1, HX0.out.2.1, (HL13.out.below hb.out).fo X0 mem_0⟩ hg).mono (fun e w' h => ⟨h.1, hb.out.trans (h.2.out.mono hb.out.size)⟩)
  go_cut [26] (fun s wx => s = .bool false ∧ Below w12.heap.size w12 wx)
  case first =>
    go_region_held3 (fun V => V.cell? ⟨W.heap.size, 0, none⟩ = some (.int .i64 x0_0) ∧ V.cell? ⟨W.heap.size, 1, none⟩ = some (.string x0_1) ∧ V.cell? ⟨W.heap.size, 2, none⟩ = some (.bool x0_2) ∧ V.cell? ⟨W.heap.size, 3, none⟩ = some (.slice a0_3 n0_3 c0_3) ∧ V.cell? ⟨W.heap.size, 4, none⟩ = some (.slice a0_4 n0_4 c0_4) ∧ V.cell? ⟨W.heap.size, 5, none⟩ = some (.slice a0_5 n0_5 c0_5) ∧ V.cell? ⟨W.heap.size, 6, none⟩ = some (.slice a0_6 n0_6 c0_6) ∧ V.cell? ⟨w9.heap.size, 0, none⟩ = some (.int .i64 x0_0) ∧ V.cell? ⟨w9.heap.size, 1, none⟩ = some (.string x0_1) ∧ V.cell? ⟨w9.heap.size, 2, none⟩ = some (.bool x0_2) ∧ V.cell? ⟨w9.heap.size, 3, none⟩ = some (.slice xd0_3 n0_3 xe0_3) ∧ V.cell? ⟨w9.heap.size, 4, none⟩ = some (.slice xd0_4 n0_4 xe0_4) ∧ V.cell? ⟨w9.heap.size, 5, none⟩ = some (.slice xd0_5 n0_5 xe0_5) ∧ V.cell? ⟨w9.heap.size, 6, none⟩ = some (.slice xd0_6 n0_6 xe0_6))
      (first | with_reducible exact k9' | with_reducible exact k8' | with_reducible exact k0')
      (first
        | (go_at_call 7; refine HT6.out.mono ?_; rintro e w8 ⟨yd0_3, yd0_4, yd0_5, yd0_6, ye0_3, ye0_4, ye0_5, ye0_6, Gx, rfl, g3, b8⟩; have k8' := HSQ.out w8 b8.out)
        | (go_at_call 9; refine (HE6.out w8 yd0_3 yd0_4 yd0_5 yd0_6 ye0_3 ye0_4 ye0_5 ye0_6 Gx g3 b8).mono ?_; rintro e w9 ⟨rfl, b9⟩; have k9' := HSQ.out w9 b9.out))
    all_goals
      go_wp2_with fail
      go_meet
      case rel => exact ⟨rfl, b9.out⟩
  case rest =>
    obtain ⟨rfl, hcb⟩ := hcut
    rename World => w14
    have HL15 : Hid (Law W [(w9.heap.size, [.int .i64 x0_0, .string x0_1, .bool x0_2, .slice xd0_3 n0_3 xe0_3, .slice xd0_4 n0_4 xe0_4, .slice xd0_5 n0_5 xe0_5, .slice xd0_6 n0_6 xe0_6]), (W.heap.size, [.int .i64 x0_0, .string x0_1, .bool x0_2, .slice a0_3 n0_3 c0_3, .slice a0_4 n0_4 c0_4, .slice a0_5 n0_5 c0_5, .slice a0_6 n0_6 c0_6])] [X0, F0] [(w7.heap.size, X0)] w14) := HL13.out.below hcb
    clear hcb HL13 HSQ HDR HT6 HE6 k0' z0 z1 z2 z3 z4 z5 z6 u0 u1 u2 u3 u4 u5 u6
    go_wp2_with fail
    go_ret
    exact ⟨rfl, HL15.out.be⟩

end Go.Proofs.Ytacaihhlcaoheaa
