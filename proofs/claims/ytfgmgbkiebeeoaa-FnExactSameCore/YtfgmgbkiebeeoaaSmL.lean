import Derived.Test.YtfgmgbkiebeeoaaRq
import Derived.Test.YtfgmgbkiebeeoaaJM
import Derived.Test.YtfgmgbkiebeeoaaJK
import Derived.Test.YtfgmgbkiebeeoaaJL
import Derived.Deep.RegionHeld3
import Derived.Deep.DeepCutAuto
namespace Go.Proofs.Ytfgmgbkiebeeoaa
open Go.RowKit Go.Joins

set_option maxHeartbeats 16000000 in
set_option maxRecDepth 100000 in
theorem lawSm (F0 : Fo) (F1 : Fo) (W : World) (hf0 : Fit E F0 (E 3)) (hf1 : Fit E F1 (E 3)) (hs0 : F0.Subs W (fun b => b < W.heap.size)) (hs1 : F1.Subs W (fun b => b < W.heap.size)) :
    Calls Try.prog 4 #[.agg F0.vals.toArray, .agg F1.vals.toArray] W fun e W' => e = .returned (.bool true) ∧ Below W.heap.size W W' := by
  have hv0 : ∃ (x0_0 : Int) (x0_1 : ByteArray) (x0_2 : Bool) (a0_3 a0_4 a0_5 a0_6 : Option Addr) (c0_3 c0_4 c0_5 c0_6 : Nat) (n0_3 n0_4 n0_5 n0_6 : Nat), F0.vals = [.int .i64 x0_0, .string x0_1, .bool x0_2, .slice a0_3 n0_3 c0_3, .slice a0_4 n0_4 c0_4, .slice a0_5 n0_5 c0_5, .slice a0_6 n0_6 c0_6] ∧ ∀ G : Fo, G.sim F0 → ∃ (d0_3 d0_4 d0_5 d0_6 : Option Addr) (e0_3 e0_4 e0_5 e0_6 : Nat), G.vals = [.int .i64 x0_0, .string x0_1, .bool x0_2, .slice d0_3 n0_3 e0_3, .slice d0_4 n0_4 e0_4, .slice d0_5 n0_5 e0_5, .slice d0_6 n0_6 e0_6] := by
    replace hf : Fit E F0 [.i, .t, .b, .s 0, .s 1, .s 3, .s 2] := hf0
    clear hf0 hs0
    revert hf
    generalize F0 = F
    intro hf
    obtain ⟨x0, F0, rfl, -, hf⟩ := fit_i hf
    obtain ⟨x1, F1, rfl, -, hf⟩ := fit_t hf
    obtain ⟨x2, F2, rfl, hf⟩ := fit_b hf
    obtain ⟨a3, n3, c3, k3, F3, rfl, -, hf⟩ := fit_s hf
    obtain ⟨a4, n4, c4, k4, F4, rfl, -, hf⟩ := fit_s hf
    obtain ⟨a5, n5, c5, k5, F5, rfl, -, hf⟩ := fit_s hf
    obtain ⟨a6, n6, c6, k6, F6, rfl, -, hf⟩ := fit_s hf
    obtain rfl := fit_nil hf
    refine ⟨x0, x1, x2, a3, a4, a5, a6, c3, c4, c5, c6, n3, n4, n5, n6, rfl, fun G s_0 => ?_⟩
    obtain ⟨u0, rfl, s_1⟩ := Fo.sim_v s_0
    obtain ⟨u1, rfl, s_2⟩ := Fo.sim_v s_1
    obtain ⟨u2, rfl, s_3⟩ := Fo.sim_v s_2
    obtain ⟨d3, e3, t3, u3, rfl, -, s_4⟩ := Fo.sim_s s_3
    obtain ⟨d4, e4, t4, u4, rfl, -, s_5⟩ := Fo.sim_s s_4
    obtain ⟨d5, e5, t5, u5, rfl, -, s_6⟩ := Fo.sim_s s_5
    obtain ⟨d6, e6, t6, u6, rfl, -, s_7⟩ := Fo.sim_s s_6
    obtain rfl := Fo.sim_nil s_7
    exact ⟨d3, d4, d5, d6, e3, e4, e5, e6, rfl⟩
  obtain ⟨x0_0, x0_1, x0_2, a0_3, a0_4, a0_5, a0_6, c0_3, c0_4, c0_5, c0_6, n0_3, n0_4, n0_5, n0_6, hv0, hG0⟩ := hv0
  have HFi0 := hide hf0
  have HFin0 : Hid (∀ c ∈ F0.inn, c < W.heap.size) := hs0.inn_of
  have hv1 : ∃ (x1_0 : Int) (x1_1 : ByteArray) (x1_2 : Bool) (a1_3 a1_4 a1_5 a1_6 : Option Addr) (c1_3 c1_4 c1_5 c1_6 : Nat) (n1_3 n1_4 n1_5 n1_6 : Nat), F1.vals = [.int .i64 x1_0, .string x1_1, .bool x1_2, .slice a1_3 n1_3 c1_3, .slice a1_4 n1_4 c1_4, .slice a1_5 n1_5 c1_5, .slice a1_6 n1_6 c1_6] ∧ ∀ G : Fo, G.sim F1 → ∃ (d1_3 d1_4 d1_5 d1_6 : Option Addr) (e1_3 e1_4 e1_5 e1_6 : Nat), G.vals = [.int .i64 x1_0, .string x1_1, .bool x1_2, .slice d1_3 n1_3 e1_3, .slice d1_4 n1_4 e1_4, .slice d1_5 n1_5 e1_5, .slice d1_6 n1_6 e1_6] := by
    replace hf : Fit E F1 [.i, .t, .b, .s 0, .s 1, .s 3, .s 2] := hf1
    clear hf1 hs1
    revert hf
    generalize F1 = F
    intro hf
    obtain ⟨x0, F0, rfl, -, hf⟩ := fit_i hf
    obtain ⟨x1, F1, rfl, -, hf⟩ := fit_t hf
    obtain ⟨x2, F2, rfl, hf⟩ := fit_b hf
    obtain ⟨a3, n3, c3, k3, F3, rfl, -, hf⟩ := fit_s hf
    obtain ⟨a4, n4, c4, k4, F4, rfl, -, hf⟩ := fit_s hf
    obtain ⟨a5, n5, c5, k5, F5, rfl, -, hf⟩ := fit_s hf
    obtain ⟨a6, n6, c6, k6, F6, rfl, -, hf⟩ := fit_s hf
    obtain rfl := fit_nil hf
    refine ⟨x0, x1, x2, a3, a4, a5, a6, c3, c4, c5, c6, n3, n4, n5, n6, rfl, fun G s_0 => ?_⟩
    obtain ⟨u0, rfl, s_1⟩ := Fo.sim_v s_0
    obtain ⟨u1, rfl, s_2⟩ := Fo.sim_v s_1
    obtain ⟨u2, rfl, s_3⟩ := Fo.sim_v s_2
    obtain ⟨d3, e3, t3, u3, rfl, -, s_4⟩ := Fo.sim_s s_3
    obtain ⟨d4, e4, t4, u4, rfl, -, s_5⟩ := Fo.sim_s s_4
    obtain ⟨d5, e5, t5, u5, rfl, -, s_6⟩ := Fo.sim_s s_5
    obtain ⟨d6, e6, t6, u6, rfl, -, s_7⟩ := Fo.sim_s s_6
    obtain rfl := Fo.sim_nil s_7
    exact ⟨d3, d4, d5, d6, e3, e4, e5, e6, rfl⟩
  obtain ⟨x1_0, x1_1, x1_2, a1_3, a1_4, a1_5, a1_6, c1_3, c1_4, c1_5, c1_6, n1_3, n1_4, n1_5, n1_6, hv1, hG1⟩ := hv1
  have HFi1 := hide hf1
  have HFin1 : Hid (∀ c ∈ F1.inn, c < W.heap.size) := hs1.inn_of
  have HS0 : Hid (∀ V (left : Int), F0.Subs V (fun c => c < V.heap.size) → 0 ≤ left → left ≤ 1048576 → Calls Try.prog 5 #[.agg #[.int .i64 x0_0, .string x0_1, .bool x0_2, .slice a0_3 n0_3 c0_3, .slice a0_4 n0_4 c0_4, .slice a0_5 n0_5 c0_5, .slice a0_6 n0_6 c0_6], .int .i64 left] V fun e w' => e = .returned (.int .i64 (szV left F0.wt)) ∧ Below V.heap.size V w') := fun V left hV h0 h1 => szC_rec sz_C_Core_all hv0 HFi0.out left h0 h1 V hV
  have HS1 : Hid (∀ V (left : Int), F1.Subs V (fun c => c < V.heap.size) → 0 ≤ left → left ≤ 1048576 → Calls Try.prog 5 #[.agg #[.int .i64 x1_0, .string x1_1, .bool x1_2, .slice a1_3 n1_3 c1_3, .slice a1_4 n1_4 c1_4, .slice a1_5 n1_5 c1_5, .slice a1_6 n1_6 c1_6], .int .i64 left] V fun e w' => e = .returned (.int .i64 (szV left F1.wt)) ∧ Below V.heap.size V w') := fun V left hV h0 h1 => szC_rec sz_C_Core_all hv1 HFi1.out left h0 h1 V hV
  obtain ⟨A, hA⟩ : ∃ A, (W.alloc (.cells #[.int .i64 x0_0, .string x0_1, .bool x0_2, .slice a0_3 n0_3 c0_3, .slice a0_4 n0_4 c0_4, .slice a0_5 n0_5 c0_5, .slice a0_6 n0_6 c0_6] 29)).alloc (.cells #[.int .i64 x1_0, .string x1_1, .bool x1_2, .slice a1_3 n1_3 c1_3, .slice a1_4 n1_4 c1_4, .slice a1_5 n1_5 c1_5, .slice a1_6 n1_6 c1_6] 29) = A := ⟨_, rfl⟩
  have HL0 : Hid (Law W [(W.heap.size + 1, [.int .i64 x1_0, .string x1_1, .bool x1_2, .slice a1_3 n1_3 c1_3, .slice a1_4 n1_4 c1_4, .slice a1_5 n1_5 c1_5, .slice a1_6 n1_6 c1_6]), (W.heap.size, [.int .i64 x0_0, .string x0_1, .bool x0_2, .slice a0_3 n0_3 c0_3, .slice a0_4 n0_4 c0_4, .slice a0_5 n0_5 c0_5, .slice a0_6 n0_6 c0_6])] [F0, F1] [] A) := by have h := (((((Law.start W).add hs1).add hs0).box [.int .i64 x0_0, .string x0_1, .bool x0_2, .slice a0_3 n0_3 c0_3, .slice a0_4 n0_4 c0_4, .slice a0_5 n0_5 c0_5, .slice a0_6 n0_6 c0_6] 29).box [.int .i64 x1_0, .string x1_1, .bool x1_2, .slice a1_3 n1_3 c1_3, .slice a1_4 n1_4 c1_4, .slice a1_5 n1_5 c1_5, .slice a1_6 n1_6 c1_6] 29); simp only [World.size_alloc] at h; rw [hA] at h; exact h
  have HA := hide hA
  rw [hv0]
  rw [hv1]
  show Calls Try.prog 4 #[.agg #[.int .i64 x0_0, .string x0_1, .bool x0_2, .slice a0_3 n0_3 c0_3, .slice a0_4 n0_4 c0_4, .slice a0_5 n0_5 c0_5, .slice a0_6 n0_6 c0_6], .agg #[.int .i64 x1_0, .string x1_1, .bool x1_2, .slice a1_3 n1_3 c1_3, .slice a1_4 n1_4 c1_4, .slice a1_5 n1_5 c1_5, .slice a1_6 n1_6 c1_6]] W _
  clear hA
  by_cases g9_0 : (1048576 : Int) < ((F0.wt : Nat) : Int)
  · have hend := szV_lt g9_0
    have cc := HL0.out.cell (W.heap.size) _ mem_1
    have z0 := cc 0 _ rfl
    have z1 := cc 1 _ rfl
    have z2 := cc 2 _ rfl
    have z3 := cc 3 _ rfl
    have z4 := cc 4 _ rfl
    have z5 := cc 5 _ rfl
    have z6 := cc 6 _ rfl
    clear cc
    go_enter Try.func4, Try.ntmps4
    go_wp2_with fail
    rw [HA.out]
    refine (HS0.out A 1048576 (HL0.out.fo F0 mem_0) (by omega) (by omega)).mono ?_
    rintro e w1 ⟨rfl, b1⟩
    rw [hend]
    have HL2 : Hid (Law W [(W.heap.size + 1, [.int .i64 x1_0, .string x1_1, .bool x1_2, .slice a1_3 n1_3 c1_3, .slice a1_4 n1_4 c1_4, .slice a1_5 n1_5 c1_5, .slice a1_6 n1_6 c1_6]), (W.heap.size, [.int .i64 x0_0, .string x0_1, .bool x0_2, .slice a0_3 n0_3 c0_3, .slice a0_4 n0_4 c0_4, .slice a0_5 n0_5 c0_5, .slice a0_6 n0_6 c0_6])] [F0, F1] [] w1) := HL0.out.below b1
    clear b1 z0 z1 z2 z3 z4 z5 z6
    go_wp2_with fail
    go_ret
    exact ⟨rfl, HL2.out.be⟩
  obtain ⟨l0, hl0⟩ : ∃ l0 : Int, l0 = 1048576 - F0.wt := ⟨_, rfl⟩
  have he_0 : szV 1048576 F0.wt = l0 := by rw [szV_ge g9_0, hl0]
  have hge_0 : ¬ l0 < 0 := by omega
  have HLF0 : Hid (0 ≤ l0 ∧ l0 ≤ 1048576 ∧ F0.wt ≤ 1048576) := ⟨by omega, by omega, by omega⟩
  clear hl0 g9_0
  by_cases g9_1 : (l0 : Int) < ((F1.wt : Nat) : Int)
  · have hend := szV_lt g9_1
    have cc := HL0.out.cell (W.heap.size) _ mem_1
    have z0 := cc 0 _ rfl
    have z1 := cc 1 _ rfl
    have z2 := cc 2 _ rfl
    have z3 := cc 3 _ rfl
    have z4 := cc 4 _ rfl
    have z5 := cc 5 _ rfl
    have z6 := cc 6 _ rfl
    clear cc
    go_enter Try.func4, Try.ntmps4
    go_wp2_with fail
    rw [HA.out]
    refine (HS0.out A 1048576 (HL0.out.fo F0 mem_0) (by omega) (by omega)).mono ?_
    rintro e w3 ⟨rfl, b1⟩
    rw [he_0]
    have HL4 : Hid (Law W [(W.heap.size + 1, [.int .i64 x1_0, .string x1_1, .bool x1_2, .slice a1_3 n1_3 c1_3, .slice a1_4 n1_4 c1_4, .slice a1_5 n1_5 c1_5, .slice a1_6 n1_6 c1_6]), (W.heap.size, [.int .i64 x0_0, .string x0_1, .bool x0_2, .slice a0_3 n0_3 c0_3, .slice a0_4 n0_4 c0_4, .slice a0_5 n0_5 c0_5, .slice a0_6 n0_6 c0_6])] [F0, F1] [] w3) := HL0.out.below b1
    clear b1 z0 z1 z2 z3 z4 z5 z6
    have cc := HL4.out.cell (W.heap.size + 1) _ mem_0
    have z0 := cc 0 _ rfl
    have z1 := cc 1 _ rfl
    have z2 := cc 2 _ rfl
    have z3 := cc 3 _ rfl
    have z4 := cc 4 _ rfl
    have z5 := cc 5 _ rfl
    have z6 := cc 6 _ rfl
    clear cc
    go_wp2_with fail
    refine (HS1.out w3 l0 (HL4.out.fo F1 mem_1) HLF0.out.1 HLF0.out.2.1).mono ?_
    rintro e w5 ⟨rfl, b1⟩
    rw [hend]
    have HL6 : Hid (Law W [(W.heap.size + 1, [.int .i64 x1_0, .string x1_1, .bool x1_2, .slice a1_3 n1_3 c1_3, .slice a1_4 n1_4 c1_4, .slice a1_5 n1_5 c1_5, .slice a1_6 n1_6 c1_6]), (W.heap.size, [.int .i64 x0_0, .string x0_1, .bool x0_2, .slice a0_3 n0_3 c0_3, .slice a0_4 n0_4 c0_4, .slice a0_5 n0_5 c0_5, .slice a0_6 n0_6 c0_6])] [F0, F1] [] w5) := HL4.out.below b1
    clear b1 z0 z1 z2 z3 z4 z5 z6
    go_wp2_with fail
    go_ret
    exact ⟨rfl, HL6.out.be⟩
  obtain ⟨l1, hl1⟩ : ∃ l1 : Int, l1 = l0 - F1.wt := ⟨_, rfl⟩
  have he_1 : szV l0 F1.wt = l1 := by rw [szV_ge g9_1, hl1]
  have hge_1 : ¬ l1 < 0 := by omega
  have hprev := HLF0.out
  have HLF1 : Hid (0 ≤ l1 ∧ l1 ≤ 1048576 ∧ F1.wt ≤ 1048576) := ⟨by omega, by have := HLF0.out; omega, by omega⟩
  clear hl1 g9_1 hprev
  have hwt0 : F0.wt ≤ 1048576 := HLF0.out.2.2
  have hwt1 : F1.wt ≤ 1048576 := HLF1.out.2.2
  obtain ⟨qq, hqq⟩ : ∃ qq : Bool, qq = sameB F0 F1 := ⟨_, rfl⟩
  have HTo0 : Hid (∀ V, F0.Subs V (fun c => c < V.heap.size) → Calls Try.prog 7 #[.agg #[.int .i64 x0_0, .string x0_1, .bool x0_2, .slice a0_3 n0_3 c0_3, .slice a0_4 n0_4 c0_4, .slice a0_5 n0_5 c0_5, .slice a0_6 n0_6 c0_6]] V fun e w' => ∃ (d0_3 d0_4 d0_5 d0_6 : Option Addr) (e0_3 e0_4 e0_5 e0_6 : Nat) (G : Fo), e = .returned (.agg #[.int .i64 x0_0, .string x0_1, .bool x0_2, .slice d0_3 n0_3 e0_3, .slice d0_4 n0_4 e0_4, .slice d0_5 n0_5 e0_5, .slice d0_6 n0_6 e0_6]) ∧ Hid (G.vals = [.int .i64 x0_0, .string x0_1, .bool x0_2, .slice d0_3 n0_3 e0_3, .slice d0_4 n0_4 e0_4, .slice d0_5 n0_5 e0_5, .slice d0_6 n0_6 e0_6] ∧ G.sim F0 ∧ Own V.heap.size w' G) ∧ Hid (Below V.heap.size V w')) := fun V hV => by
    refine (toC_rec to_C_Core_all hv0 HFi0.out hwt0 V hV).mono ?_
    rintro e w' ⟨G, rfl, g1, g3, g2⟩
    obtain ⟨d0_3, d0_4, d0_5, d0_6, e0_3, e0_4, e0_5, e0_6, g4⟩ := hG0 G g1
    exact ⟨d0_3, d0_4, d0_5, d0_6, e0_3, e0_4, e0_5, e0_6, G, by rw [g4], ⟨g4, g1, g3⟩, g2⟩
  have HEa0 : Hid (∀ V (d0_3 d0_4 d0_5 d0_6 : Option Addr) (e0_3 e0_4 e0_5 e0_6 : Nat) (p0_3 p0_4 p0_5 p0_6 : Option Addr) (q0_3 q0_4 q0_5 q0_6 : Nat) (Q R : Fo), Hid (Q.vals = [.int .i64 x0_0, .string x0_1, .bool x0_2, .slice d0_3 n0_3 e0_3, .slice d0_4 n0_4 e0_4, .slice d0_5 n0_5 e0_5, .slice d0_6 n0_6 e0_6] ∧ Q.sim F0 ∧ Q.Subs V (fun c => c < V.heap.size)) → Hid (R.vals = [.int .i64 x0_0, .string x0_1, .bool x0_2, .slice p0_3 n0_3 q0_3, .slice p0_4 n0_4 q0_4, .slice p0_5 n0_5 q0_5, .slice p0_6 n0_6 q0_6] ∧ R.sim F0 ∧ R.Subs V (fun c => c < V.heap.size)) → Calls Try.prog 9 #[.agg #[.int .i64 x0_0, .string x0_1, .bool x0_2, .slice d0_3 n0_3 e0_3, .slice d0_4 n0_4 e0_4, .slice d0_5 n0_5 e0_5, .slice d0_6 n0_6 e0_6], .agg #[.int .i64 x0_0, .string x0_1, .bool x0_2, .slice p0_3 n0_3 q0_3, .slice p0_4 n0_4 q0_4, .slice p0_5 n0_5 q0_5, .slice p0_6 n0_6 q0_6]] V fun e w' => e = .returned (.bool true) ∧ Hid (Below V.heap.size V w')) := fun V d0_3 d0_4 d0_5 d0_6 e0_3 e0_4 e0_5 e0_6 p0_3 p0_4 p0_5 p0_6 q0_3 q0_4 q0_5 q0_6 Q R h h2 => eqC_rec eq_C_Core_all HFi0.out V _ _ Q R h h2
  have HTo1 : Hid (∀ V, F1.Subs V (fun c => c < V.heap.size) → Calls Try.prog 7 #[.agg #[.int .i64 x1_0, .string x1_1, .bool x1_2, .slice a1_3 n1_3 c1_3, .slice a1_4 n1_4 c1_4, .slice a1_5 n1_5 c1_5, .slice a1_6 n1_6 c1_6]] V fun e w' => ∃ (d1_3 d1_4 d1_5 d1_6 : Option Addr) (e1_3 e1_4 e1_5 e1_6 : Nat) (G : Fo), e = .returned (.agg #[.int .i64 x1_0, .string x1_1, .bool x1_2, .slice d1_3 n1_3 e1_3, .slice d1_4 n1_4 e1_4, .slice d1_5 n1_5 e1_5, .slice d1_6 n1_6 e1_6]) ∧ Hid (G.vals = [.int .i64 x1_0, .string x1_1, .bool x1_2, .slice d1_3 n1_3 e1_3, .slice d1_4 n1_4 e1_4, .slice d1_5 n1_5 e1_5, .slice d1_6 n1_6 e1_6] ∧ G.sim F1 ∧ Own V.heap.size w' G) ∧ Hid (Below V.heap.size V w')) := fun V hV => by
    refine (toC_rec to_C_Core_all hv1 HFi1.out hwt1 V hV).mono ?_
    rintro e w' ⟨G, rfl, g1, g3, g2⟩
    obtain ⟨d1_3, d1_4, d1_5, d1_6, e1_3, e1_4, e1_5, e1_6, g4⟩ := hG1 G g1
    exact ⟨d1_3, d1_4, d1_5, d1_6, e1_3, e1_4, e1_5, e1_6, G, by rw [g4], ⟨g4, g1, g3⟩, g2⟩
  have HEa1 : Hid (∀ V (d1_3 d1_4 d1_5 d1_6 : Option Addr) (e1_3 e1_4 e1_5 e1_6 : Nat) (p1_3 p1_4 p1_5 p1_6 : Option Addr) (q1_3 q1_4 q1_5 q1_6 : Nat) (Q R : Fo), Hid (Q.vals = [.int .i64 x1_0, .string x1_1, .bool x1_2, .slice d1_3 n1_3 e1_3, .slice d1_4 n1_4 e1_4, .slice d1_5 n1_5 e1_5, .slice d1_6 n1_6 e1_6] ∧ Q.sim F1 ∧ Q.Subs V (fun c => c < V.heap.size)) → Hid (R.vals = [.int .i64 x1_0, .string x1_1, .bool x1_2, .slice p1_3 n1_3 q1_3, .slice p1_4 n1_4 q1_4, .slice p1_5 n1_5 q1_5, .slice p1_6 n1_6 q1_6] ∧ R.sim F1 ∧ R.Subs V (fun c => c < V.heap.size)) → Calls Try.prog 9 #[.agg #[.int .i64 x1_0, .string x1_1, .bool x1_2, .slice d1_3 n1_3 e1_3, .slice d1_4 n1_4 e1_4, .slice d1_5 n1_5 e1_5, .slice d1_6 n1_6 e1_6], .agg #[.int .i64 x1_0, .string x1_1, .bool x1_2, .slice p1_3 n1_3 q1_3, .slice p1_4 n1_4 q1_4, .slice p1_5 n1_5 q1_5, .slice p1_6 n1_6 q1_6]] V fun e w' => e = .returned (.bool true) ∧ Hid (Below V.heap.size V w')) := fun V d1_3 d1_4 d1_5 d1_6 e1_3 e1_4 e1_5 e1_6 p1_3 p1_4 p1_5 p1_6 q1_3 q1_4 q1_5 q1_6 Q R h h2 => eqC_rec eq_C_Core_all HFi1.out V _ _ Q R h h2
  have HMo : Hid (∀ V (d0_3 d0_4 d0_5 d0_6 : Option Addr) (e0_3 e0_4 e0_5 e0_6 : Nat) (G0 : Fo) (d1_3 d1_4 d1_5 d1_6 : Option Addr) (e1_3 e1_4 e1_5 e1_6 : Nat) (G1 : Fo), Hid (G0.vals = [.int .i64 x0_0, .string x0_1, .bool x0_2, .slice d0_3 n0_3 e0_3, .slice d0_4 n0_4 e0_4, .slice d0_5 n0_5 e0_5, .slice d0_6 n0_6 e0_6] ∧ G0.sim F0 ∧ G0.Subs V (fun c => c < V.heap.size)) → Hid (G1.vals = [.int .i64 x1_0, .string x1_1, .bool x1_2, .slice d1_3 n1_3 e1_3, .slice d1_4 n1_4 e1_4, .slice d1_5 n1_5 e1_5, .slice d1_6 n1_6 e1_6] ∧ G1.sim F1 ∧ G1.Subs V (fun c => c < V.heap.size)) → Calls Try.prog 10 #[.agg #[.int .i64 x0_0, .string x0_1, .bool x0_2, .slice d0_3 n0_3 e0_3, .slice d0_4 n0_4 e0_4, .slice d0_5 n0_5 e0_5, .slice d0_6 n0_6 e0_6], .agg #[.int .i64 x1_0, .string x1_1, .bool x1_2, .slice d1_3 n1_3 e1_3, .slice d1_4 n1_4 e1_4, .slice d1_5 n1_5 e1_5, .slice d1_6 n1_6 e1_6]] V fun e w' => e = .returned (.bool qq) ∧ Hid (Below V.heap.size V w')) := fun V d0_3 d0_4 d0_5 d0_6 e0_3 e0_4 e0_5 e0_6 G0 d1_3 d1_4 d1_5 d1_6 e1_3 e1_4 e1_5 e1_6 G1 h0 h1 => by
    obtain ⟨v0, s0', o0⟩ := h0.out
    obtain ⟨v1, s1', o1⟩ := h1.out
    have h := m_SameC G0 G1 V (s0'.fit HFi0.out) (s1'.fit HFi1.out) (by rw [s0'.wt]; exact hwt0) (by rw [s1'.wt]; exact hwt1) o0 o1
    rw [v0] at h
    rw [v1] at h
    refine h.mono ?_
    rintro e w' ⟨rfl, r2⟩
    exact ⟨by rw [hqq, sameB_sim HFi0.out HFi1.out s0' s1'], r2⟩
  have HPr : Hid (∀ V (d0_3 d0_4 d0_5 d0_6 : Option Addr) (e0_3 e0_4 e0_5 e0_6 : Nat) (G0 : Fo) (lo0 : Nat) (d1_3 d1_4 d1_5 d1_6 : Option Addr) (e1_3 e1_4 e1_5 e1_6 : Nat) (G1 : Fo) (lo1 : Nat), Hid (G0.vals = [.int .i64 x0_0, .string x0_1, .bool x0_2, .slice d0_3 n0_3 e0_3, .slice d0_4 n0_4 e0_4, .slice d0_5 n0_5 e0_5, .slice d0_6 n0_6 e0_6] ∧ G0.sim F0 ∧ Own lo0 V G0) → Hid (G1.vals = [.int .i64 x1_0, .string x1_1, .bool x1_2, .slice d1_3 n1_3 e1_3, .slice d1_4 n1_4 e1_4, .slice d1_5 n1_5 e1_5, .slice d1_6 n1_6 e1_6] ∧ G1.sim F1 ∧ Own lo1 V G1) → Hid (∀ c ∈ G0.inn, c < lo1) → Calls Try.prog 11 #[.agg #[.int .i64 x0_0, .string x0_1, .bool x0_2, .slice d0_3 n0_3 e0_3, .slice d0_4 n0_4 e0_4, .slice d0_5 n0_5 e0_5, .slice d0_6 n0_6 e0_6], .agg #[.int .i64 x1_0, .string x1_1, .bool x1_2, .slice d1_3 n1_3 e1_3, .slice d1_4 n1_4 e1_4, .slice d1_5 n1_5 e1_5, .slice d1_6 n1_6 e1_6]] V fun e w' => e = .returned (.bool qq) ∧ Hid (Below V.heap.size V w')) := fun V d0_3 d0_4 d0_5 d0_6 e0_3 e0_4 e0_5 e0_6 G0 lo0 d1_3 d1_4 d1_5 d1_6 e1_3 e1_4 e1_5 e1_6 G1 lo1 h0 h1 hpart => by
    obtain ⟨v0, s0', o0⟩ := h0.out
    obtain ⟨v1, s1', o1⟩ := h1.out
    have h := i_SameC2 G0 G1 V (s0'.fit HFi0.out) (s1'.fit HFi1.out) (by rw [s0'.wt]; exact hwt0) (by rw [s1'.wt]; exact hwt1) o0 o1 hpart.out
    rw [v0] at h
    rw [v1] at h
    refine h.mono ?_
    rintro e w' ⟨rfl, r2⟩
    exact ⟨by rw [hqq, sameB_sim HFi0.out HFi1.out s0' s1'], r2⟩
  clear hqq hv0 hv1 hf0 hs0 hwt0 hf1 hs1 hwt1 hG0 hG1   
  have cc := HL0.out.cell (W.heap.size) _ mem_1
  have z0 := cc 0 _ rfl
  have z1 := cc 1 _ rfl
  have z2 := cc 2 _ rfl
  have z3 := cc 3 _ rfl
  have z4 := cc 4 _ rfl
  have z5 := cc 5 _ rfl
  have z6 := cc 6 _ rfl
  clear cc
  go_enter Try.func4, Try.ntmps4
  go_wp2_with fail
  rw [HA.out]
  clear HA
  refine (HS0.out A 1048576 (HL0.out.fo F0 mem_0) (by omega) (by omega)).mono ?_
  rintro e w7 ⟨rfl, b1⟩
  rw [he_0]
  have HL8 : Hid (Law W [(W.heap.size + 1, [.int .i64 x1_0, .string x1_1, .bool x1_2, .slice a1_3 n1_3 c1_3, .slice a1_4 n1_4 c1_4, .slice a1_5 n1_5 c1_5, .slice a1_6 n1_6 c1_6]), (W.heap.size, [.int .i64 x0_0, .string x0_1, .bool x0_2, .slice a0_3 n0_3 c0_3, .slice a0_4 n0_4 c0_4, .slice a0_5 n0_5 c0_5, .slice a0_6 n0_6 c0_6])] [F0, F1] [] w7) := HL0.out.below b1
  clear b1 HL0 HS0 he_0 z0 z1 z2 z3 z4 z5 z6
  have cc := HL8.out.cell (W.heap.size + 1) _ mem_0
  have z0 := cc 0 _ rfl
  have z1 := cc 1 _ rfl
  have z2 := cc 2 _ rfl
  have z3 := cc 3 _ rfl
  have z4 := cc 4 _ rfl
  have z5 := cc 5 _ rfl
  have z6 := cc 6 _ rfl
  clear cc
  go_wp2_with fail
  refine (HS1.out w7 l0 (HL8.out.fo F1 mem_1) HLF0.out.1 HLF0.out.2.1).mono ?_
  rintro e w9 ⟨rfl, b1⟩
  rw [he_1]
  have HL10 : Hid (Law W [(W.heap.size + 1, [.int .i64 x1_0, .string x1_1, .bool x1_2, .slice a1_3 n1_3 c1_3, .slice a1_4 n1_4 c1_4, .slice a1_5 n1_5 c1_5, .slice a1_6 n1_6 c1_6]), (W.heap.size, [.int .i64 x0_0, .string x0_1, .bool x0_2, .slice a0_3 n0_3 c0_3, .slice a0_4 n0_4 c0_4, .slice a0_5 n0_5 c0_5, .slice a0_6 n0_6 c0_6])] [F0, F1] [] w9) := HL8.out.below b1
  clear b1 HL8 HS1 he_1 z0 z1 z2 z3 z4 z5 z6
  go_upto_region 8 with fail
  have cc := HL10.out.cell (W.heap.size) _ mem_1
  have z0 := cc 0 _ rfl
  have z1 := cc 1 _ rfl
  have z2 := cc 2 _ rfl
  have z3 := cc 3 _ rfl
  have z4 := cc 4 _ rfl
  have z5 := cc 5 _ rfl
  have z6 := cc 6 _ rfl
  clear cc
  have cc := HL10.out.cell (W.heap.size + 1) _ mem_0
  have u0 := cc 0 _ rfl
  have u1 := cc 1 _ rfl
  have u2 := cc 2 _ rfl
  have u3 := cc 3 _ rfl
  have u4 := cc 4 _ rfl
  have u5 := cc 5 _ rfl
  have u6 := cc 6 _ rfl
  clear cc
  have HSQ : Hid (∀ V, Below w9.heap.size w9 V → V.cell? ⟨W.heap.size, 0, none⟩ = some (.int .i64 x0_0) ∧ V.cell? ⟨W.heap.size, 1, none⟩ = some (.string x0_1) ∧ V.cell? ⟨W.heap.size, 2, none⟩ = some (.bool x0_2) ∧ V.cell? ⟨W.heap.size, 3, none⟩ = some (.slice a0_3 n0_3 c0_3) ∧ V.cell? ⟨W.heap.size, 4, none⟩ = some (.slice a0_4 n0_4 c0_4) ∧ V.cell? ⟨W.heap.size, 5, none⟩ = some (.slice a0_5 n0_5 c0_5) ∧ V.cell? ⟨W.heap.size, 6, none⟩ = some (.slice a0_6 n0_6 c0_6) ∧ V.cell? ⟨W.heap.size + 1, 0, none⟩ = some (.int .i64 x1_0) ∧ V.cell? ⟨W.heap.size + 1, 1, none⟩ = some (.string x1_1) ∧ V.cell? ⟨W.heap.size + 1, 2, none⟩ = some (.bool x1_2) ∧ V.cell? ⟨W.heap.size + 1, 3, none⟩ = some (.slice a1_3 n1_3 c1_3) ∧ V.cell? ⟨W.heap.size + 1, 4, none⟩ = some (.slice a1_4 n1_4 c1_4) ∧ V.cell? ⟨W.heap.size + 1, 5, none⟩ = some (.slice a1_5 n1_5 c1_5) ∧ V.cell? ⟨W.heap.size + 1, 6, none⟩ = some (.slice a1_6 n1_6 c1_6)) := fun V hb => by
    have hl := HL10.out.below hb
    have c_0 := hl.cell (W.heap.size) _ mem_1
    have c_1 := hl.cell (W.heap.size + 1) _ mem_0
    exact ⟨c_0 0 _ rfl, c_0 1 _ rfl, c_0 2 _ rfl, c_0 3 _ rfl, c_0 4 _ rfl, c_0 5 _ rfl, c_0 6 _ rfl, c_1 0 _ rfl, c_1 1 _ rfl, c_1 2 _ rfl, c_1 3 _ rfl, c_1 4 _ rfl, c_1 5 _ rfl, c_1 6 _ rfl⟩
  have HDR : Hid (Below w9.heap.size w9 w9.drew) := (Below.refl _ _).drew
  have k0' := HSQ.out w9.drew HDR.out
  have HT_0 : Hid (∀ V, Hid (Below w9.heap.size w9 V) → Calls Try.prog 7 #[.agg #[.int .i64 x0_0, .string x0_1, .bool x0_2, .slice a0_3 n0_3 c0_3, .slice a0_4 n0_4 c0_4, .slice a0_5 n0_5 c0_5, .slice a0_6 n0_6 c0_6]] V fun e w' => ∃ (d0_3 d0_4 d0_5 d0_6 : Option Addr) (e0_3 e0_4 e0_5 e0_6 : Nat) (G : Fo), e = .returned (.agg #[.int .i64 x0_0, .string x0_1, .bool x0_2, .slice d0_3 n0_3 e0_3, .slice d0_4 n0_4 e0_4, .slice d0_5 n0_5 e0_5, .slice d0_6 n0_6 e0_6]) ∧ Hid (G.vals = [.int .i64 x0_0, .string x0_1, .bool x0_2, .slice d0_3 n0_3 e0_3, .slice d0_4 n0_4 e0_4, .slice d0_5 n0_5 e0_5, .slice d0_6 n0_6 e0_6] ∧ G.sim F0 ∧ G.Subs w' (fun c => c < w'.heap.size)) ∧ Hid (Below V.heap.size V w') ∧ Hid (Below w9.heap.size w9 w')) := fun V hb => (HTo0.out V ((HL10.out.below hb.out).fo F0 mem_0)).mono (by
    rintro e w' ⟨d0_3, d0_4, d0_5, d0_6, e0_3, e0_4, e0_5, e0_6, G, g1, g2, g3⟩
    exact ⟨d0_3, d0_4, d0_5, d0_6, e0_3, e0_4, e0_5, e0_6, G, g1, ⟨g2.out.1, g2.out.2.1, g2.out.2.2.subs.mono (fun _ x => x.2)⟩, g3, hb.out.trans (g3.out.mono hb.out.size)⟩)
  have HT_1 : Hid (∀ V, Hid (Below w9.heap.size w9 V) → Calls Try.prog 7 #[.agg #[.int .i64 x1_0, .string x1_1, .bool x1_2, .slice a1_3 n1_3 c1_3, .slice a1_4 n1_4 c1_4, .slice a1_5 n1_5 c1_5, .slice a1_6 n1_6 c1_6]] V fun e w' => ∃ (d1_3 d1_4 d1_5 d1_6 : Option Addr) (e1_3 e1_4 e1_5 e1_6 : Nat) (G : Fo), e = .returned (.agg #[.int .i64 x1_0, .string x1_1, .bool x1_2, .slice d1_3 n1_3 e1_3, .slice d1_4 n1_4 e1_4, .slice d1_5 n1_5 e1_5, .slice d1_6 n1_6 e1_6]) ∧ Hid (G.vals = [.int .i64 x1_0, .string x1_1, .bool x1_2, .slice d1_3 n1_3 e1_3, .slice d1_4 n1_4 e1_4, .slice d1_5 n1_5 e1_5, .slice d1_6 n1_6 e1_6] ∧ G.sim F1 ∧ G.Subs w' (fun c => c < w'.heap.size)) ∧ Hid (Below V.heap.size V w') ∧ Hid (Below w9.heap.size w9 w')) := fun V hb => (HTo1.out V ((HL10.out.below hb.out).fo F1 mem_1)).mono (by
    rintro e w' ⟨d1_3, d1_4, d1_5, d1_6, e1_3, e1_4, e1_5, e1_6, G, g1, g2, g3⟩
    exact ⟨d1_3, d1_4, d1_5, d1_6, e1_3, e1_4, e1_5, e1_6, G, g1, ⟨g2.out.1, g2.out.2.1, g2.out.2.2.subs.mono (fun _ x => x.2)⟩, g3, hb.out.trans (g3.out.mono hb.out.size)⟩)
  go_cut [6] (fun s wx => s = .bool qq ∧ Below w9.heap.size w9 wx)
  case first =>
    go_region_held3 (fun V => V.cell? ⟨W.heap.size, 0, none⟩ = some (.int .i64 x0_0) ∧ V.cell? ⟨W.heap.size, 1, none⟩ = some (.string x0_1) ∧ V.cell? ⟨W.heap.size, 2, none⟩ = some (.bool x0_2) ∧ V.cell? ⟨W.heap.size, 3, none⟩ = some (.slice a0_3 n0_3 c0_3) ∧ V.cell? ⟨W.heap.size, 4, none⟩ = some (.slice a0_4 n0_4 c0_4) ∧ V.cell? ⟨W.heap.size, 5, none⟩ = some (.slice a0_5 n0_5 c0_5) ∧ V.cell? ⟨W.heap.size, 6, none⟩ = some (.slice a0_6 n0_6 c0_6) ∧ V.cell? ⟨W.heap.size + 1, 0, none⟩ = some (.int .i64 x1_0) ∧ V.cell? ⟨W.heap.size + 1, 1, none⟩ = some (.string x1_1) ∧ V.cell? ⟨W.heap.size + 1, 2, none⟩ = some (.bool x1_2) ∧ V.cell? ⟨W.heap.size + 1, 3, none⟩ = some (.slice a1_3 n1_3 c1_3) ∧ V.cell? ⟨W.heap.size + 1, 4, none⟩ = some (.slice a1_4 n1_4 c1_4) ∧ V.cell? ⟨W.heap.size + 1, 5, none⟩ = some (.slice a1_5 n1_5 c1_5) ∧ V.cell? ⟨W.heap.size + 1, 6, none⟩ = some (.slice a1_6 n1_6 c1_6))
      (first | with_reducible exact km9' | with_reducible exact km1' | with_reducible exact km0' | with_reducible exact k0')
      (first
        | (go_at_call_of 7 (Value.slice a0_6 n0_6 c0_6); refine (HT_0.out _ HDR).mono ?_; rintro e wm0 ⟨m0d0_3, m0d0_4, m0d0_5, m0d0_6, m0e0_3, m0e0_4, m0e0_5, m0e0_6, Gm0, rfl, gm0, bx0, bm0⟩; have km0' := HSQ.out wm0 bm0.out)
        | (go_at_call_of 7 (Value.slice a1_6 n1_6 c1_6); refine (HT_1.out _ bm0).mono ?_; rintro e wm1 ⟨m1d1_3, m1d1_4, m1d1_5, m1d1_6, m1e1_3, m1e1_4, m1e1_5, m1e1_6, Gm1, rfl, gm1, bx1, bm1⟩; have km1' := HSQ.out wm1 bm1.out)
        | (go_at_call 10; refine (HMo.out wm1 m0d0_3 m0d0_4 m0d0_5 m0d0_6 m0e0_3 m0e0_4 m0e0_5 m0e0_6 Gm0 m1d1_3 m1d1_4 m1d1_5 m1d1_6 m1e1_3 m1e1_4 m1e1_5 m1e1_6 Gm1 ⟨gm0.out.1, gm0.out.2.1, ((gm0.out.2.2.below bx1.out (fun _ x => x)).mono (fun _ x => Nat.lt_of_lt_of_le x bx1.out.size))⟩ ⟨gm1.out.1, gm1.out.2.1, gm1.out.2.2⟩).mono ?_; rintro e wm9 ⟨rfl, b9⟩; have bm9 := hide (bm1.out.trans (b9.out.mono bm1.out.size)); have km9' := HSQ.out wm9 bm9.out))
    all_goals
      go_wp2_with fail
      go_meet
      case rel => exact ⟨rfl, bm9.out⟩
  case rest =>
    obtain ⟨rfl, hcb⟩ := hcut
    rename World => w11
    have HL12 : Hid (Law W [(W.heap.size + 1, [.int .i64 x1_0, .string x1_1, .bool x1_2, .slice a1_3 n1_3 c1_3, .slice a1_4 n1_4 c1_4, .slice a1_5 n1_5 c1_5, .slice a1_6 n1_6 c1_6]), (W.heap.size, [.int .i64 x0_0, .string x0_1, .bool x0_2, .slice a0_3 n0_3 c0_3, .slice a0_4 n0_4 c0_4, .slice a0_5 n0_5 c0_5, .slice a0_6 n0_6 c0_6])] [F0, F1] [] w11) := HL10.out.below hcb
    clear hcb HL10 HSQ HDR k0' HT_0 HT_1 z0 z1 z2 z3 z4 z5 z6 u0 u1 u2 u3 u4 u5 u6
    go_upto_region 9 with fail
    have cc := HL12.out.cell (W.heap.size) _ mem_1
    have z0 := cc 0 _ rfl
    have z1 := cc 1 _ rfl
    have z2 := cc 2 _ rfl
    have z3 := cc 3 _ rfl
    have z4 := cc 4 _ rfl
    have z5 := cc 5 _ rfl
    have z6 := cc 6 _ rfl
    clear cc
    go_wp2_with fail
    refine (HTo0.out w11 (HL12.out.fo F0 mem_0)).mono ?_
    rintro e w13 ⟨xd0_3, xd0_4, xd0_5, xd0_6, xe0_3, xe0_4, xe0_5, xe0_6, X0, rfl, g1, b2⟩
    have HX0 : Hid (X0.vals = [.int .i64 x0_0, .string x0_1, .bool x0_2, .slice xd0_3 n0_3 xe0_3, .slice xd0_4 n0_4 xe0_4, .slice xd0_5 n0_5 xe0_5, .slice xd0_6 n0_6 xe0_6] ∧ X0.sim F0 ∧ ∀ c ∈ X0.inn, w11.heap.size ≤ c ∧ c < w13.heap.size) := ⟨g1.out.1, g1.out.2.1, g1.out.2.2.subs.inn_of⟩
    obtain ⟨V14, hV⟩ : ∃ V, w13.alloc (.cells #[.int .i64 x0_0, .string x0_1, .bool x0_2, .slice xd0_3 n0_3 xe0_3, .slice xd0_4 n0_4 xe0_4, .slice xd0_5 n0_5 xe0_5, .slice xd0_6 n0_6 xe0_6] 36) = V := ⟨_, rfl⟩
    have HL15 : Hid (Law W [(w13.heap.size, [.int .i64 x0_0, .string x0_1, .bool x0_2, .slice xd0_3 n0_3 xe0_3, .slice xd0_4 n0_4 xe0_4, .slice xd0_5 n0_5 xe0_5, .slice xd0_6 n0_6 xe0_6]), (W.heap.size + 1, [.int .i64 x1_0, .string x1_1, .bool x1_2, .slice a1_3 n1_3 c1_3, .slice a1_4 n1_4 c1_4, .slice a1_5 n1_5 c1_5, .slice a1_6 n1_6 c1_6]), (W.heap.size, [.int .i64 x0_0, .string x0_1, .bool x0_2, .slice a0_3 n0_3 c0_3, .slice a0_4 n0_4 c0_4, .slice a0_5 n0_5 c0_5, .slice a0_6 n0_6 c0_6])] [X0, F0, F1] [(w11.heap.size, X0)] V14) := by unfold Hid; rw [← hV]; exact ((HL12.out.below b2.out).adds g1.out.2.2).box _ _
    have HZ1 : Hid (V14.heap.size = w13.heap.size + 1 ∧ w11.heap.size ≤ w13.heap.size) := ⟨by rw [← hV]; simp, b2.out.size⟩
    have HV := hide hV
    clear g1 b2 hV HL12 z0 z1 z2 z3 z4 z5 z6
    go_upto_region 10 with fail
    rw [HV.out]
    clear HV
    have cc := HL15.out.cell (W.heap.size + 1) _ mem_1
    have z0 := cc 0 _ rfl
    have z1 := cc 1 _ rfl
    have z2 := cc 2 _ rfl
    have z3 := cc 3 _ rfl
    have z4 := cc 4 _ rfl
    have z5 := cc 5 _ rfl
    have z6 := cc 6 _ rfl
    clear cc
    go_wp2_with fail
    refine (HTo1.out V14 (HL15.out.fo F1 mem_2)).mono ?_
    rintro e w16 ⟨xd1_3, xd1_4, xd1_5, xd1_6, xe1_3, xe1_4, xe1_5, xe1_6, X1, rfl, g1, b2⟩
    have HX1 : Hid (X1.vals = [.int .i64 x1_0, .string x1_1, .bool x1_2, .slice xd1_3 n1_3 xe1_3, .slice xd1_4 n1_4 xe1_4, .slice xd1_5 n1_5 xe1_5, .slice xd1_6 n1_6 xe1_6] ∧ X1.sim F1 ∧ ∀ c ∈ X1.inn, V14.heap.size ≤ c ∧ c < w16.heap.size) := ⟨g1.out.1, g1.out.2.1, g1.out.2.2.subs.inn_of⟩
    obtain ⟨V17, hV⟩ : ∃ V, w16.alloc (.cells #[.int .i64 x1_0, .string x1_1, .bool x1_2, .slice xd1_3 n1_3 xe1_3, .slice xd1_4 n1_4 xe1_4, .slice xd1_5 n1_5 xe1_5, .slice xd1_6 n1_6 xe1_6] 36) = V := ⟨_, rfl⟩
    have HL18 : Hid (Law W [(w16.heap.size, [.int .i64 x1_0, .string x1_1, .bool x1_2, .slice xd1_3 n1_3 xe1_3, .slice xd1_4 n1_4 xe1_4, .slice xd1_5 n1_5 xe1_5, .slice xd1_6 n1_6 xe1_6]), (w13.heap.size, [.int .i64 x0_0, .string x0_1, .bool x0_2, .slice xd0_3 n0_3 xe0_3, .slice xd0_4 n0_4 xe0_4, .slice xd0_5 n0_5 xe0_5, .slice xd0_6 n0_6 xe0_6]), (W.heap.size + 1, [.int .i64 x1_0, .string x1_1, .bool x1_2, .slice a1_3 n1_3 c1_3, .slice a1_4 n1_4 c1_4, .slice a1_5 n1_5 c1_5, .slice a1_6 n1_6 c1_6]), (W.heap.size, [.int .i64 x0_0, .string x0_1, .bool x0_2, .slice a0_3 n0_3 c0_3, .slice a0_4 n0_4 c0_4, .slice a0_5 n0_5 c0_5, .slice a0_6 n0_6 c0_6])] [X1, X0, F0, F1] [(V14.heap.size, X1), (w11.heap.size, X0)] V17) := by unfold Hid; rw [← hV]; exact ((HL15.out.below b2.out).adds g1.out.2.2).box _ _
    have HZ2 : Hid (V17.heap.size = w16.heap.size + 1 ∧ V14.heap.size ≤ w16.heap.size) := ⟨by rw [← hV]; simp, b2.out.size⟩
    have HV := hide hV
    clear g1 b2 hV HL15 z0 z1 z2 z3 z4 z5 z6
    go_upto_region 11 with fail
    rw [HV.out]
    clear HV
    have cc := HL18.out.cell (w13.heap.size) _ mem_1
    have z0_0 := cc 0 _ rfl
    have z0_1 := cc 1 _ rfl
    have z0_2 := cc 2 _ rfl
    have z0_3 := cc 3 _ rfl
    have z0_4 := cc 4 _ rfl
    have z0_5 := cc 5 _ rfl
    have z0_6 := cc 6 _ rfl
    clear cc
    have cc := HL18.out.cell (w16.heap.size) _ mem_0
    have z1_0 := cc 0 _ rfl
    have z1_1 := cc 1 _ rfl
    have z1_2 := cc 2 _ rfl
    have z1_3 := cc 3 _ rfl
    have z1_4 := cc 4 _ rfl
    have z1_5 := cc 5 _ rfl
    have z1_6 := cc 6 _ rfl
    clear cc
    have HC := hide (HPr.out V17 xd0_3 xd0_4 xd0_5 xd0_6 xe0_3 xe0_4 xe0_5 xe0_6 X0 _ xd1_3 xd1_4 xd1_5 xd1_6 xe1_3 xe1_4 xe1_5 xe1_6 X1 _ ⟨HX0.out.1, HX0.out.2.1, HL18.out.ow (_, X0) mem_1⟩ ⟨HX1.out.1, HX1.out.2.1, HL18.out.ow (_, X1) mem_0⟩ (by have h0 := HX0.out.2.2; have h1 := HZ1.out; intro c hc; have h2 := h0 c hc; omega))
    go_wp2_with fail
    refine HC.out.mono ?_
    rintro e w19 ⟨rfl, b5⟩
    have HL20 : Hid (Law W [(w16.heap.size, [.int .i64 x1_0, .string x1_1, .bool x1_2, .slice xd1_3 n1_3 xe1_3, .slice xd1_4 n1_4 xe1_4, .slice xd1_5 n1_5 xe1_5, .slice xd1_6 n1_6 xe1_6]), (w13.heap.size, [.int .i64 x0_0, .string x0_1, .bool x0_2, .slice xd0_3 n0_3 xe0_3, .slice xd0_4 n0_4 xe0_4, .slice xd0_5 n0_5 xe0_5, .slice xd0_6 n0_6 xe0_6]), (W.heap.size + 1, [.int .i64 x1_0, .string x1_1, .bool x1_2, .slice a1_3 n1_3 c1_3, .slice a1_4 n1_4 c1_4, .slice a1_5 n1_5 c1_5, .slice a1_6 n1_6 c1_6]), (W.heap.size, [.int .i64 x0_0, .string x0_1, .bool x0_2, .slice a0_3 n0_3 c0_3, .slice a0_4 n0_4 c0_4, .slice a0_5 n0_5 c0_5, .slice a0_6 n0_6 c0_6])] [X1, X0, F0, F1] [(V14.heap.size, X1), (w11.heap.size, X0)] w19) := HL18.out.below b5.out
    clear HC HL18 b5 z0_0 z0_1 z0_2 z0_3 z0_4 z0_5 z0_6 z1_0 z1_1 z1_2 z1_3 z1_4 z1_5 z1_6
    go_upto_region 14 with fail
    have cc := HL20.out.cell (W.heap.size) _ mem_3
    have z0 := cc 0 _ rfl
    have z1 := cc 1 _ rfl
    have z2 := cc 2 _ rfl
    have z3 := cc 3 _ rfl
    have z4 := cc 4 _ rfl
    have z5 := cc 5 _ rfl
    have z6 := cc 6 _ rfl
    clear cc
    have cc := HL20.out.cell (w13.heap.size) _ mem_1
    have u0 := cc 0 _ rfl
    have u1 := cc 1 _ rfl
    have u2 := cc 2 _ rfl
    have u3 := cc 3 _ rfl
    have u4 := cc 4 _ rfl
    have u5 := cc 5 _ rfl
    have u6 := cc 6 _ rfl
    clear cc
    have HSQ : Hid (∀ V, Below w19.heap.size w19 V → V.cell? ⟨W.heap.size, 0, none⟩ = some (.int .i64 x0_0) ∧ V.cell? ⟨W.heap.size, 1, none⟩ = some (.string x0_1) ∧ V.cell? ⟨W.heap.size, 2, none⟩ = some (.bool x0_2) ∧ V.cell? ⟨W.heap.size, 3, none⟩ = some (.slice a0_3 n0_3 c0_3) ∧ V.cell? ⟨W.heap.size, 4, none⟩ = some (.slice a0_4 n0_4 c0_4) ∧ V.cell? ⟨W.heap.size, 5, none⟩ = some (.slice a0_5 n0_5 c0_5) ∧ V.cell? ⟨W.heap.size, 6, none⟩ = some (.slice a0_6 n0_6 c0_6) ∧ V.cell? ⟨w13.heap.size, 0, none⟩ = some (.int .i64 x0_0) ∧ V.cell? ⟨w13.heap.size, 1, none⟩ = some (.string x0_1) ∧ V.cell? ⟨w13.heap.size, 2, none⟩ = some (.bool x0_2) ∧ V.cell? ⟨w13.heap.size, 3, none⟩ = some (.slice xd0_3 n0_3 xe0_3) ∧ V.cell? ⟨w13.heap.size, 4, none⟩ = some (.slice xd0_4 n0_4 xe0_4) ∧ V.cell? ⟨w13.heap.size, 5, none⟩ = some (.slice xd0_5 n0_5 xe0_5) ∧ V.cell? ⟨w13.heap.size, 6, none⟩ = some (.slice xd0_6 n0_6 xe0_6)) := fun V hb => by
      have hl := HL20.out.below hb
      have cz := hl.cell (W.heap.size) _ mem_3
      have cu := hl.cell (w13.heap.size) _ mem_1
      exact ⟨cz 0 _ rfl, cz 1 _ rfl, cz 2 _ rfl, cz 3 _ rfl, cz 4 _ rfl, cz 5 _ rfl, cz 6 _ rfl, cu 0 _ rfl, cu 1 _ rfl, cu 2 _ rfl, cu 3 _ rfl, cu 4 _ rfl, cu 5 _ rfl, cu 6 _ rfl⟩
    have HDR : Hid (Below w19.heap.size w19 w19.drew) := (Below.refl _ _).drew
    have k0' := HSQ.out w19.drew HDR.out
    have HT6 : Hid (Calls Try.prog 7 #[.agg #[.int .i64 x0_0, .string x0_1, .bool x0_2, .slice a0_3 n0_3 c0_3, .slice a0_4 n0_4 c0_4, .slice a0_5 n0_5 c0_5, .slice a0_6 n0_6 c0_6]] w19.drew fun e w' => ∃ (d0_3 d0_4 d0_5 d0_6 : Option Addr) (e0_3 e0_4 e0_5 e0_6 : Nat) (G : Fo), e = .returned (.agg #[.int .i64 x0_0, .string x0_1, .bool x0_2, .slice d0_3 n0_3 e0_3, .slice d0_4 n0_4 e0_4, .slice d0_5 n0_5 e0_5, .slice d0_6 n0_6 e0_6]) ∧ Hid (G.vals = [.int .i64 x0_0, .string x0_1, .bool x0_2, .slice d0_3 n0_3 e0_3, .slice d0_4 n0_4 e0_4, .slice d0_5 n0_5 e0_5, .slice d0_6 n0_6 e0_6] ∧ G.sim F0 ∧ G.Subs w' (fun c => c < w'.heap.size)) ∧ Hid (Below w19.heap.size w19 w')) := (HTo0.out w19.drew ((HL20.out.below HDR.out).fo F0 mem_2)).mono (by
      rintro e w' ⟨d0_3, d0_4, d0_5, d0_6, e0_3, e0_4, e0_5, e0_6, G, g1, g2, g3⟩
      exact ⟨d0_3, d0_4, d0_5, d0_6, e0_3, e0_4, e0_5, e0_6, G, g1, ⟨g2.out.1, g2.out.2.1, g2.out.2.2.subs.mono (fun _ x => x.2)⟩, HDR.out.trans g3.out⟩)
    have HE6 : Hid (∀ w8 (d0_3 d0_4 d0_5 d0_6 : Option Addr) (e0_3 e0_4 e0_5 e0_6 : Nat) (G : Fo), Hid (G.vals = [.int .i64 x0_0, .string x0_1, .bool x0_2, .slice d0_3 n0_3 e0_3, .slice d0_4 n0_4 e0_4, .slice d0_5 n0_5 e0_5, .slice d0_6 n0_6 e0_6] ∧ G.sim F0 ∧ G.Subs w8 (fun c => c < w8.heap.size)) → Hid (Below w19.heap.size w19 w8) → Calls Try.prog 9 #[.agg #[.int .i64 x0_0, .string x0_1, .bool x0_2, .slice xd0_3 n0_3 xe0_3, .slice xd0_4 n0_4 xe0_4, .slice xd0_5 n0_5 xe0_5, .slice xd0_6 n0_6 xe0_6], .agg #[.int .i64 x0_0, .string x0_1, .bool x0_2, .slice d0_3 n0_3 e0_3, .slice d0_4 n0_4 e0_4, .slice d0_5 n0_5 e0_5, .slice d0_6 n0_6 e0_6]] w8 fun e w' => e = .returned (.bool true) ∧ Hid (Below w19.heap.size w19 w')) := fun w8 d0_3 d0_4 d0_5 d0_6 e0_3 e0_4 e0_5 e0_6 G hg hb => (HEa0.out w8 xd0_3 xd0_4 xd0_5 xd0_6 xe0_3 xe0_4 xe0_5 xe0_6 d0_3 d0_4 d0_5 d0_6 e0_3 e0_4 e0_5 e0_6 X0 G ⟨HX0.out.1, HX0.out.2.1, (HL20.out.below hb.out).fo X0 mem_1⟩ hg).mono (fun e w' h => ⟨h.1, hb.out.trans (h.2.out.mono hb.out.size)⟩)
    go_cut [39] (fun s wx => s = .bool false ∧ Below w19.heap.size w19 wx)
    case first =>
      go_region_held3 (fun V => V.cell? ⟨W.heap.size, 0, none⟩ = some (.int .i64 x0_0) ∧ V.cell? ⟨W.heap.size, 1, none⟩ = some (.string x0_1) ∧ V.cell? ⟨W.heap.size, 2, none⟩ = some (.bool x0_2) ∧ V.cell? ⟨W.heap.size, 3, none⟩ = some (.slice a0_3 n0_3 c0_3) ∧ V.cell? ⟨W.heap.size, 4, none⟩ = some (.slice a0_4 n0_4 c0_4) ∧ V.cell? ⟨W.heap.size, 5, none⟩ = some (.slice a0_5 n0_5 c0_5) ∧ V.cell? ⟨W.heap.size, 6, none⟩ = some (.slice a0_6 n0_6 c0_6) ∧ V.cell? ⟨w13.heap.size, 0, none⟩ = some (.int .i64 x0_0) ∧ V.cell? ⟨w13.heap.size, 1, none⟩ = some (.string x0_1) ∧ V.cell? ⟨w13.heap.size, 2, none⟩ = some (.bool x0_2) ∧ V.cell? ⟨w13.heap.size, 3, none⟩ = some (.slice xd0_3 n0_3 xe0_3) ∧ V.cell? ⟨w13.heap.size, 4, none⟩ = some (.slice xd0_4 n0_4 xe0_4) ∧ V.cell? ⟨w13.heap.size, 5, none⟩ = some (.slice xd0_5 n0_5 xe0_5) ∧ V.cell? ⟨w13.heap.size, 6, none⟩ = some (.slice xd0_6 n0_6 xe0_6))
        (first | with_reducible exact k9' | with_reducible exact k8' | with_reducible exact k0')
        (first
          | (go_at_call 7; refine HT6.out.mono ?_; rintro e w8 ⟨yd0_3, yd0_4, yd0_5, yd0_6, ye0_3, ye0_4, ye0_5, ye0_6, Gx, rfl, g3, b8⟩; have k8' := HSQ.out w8 b8.out)
          | (go_at_call 9; refine (HE6.out w8 yd0_3 yd0_4 yd0_5 yd0_6 ye0_3 ye0_4 ye0_5 ye0_6 Gx g3 b8).mono ?_; rintro e w9 ⟨rfl, b9⟩; have k9' := HSQ.out w9 b9.out))
      all_goals
        go_wp2_with fail
        go_meet
        case rel => exact ⟨rfl, b9.out⟩
    case rest =>
      obtain ⟨rfl, hcb⟩ := hcut
      rename World => w21
      have HL22 : Hid (Law W [(w16.heap.size, [.int .i64 x1_0, .string x1_1, .bool x1_2, .slice xd1_3 n1_3 xe1_3, .slice xd1_4 n1_4 xe1_4, .slice xd1_5 n1_5 xe1_5, .slice xd1_6 n1_6 xe1_6]), (w13.heap.size, [.int .i64 x0_0, .string x0_1, .bool x0_2, .slice xd0_3 n0_3 xe0_3, .slice xd0_4 n0_4 xe0_4, .slice xd0_5 n0_5 xe0_5, .slice xd0_6 n0_6 xe0_6]), (W.heap.size + 1, [.int .i64 x1_0, .string x1_1, .bool x1_2, .slice a1_3 n1_3 c1_3, .slice a1_4 n1_4 c1_4, .slice a1_5 n1_5 c1_5, .slice a1_6 n1_6 c1_6]), (W.heap.size, [.int .i64 x0_0, .string x0_1, .bool x0_2, .slice a0_3 n0_3 c0_3, .slice a0_4 n0_4 c0_4, .slice a0_5 n0_5 c0_5, .slice a0_6 n0_6 c0_6])] [X1, X0, F0, F1] [(V14.heap.size, X1), (w11.heap.size, X0)] w21) := HL20.out.below hcb
      clear hcb HL20 HSQ HDR HT6 HE6 k0' z0 z1 z2 z3 z4 z5 z6 u0 u1 u2 u3 u4 u5 u6
      go_upto_region 16 with fail
      have cc := HL22.out.cell (W.heap.size + 1) _ mem_2
      have z0 := cc 0 _ rfl
      have z1 := cc 1 _ rfl
      have z2 := cc 2 _ rfl
      have z3 := cc 3 _ rfl
      have z4 := cc 4 _ rfl
      have z5 := cc 5 _ rfl
      have z6 := cc 6 _ rfl
      clear cc
      have cc := HL22.out.cell (w16.heap.size) _ mem_0
      have u0 := cc 0 _ rfl
      have u1 := cc 1 _ rfl
      have u2 := cc 2 _ rfl
      have u3 := cc 3 _ rfl
      have u4 := cc 4 _ rfl
      have u5 := cc 5 _ rfl
      have u6 := cc 6 _ rfl
      clear cc
      have HSQ : Hid (∀ V, Below w21.heap.size w21 V → V.cell? ⟨W.heap.size + 1, 0, none⟩ = some (.int .i64 x1_0) ∧ V.cell? ⟨W.heap.size + 1, 1, none⟩ = some (.string x1_1) ∧ V.cell? ⟨W.heap.size + 1, 2, none⟩ = some (.bool x1_2) ∧ V.cell? ⟨W.heap.size + 1, 3, none⟩ = some (.slice a1_3 n1_3 c1_3) ∧ V.cell? ⟨W.heap.size + 1, 4, none⟩ = some (.slice a1_4 n1_4 c1_4) ∧ V.cell? ⟨W.heap.size + 1, 5, none⟩ = some (.slice a1_5 n1_5 c1_5) ∧ V.cell? ⟨W.heap.size + 1, 6, none⟩ = some (.slice a1_6 n1_6 c1_6) ∧ V.cell? ⟨w16.heap.size, 0, none⟩ = some (.int .i64 x1_0) ∧ V.cell? ⟨w16.heap.size, 1, none⟩ = some (.string x1_1) ∧ V.cell? ⟨w16.heap.size, 2, none⟩ = some (.bool x1_2) ∧ V.cell? ⟨w16.heap.size, 3, none⟩ = some (.slice xd1_3 n1_3 xe1_3) ∧ V.cell? ⟨w16.heap.size, 4, none⟩ = some (.slice xd1_4 n1_4 xe1_4) ∧ V.cell? ⟨w16.heap.size, 5, none⟩ = some (.slice xd1_5 n1_5 xe1_5) ∧ V.cell? ⟨w16.heap.size, 6, none⟩ = some (.slice xd1_6 n1_6 xe1_6)) := fun V hb => by
        have hl := HL22.out.below hb
        have cz := hl.cell (W.heap.size + 1) _ mem_2
        have cu := hl.cell (w16.heap.size) _ mem_0
        exact ⟨cz 0 _ rfl, cz 1 _ rfl, cz 2 _ rfl, cz 3 _ rfl, cz 4 _ rfl, cz 5 _ rfl, cz 6 _ rfl, cu 0 _ rfl, cu 1 _ rfl, cu 2 _ rfl, cu 3 _ rfl, cu 4 _ rfl, cu 5 _ rfl, cu 6 _ rfl⟩
      have HDR : Hid (Below w21.heap.size w21 w21.drew) := (Below.refl _ _).drew
      have k0' := HSQ.out w21.drew HDR.out
      have HT6 : Hid (Calls Try.prog 7 #[.agg #[.int .i64 x1_0, .string x1_1, .bool x1_2, .slice a1_3 n1_3 c1_3, .slice a1_4 n1_4 c1_4, .slice a1_5 n1_5 c1_5, .slice a1_6 n1_6 c1_6]] w21.drew fun e w' => ∃ (d1_3 d1_4 d1_5 d1_6 : Option Addr) (e1_3 e1_4 e1_5 e1_6 : Nat) (G : Fo), e = .returned (.agg #[.int .i64 x1_0, .string x1_1, .bool x1_2, .slice d1_3 n1_3 e1_3, .slice d1_4 n1_4 e1_4, .slice d1_5 n1_5 e1_5, .slice d1_6 n1_6 e1_6]) ∧ Hid (G.vals = [.int .i64 x1_0, .string x1_1, .bool x1_2, .slice d1_3 n1_3 e1_3, .slice d1_4 n1_4 e1_4, .slice d1_5 n1_5 e1_5, .slice d1_6 n1_6 e1_6] ∧ G.sim F1 ∧ G.Subs w' (fun c => c < w'.heap.size)) ∧ Hid (Below w21.heap.size w21 w')) := (HTo1.out w21.drew ((HL22.out.below HDR.out).fo F1 mem_3)).mono (by
        rintro e w' ⟨d1_3, d1_4, d1_5, d1_6, e1_3, e1_4, e1_5, e1_6, G, g1, g2, g3⟩
        exact ⟨d1_3, d1_4, d1_5, d1_6, e1_3, e1_4, e1_5, e1_6, G, g1, ⟨g2.out.1, g2.out.2.1, g2.out.2.2.subs.mono (fun _ x => x.2)⟩, HDR.out.trans g3.out⟩)
      have HE6 : Hid (∀ w8 (d1_3 d1_4 d1_5 d1_6 : Option Addr) (e1_3 e1_4 e1_5 e1_6 : Nat) (G : Fo), Hid (G.vals = [.int .i64 x1_0, .string x1_1, .bool x1_2, .slice d1_3 n1_3 e1_3, .slice d1_4 n1_4 e1_4, .slice d1_5 n1_5 e1_5, .slice d1_6 n1_6 e1_6] ∧ G.sim F1 ∧ G.Subs w8 (fun c => c < w8.heap.size)) → Hid (Below w21.heap.size w21 w8) → Calls Try.prog 9 #[.agg #[.int .i64 x1_0, .string x1_1, .bool x1_2, .slice xd1_3 n1_3 xe1_3, .slice xd1_4 n1_4 xe1_4, .slice xd1_5 n1_5 xe1_5, .slice xd1_6 n1_6 xe1_6], .agg #[.int .i64 x1_0, .string x1_1, .bool x1_2, .slice d1_3 n1_3 e1_3, .slice d1_4 n1_4 e1_4, .slice d1_5 n1_5 e1_5, .slice d1_6 n1_6 e1_6]] w8 fun e w' => e = .returned (.bool true) ∧ Hid (Below w21.heap.size w21 w')) := fun w8 d1_3 d1_4 d1_5 d1_6 e1_3 e1_4 e1_5 e1_6 G hg hb => (HEa1.out w8 xd1_3 xd1_4 xd1_5 xd1_6 xe1_3 xe1_4 xe1_5 xe1_6 d1_3 d1_4 d1_5 d1_6 e1_3 e1_4 e1_5 e1_6 X1 G ⟨HX1.out.1, HX1.out.2.1, (HL22.out.below hb.out).fo X1 mem_0⟩ hg).mono (fun e w' h => ⟨h.1, hb.out.trans (h.2.out.mono hb.out.size)⟩)
      go_cut [44] (fun s wx => s = .bool false ∧ Below w21.heap.size w21 wx)
      case first =>
        go_region_held3 (fun V => V.cell? ⟨W.heap.size + 1, 0, none⟩ = some (.int .i64 x1_0) ∧ V.cell? ⟨W.heap.size + 1, 1, none⟩ = some (.string x1_1) ∧ V.cell? ⟨W.heap.size + 1, 2, none⟩ = some (.bool x1_2) ∧ V.cell? ⟨W.heap.size + 1, 3, none⟩ = some (.slice a1_3 n1_3 c1_3) ∧ V.cell? ⟨W.heap.size + 1, 4, none⟩ = some (.slice a1_4 n1_4 c1_4) ∧ V.cell? ⟨W.heap.size + 1, 5, none⟩ = some (.slice a1_5 n1_5 c1_5) ∧ V.cell? ⟨W.heap.size + 1, 6, none⟩ = some (.slice a1_6 n1_6 c1_6) ∧ V.cell? ⟨w16.heap.size, 0, none⟩ = some (.int .i64 x1_0) ∧ V.cell? ⟨w16.heap.size, 1, none⟩ = some (.string x1_1) ∧ V.cell? ⟨w16.heap.size, 2, none⟩ = some (.bool x1_2) ∧ V.cell? ⟨w16.heap.size, 3, none⟩ = some (.slice xd1_3 n1_3 xe1_3) ∧ V.cell? ⟨w16.heap.size, 4, none⟩ = some (.slice xd1_4 n1_4 xe1_4) ∧ V.cell? ⟨w16.heap.size, 5, none⟩ = some (.slice xd1_5 n1_5 xe1_5) ∧ V.cell? ⟨w16.heap.size, 6, none⟩ = some (.slice xd1_6 n1_6 xe1_6))
          (first | with_reducible exact k9' | with_reducible exact k8' | with_reducible exact k0')
          (first
            | (go_at_call 7; refine HT6.out.mono ?_; rintro e w8 ⟨yd1_3, yd1_4, yd1_5, yd1_6, ye1_3, ye1_4, ye1_5, ye1_6, Gx, rfl, g3, b8⟩; have k8' := HSQ.out w8 b8.out)
            | (go_at_call 9; refine (HE6.out w8 yd1_3 yd1_4 yd1_5 yd1_6 ye1_3 ye1_4 ye1_5 ye1_6 Gx g3 b8).mono ?_; rintro e w9 ⟨rfl, b9⟩; have k9' := HSQ.out w9 b9.out))
        all_goals
          go_wp2_with fail
          go_meet
          case rel => exact ⟨rfl, b9.out⟩
      case rest =>
        obtain ⟨rfl, hcb⟩ := hcut
        rename World => w23
        have HL24 : Hid (Law W [(w16.heap.size, [.int .i64 x1_0, .string x1_1, .bool x1_2, .slice xd1_3 n1_3 xe1_3, .slice xd1_4 n1_4 xe1_4, .slice xd1_5 n1_5 xe1_5, .slice xd1_6 n1_6 xe1_6]), (w13.heap.size, [.int .i64 x0_0, .string x0_1, .bool x0_2, .slice xd0_3 n0_3 xe0_3, .slice xd0_4 n0_4 xe0_4, .slice xd0_5 n0_5 xe0_5, .slice xd0_6 n0_6 xe0_6]), (W.heap.size + 1, [.int .i64 x1_0, .string x1_1, .bool x1_2, .slice a1_3 n1_3 c1_3, .slice a1_4 n1_4 c1_4, .slice a1_5 n1_5 c1_5, .slice a1_6 n1_6 c1_6]), (W.heap.size, [.int .i64 x0_0, .string x0_1, .bool x0_2, .slice a0_3 n0_3 c0_3, .slice a0_4 n0_4 c0_4, .slice a0_5 n0_5 c0_5, .slice a0_6 n0_6 c0_6])] [X1, X0, F0, F1] [(V14.heap.size, X1), (w11.heap.size, X0)] w23) := HL22.out.below hcb
        clear hcb HL22 HSQ HDR HT6 HE6 k0' z0 z1 z2 z3 z4 z5 z6 u0 u1 u2 u3 u4 u5 u6
        go_wp2_with fail
        go_ret
        exact ⟨rfl, HL24.out.be⟩

end Go.Proofs.Ytfgmgbkiebeeoaa
