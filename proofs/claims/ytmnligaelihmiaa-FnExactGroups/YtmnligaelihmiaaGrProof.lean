import Derived.Deep.RegionHeld3
import Derived.Test.YtmnligaelihmiaaKa
import Derived.Test.YtmnligaelihmiaaUs
import Derived.Test.YtmnligaelihmiaaJh
import Derived.Test.YtmnligaelihmiaaUx
import Derived.Test.YtmnligaelihmiaaUw
import Derived.Test.YtmnligaelihmiaaJa
import Derived.Test.YtmnligaelihmiaaJb
import Derived.Test.YtmnligaelihmiaaJc
import Derived.Test.YtmnligaelihmiaaJd
import Derived.Test.YtmnligaelihmiaaJe
import Derived.Deep.DeepCutAuto
import Derived.WideShapes
namespace Go.Proofs.Ytmnligaelihmiaa
open Go.ChangeShapes Go.WideShapes Go.ChangeAt Go.RowKit Go.Joins

theorem Try.own : ownKnob Try.prog.godebug = none := by kernel_rfl
theorem Try.laidOut : laidOutB Try.prog = true := by kernel_rfl
theorem Try.cells2 : Try.prog.cellsOf 2 = 1 := by kernel_rfl
theorem Try.cells27 : Try.prog.cellsOf 27 = 1 := by kernel_rfl

set_option maxRecDepth 100000 in
theorem all_say {H : Type} {enc : TypeId × Value → H} {W : World} : ∀ (m : Nat), (∀ cs x, DataW.trod enc Try.prog W 0 (fun _ => true) true m 27 cs = some x → Says E W (E 1) cs) := by
  intro m cs x h
  exact says_slice (E := E) (k := 0) Try.underlying27 Try.cells2 (by decide) (fun m2 _ cs x h => says_int Try.underlying2 h) h

end Go.Proofs.Ytmnligaelihmiaa

namespace Go.Proofs.Ytmnligaelihmiaa
open Go.RowKit Go.Joins

set_option maxHeartbeats 16000000 in
set_option maxRecDepth 100000 in
theorem lawGr (a0 : Option Addr) (n0 c0 : Nat) (K0 : Fo) (W : World) (hf0 : Fit E (.s a0 n0 c0 K0 .nil) [.s 1]) (hs0 : Fo.Subs W (fun b => b < W.heap.size) (.s a0 n0 c0 K0 .nil)) :
    Calls Try.prog 4 #[.slice a0 n0 c0] W fun e W' => e = .returned (.bool true) ∧ Below W.heap.size W W' := by
  obtain ⟨F0, hF0⟩ : ∃ F0 : Fo, F0 = .s a0 n0 c0 K0 .nil := ⟨_, rfl⟩
  rw [← hF0] at hf0 hs0
  have hv0 : F0.vals = [.slice a0 n0 c0] := by rw [hF0]; rfl
  have HMx0 : Hid (n0 ≤ 9223372036854775807) := by have h1 := hs0; rw [hF0] at h1; have h2 := h1.1.1; have h3 := h1.1.2.1; simp only [maxLen] at h3; unfold Hid; omega
  have HFi0 := hide hf0
  have HFin0 : Hid (∀ c ∈ F0.inn, c < W.heap.size) := hs0.inn_of
  have HS0 : Hid (∀ V (left : Int), F0.Subs V (fun c => c < V.heap.size) → 0 ≤ left → left ≤ 1048576 → Calls Try.prog 8 #[.slice a0 n0 c0, .int .i64 left] V fun e w' => e = .returned (.int .i64 (szV left F0.wt)) ∧ Below V.heap.size V w') := fun V left hV h0 h1 => szR_rec sz_R_Int64SS hF0 HFi0.out left h0 h1 V hV
  have HL0 : Hid (Law W [] [F0] [] W) := ((Law.start W).add hs0)
  show Calls Try.prog 4 #[.slice a0 n0 c0] W _
  by_cases g9_0 : (1048576 : Int) < ((F0.wt : Nat) : Int)
  · have hend := szV_lt g9_0
    have hx0 := HMx0.out
    go_enter Try.func4, Try.ntmps4
    go_wp2_with fail
    refine (HS0.out W 1048576 (HL0.out.fo F0 mem_0) (by omega) (by omega)).mono ?_
    rintro e w1 ⟨rfl, b1⟩
    rw [hend]
    have HL2 : Hid (Law W [] [F0] [] w1) := HL0.out.below b1
    clear b1
    go_wp2_with fail
    go_ret
    exact ⟨rfl, HL2.out.be⟩
  obtain ⟨l0, hl0⟩ : ∃ l0 : Int, l0 = 1048576 - F0.wt := ⟨_, rfl⟩
  have he_0 : szV 1048576 F0.wt = l0 := by rw [szV_ge g9_0, hl0]
  have hge_0 : ¬ l0 < 0 := by omega
  have HLF0 : Hid (0 ≤ l0 ∧ l0 ≤ 1048576 ∧ F0.wt ≤ 1048576) := ⟨by omega, by omega, by omega⟩
  clear hl0 g9_0
  have hwt0 : F0.wt ≤ 1048576 := HLF0.out.2.2
  obtain ⟨AN, hAN⟩ : ∃ AN : Fo, AN = gU F0 := ⟨_, rfl⟩
  have hAF : Fit E AN [.s 1] := by rw [hAN]; exact (gU_fit hf0 hwt0).1
  have hbA : AN.sct ≤ 1048577 := by rw [hAN]; exact (gU_fit hf0 hwt0).2
  have hr : ∃  (ym0 : Nat), ∀ G : Fo, G.sim AN → ∃ (dr_0 : Option Addr) (er_0 : Nat), G.vals = [.slice dr_0 ym0 er_0] := by
    replace hf : Fit E AN [.s 1] := hAF
    clear hAN hbA hAF
    obtain ⟨a0, n0, c0, k0, F0, rfl, -, hf⟩ := fit_s hf
    obtain rfl := fit_nil hf
    refine ⟨n0, fun G s_0 => ?_⟩
    obtain ⟨d0, e0, t0, u0, rfl, -, s_1⟩ := Fo.sim_s s_0
    obtain rfl := Fo.sim_nil s_1
    exact ⟨d0, e0, rfl⟩
  obtain ⟨ym0, hR⟩ := hr
  have hAS : ∃ a c K, AN = .s a ym0 c K .nil := by
    clear hAN hbA
    obtain ⟨a, n, c, k, F, rfl, -, h⟩ := fit_s hAF
    obtain rfl := fit_nil h
    obtain ⟨d, e, h2⟩ := hR _ (Fo.sim.refl _)
    simp only [Fo.vals, List.cons.injEq, Value.slice.injEq, and_true] at h2
    obtain ⟨rfl, rfl, rfl⟩ := h2
    exact ⟨_, _, _, rfl⟩
  obtain ⟨aA, cA, KA, hAS⟩ := hAS
  have HTo0 : Hid (∀ V, F0.Subs V (fun c => c < V.heap.size) → Calls Try.prog 10 #[.slice a0 n0 c0] V fun e w' => ∃ (d0 : Option Addr) (e0 : Nat) (G : Fo), e = .returned (.slice d0 n0 e0) ∧ Hid (G.vals = [.slice d0 n0 e0] ∧ G.sim F0 ∧ Own V.heap.size w' G) ∧ Hid (Below V.heap.size V w')) := fun V hV => by
    exact toR_rec to_R_Int64SS hF0 HFi0.out hwt0 V hV
  have HEa0 : Hid (∀ V (d0 : Option Addr) (e0 : Nat) (p0 : Option Addr) (q0 : Nat) (Q R : Fo), Hid (Q.vals = [.slice d0 n0 e0] ∧ Q.sim F0 ∧ Q.Subs V (fun c => c < V.heap.size)) → Hid (R.vals = [.slice p0 n0 q0] ∧ R.sim F0 ∧ R.Subs V (fun c => c < V.heap.size)) → Calls Try.prog 11 #[.slice d0 n0 e0, .slice p0 n0 q0] V fun e w' => e = .returned (.bool true) ∧ Hid (Below V.heap.size V w')) := fun V d0 e0 p0 q0 Q R h h2 => eqR_rec eq_R_Int64SS hF0 HFi0.out V d0 e0 p0 q0 Q R h h2
  have HMo : Hid (∀ V (d0 : Option Addr) (e0 : Nat) (G0 : Fo) (lo0 : Nat), Hid (G0.vals = [.slice d0 n0 e0] ∧ G0.sim F0 ∧ Own lo0 V G0) → Calls Try.prog 9 #[.slice d0 n0 e0] V fun e w' => ∃ (pr_0 : Option Addr) (qr_0 : Nat) (R : Fo), e = .returned (.slice pr_0 ym0 qr_0) ∧ Hid (R.vals = [.slice pr_0 ym0 qr_0] ∧ R.sim AN ∧ R.Subs w' (fun c => c < w'.heap.size)) ∧ Hid (Below V.heap.size V w')) := fun V d0 e0 G0 lo0 h0 => by
    obtain ⟨v0, s0', o0⟩ := h0.out
    obtain ⟨K0', rfl, -⟩ := rec_of (by have h := s0'; rw [hF0] at h; exact h) v0
    have h := m_G d0 n0 e0 K0' V (s0'.fit HFi0.out) (by rw [s0'.wt]; exact hwt0)  (o0.subs.mono (fun _ x => x.2))
    refine h.mono ?_
    rintro e w' ⟨pz, qz, R, rfl, r6, r1, r3, r2⟩
    have r5 : R.sim AN := by rw [hAN]; exact r1.trans (gU_sim HFi0.out s0')
    obtain ⟨pr_0, qr_0, r4⟩ := hR R r5
    exact ⟨pr_0, qr_0, R, congrArg Ending.returned (List.cons.inj (r6.symm.trans r4)).1, ⟨r4, r5, r3⟩, r2⟩
  have HPr : Hid (∀ V (d0 : Option Addr) (e0 : Nat) (G0 : Fo) (lo0 : Nat), Hid (G0.vals = [.slice d0 n0 e0] ∧ G0.sim F0 ∧ Own lo0 V G0) → Calls Try.prog 6 #[.slice d0 n0 e0] V fun e w' => ∃ (pr_0 : Option Addr) (qr_0 : Nat) (R : Fo), e = .returned (.slice pr_0 ym0 qr_0) ∧ Hid (R.vals = [.slice pr_0 ym0 qr_0] ∧ R.sim AN ∧ Own V.heap.size w' R) ∧ Hid (Below V.heap.size V w')) := fun V d0 e0 G0 lo0 h0 => by
    obtain ⟨v0, s0', o0⟩ := h0.out
    obtain ⟨K0', rfl, -⟩ := rec_of (by have h := s0'; rw [hF0] at h; exact h) v0
    have h := i_G d0 n0 e0 K0' V (s0'.fit HFi0.out) (by rw [s0'.wt]; exact hwt0)  (o0.subs.mono (fun _ x => x.2))
    refine h.mono ?_
    rintro e w' ⟨pz, qz, R, rfl, r6, r1, r3, r2⟩
    have r5 : R.sim AN := by rw [hAN]; exact r1.trans (gU_sim HFi0.out s0')
    obtain ⟨pr_0, qr_0, r4⟩ := hR R r5
    exact ⟨pr_0, qr_0, R, congrArg Ending.returned (List.cons.inj (r6.symm.trans r4)).1, ⟨r4, r5, r3⟩, r2⟩
  have HEr : Hid (∀ V (dr_0 : Option Addr) (er_0 : Nat) (pr_0 : Option Addr) (qr_0 : Nat) (Q R : Fo), Hid (Q.vals = [.slice dr_0 ym0 er_0] ∧ Q.sim AN ∧ Q.Subs V (fun c => c < V.heap.size)) → Hid (R.vals = [.slice pr_0 ym0 qr_0] ∧ R.sim AN ∧ R.Subs V (fun c => c < V.heap.size)) → Calls Try.prog 11 #[.slice dr_0 ym0 er_0, .slice pr_0 ym0 qr_0] V fun e w' => e = .returned (.bool true) ∧ Hid (Below V.heap.size V w')) := fun V dr_0 er_0 pr_0 qr_0 Q R h h2 => eqR_rec eq_R_Int64SS hAS hAF V _ _ _ _ Q R h h2
  have hb0 := (Fit.bounds (M := 1) hEM F0 _ HFi0.out).2.1
  obtain ⟨KA0, hKA0⟩ : ∃ KA : Nat, 1 + F0.sct = KA := ⟨_, rfl⟩
  have hka0 : ¬ (KA0 : Int) < 0 := by omega
  have HMa0 : Hid (∀ V (d0 : Option Addr) (e0 : Nat) (G : Fo) (lo : Nat), G.vals = [.slice d0 n0 e0] → G.sim F0 → Own lo V G → Calls Try.prog 12 #[.slice d0 n0 e0, .int .i64 (1 : Int)] V fun e w' => e = .returned (.int .i64 (KA0 : Int)) ∧ Hid (Kept (fun c => c ∉ G.inn) V w')) := fun V d0 e0 G lo g4 g1 g3 => by
    have h1 := mkR_rec mk_R_Int64SS hF0 HFi0.out V d0 e0 G lo 1 (by omega) (by omega) g4 g1 g3
    rw [hKA0] at h1
    exact h1.mono (fun e w' h => ⟨h.1, h.2.2⟩)
  obtain ⟨KR, hKR⟩ : ∃ KR : Nat, 1 + AN.sct = KR := ⟨_, rfl⟩
  have hkr : ¬ (KR : Int) < 0 := by omega
  have HMr : Hid (∀ V (dr_0 : Option Addr) (er_0 : Nat) (G : Fo) (lo : Nat), Hid (G.vals = [.slice dr_0 ym0 er_0] ∧ G.sim AN ∧ Own lo V G) → Calls Try.prog 12 #[.slice dr_0 ym0 er_0, .int .i64 1] V fun e w' => e = .returned (.int .i64 (KR : Int)) ∧ Hid ((G.mks 1).Subs w' (fun c => c < w'.heap.size)) ∧ Hid (Kept (fun c => c ∉ G.inn) V w')) := fun V dr_0 er_0 G lo h => by
    obtain ⟨g4, g1, g3⟩ := h.out
    have h1 := mkR_rec mk_R_Int64SS hAS hAF V _ _ G lo 1 (by omega) (by omega) g4 g1 g3
    rw [hKR] at h1
    exact h1
  have HHr : Hid (∀ V (dr_0 : Option Addr) (er_0 : Nat) (G : Fo), G.vals = [.slice dr_0 ym0 er_0] → G.sim AN → (G.mks 1).Subs V (fun c => c < V.heap.size) → Calls Try.prog 13 #[.slice dr_0 ym0 er_0, .int .i64 1] V fun e w' => e = .returned (.int .i64 (KR : Int)) ∧ Hid (Below V.heap.size V w')) := fun V dr_0 er_0 G g4 g1 g3 => by
    have h1 := hdR_rec hd_R_Int64SS hAS hAF V _ _ G 1 (by omega) (by omega) g4 g1 g3
    rw [hKR] at h1
    exact h1
  have hx0 := HMx0.out
  clear hR hAF hAS hAN hbA hKR hv0 hf0 hs0 hwt0 hb0 hKA0  hF0  
  go_enter Try.func4, Try.ntmps4
  go_wp2_with fail
  refine (HS0.out W 1048576 (HL0.out.fo F0 mem_0) (by omega) (by omega)).mono ?_
  rintro e w3 ⟨rfl, b1⟩
  rw [he_0]
  have HL4 : Hid (Law W [] [F0] [] w3) := HL0.out.below b1
  clear b1 HL0 HS0 he_0
  go_wp2_with fail
  refine (HTo0.out w3 (HL4.out.fo F0 mem_0)).mono ?_
  rintro e w5 ⟨md0, me0, Gm0, rfl, g1, b2⟩
  have HL6 : Hid (Law W [] [Gm0, F0] [(w3.heap.size, Gm0)] w5) := (HL4.out.below b2.out).adds g1.out.2.2
  have HVGm0 : Hid (Gm0.vals = [.slice md0 n0 me0] ∧ Gm0.sim F0) := ⟨g1.out.1, g1.out.2.1⟩
  clear g1 b2 HL4
  have HC := hide (HMo.out w5 md0 me0 Gm0 _ ⟨HVGm0.out.1, HVGm0.out.2, HL6.out.ow (_, Gm0) mem_0⟩)
  go_wp2_with fail
  refine HC.out.mono ?_
  rintro e w7 ⟨par_0, qar_0, R0, rfl, r0, b3⟩
  have HL9 : Hid (Law W [] [R0, F0] [] w7) := by unfold Hid; exact ((HL6.out.below b3.out).drop (fun _ x => x) (all1 mem_1) (fun p hp => absurd hp List.not_mem_nil)).add r0.out.2.2
  have HR0 : Hid (R0.vals = [.slice par_0 ym0 qar_0] ∧ R0.sim AN ∧ ∀ c ∈ R0.inn, c < w7.heap.size) := ⟨r0.out.1, r0.out.2.1, r0.out.2.2.inn_of⟩
  have HZ0 : Hid (W.heap.size ≤ w7.heap.size) := (HL6.out.below b3.out).be.size
  clear HC HL6 r0 b3 HVGm0
  go_upto_region 6 with fail
  go_wp2_with fail
  refine (HTo0.out w7 (HL9.out.fo F0 mem_1)).mono ?_
  rintro e w10 ⟨xd0, xe0, X0, rfl, g1, b2⟩
  have HX0 : Hid (X0.vals = [.slice xd0 n0 xe0] ∧ X0.sim F0 ∧ ∀ c ∈ X0.inn, w7.heap.size ≤ c ∧ c < w10.heap.size) := ⟨g1.out.1, g1.out.2.1, g1.out.2.2.subs.inn_of⟩
  have HL11 : Hid (Law W [] [X0, R0, F0] [(w7.heap.size, X0)] w10) := (HL9.out.below b2.out).adds g1.out.2.2
  have HZ1 : Hid (w7.heap.size ≤ w10.heap.size) := b2.out.size
  clear g1 b2 HL9
  have HC := hide (HPr.out w10 xd0 xe0 X0 _ ⟨HX0.out.1, HX0.out.2.1, HL11.out.ow (_, X0) mem_0⟩)
  go_wp2_with fail
  refine HC.out.mono ?_
  rintro e w12 ⟨pbr_0, qbr_0, R1, rfl, r1, b5⟩
  have HL14 : Hid (Law W [] [R1, X0, R0, F0] [(w10.heap.size, R1), (w7.heap.size, X0)] w12) := by unfold Hid; exact (HL11.out.below b5.out).adds r1.out.2.2
  have HR1 : Hid (R1.vals = [.slice pbr_0 ym0 qbr_0] ∧ R1.sim AN ∧ ∀ c ∈ R1.inn, w10.heap.size ≤ c ∧ c < w12.heap.size) := ⟨r1.out.1, r1.out.2.1, r1.out.2.2.subs.inn_of⟩
  have HZ9 : Hid (w10.heap.size ≤ w12.heap.size) := b5.out.size
  clear HC HL11 r1 b5
  go_upto_region 8 with fail
  have HC := hide (HEr.out w12 pbr_0 qbr_0 par_0 qar_0 R1 R0 ⟨HR1.out.1, HR1.out.2.1, HL14.out.fo R1 mem_0⟩ ⟨HR0.out.1, HR0.out.2.1, HL14.out.fo R0 mem_2⟩)
  go_wp2_with fail
  refine HC.out.mono ?_
  rintro e w15 ⟨rfl, b6⟩
  have HL16 : Hid (Law W [] [R1, X0, R0, F0] [(w10.heap.size, R1), (w7.heap.size, X0)] w15) := HL14.out.below b6.out
  clear HC HL14 b6
  go_wp2_with fail
  refine (HTo0.out w15 (HL16.out.fo F0 mem_3)).mono ?_
  rintro e w17 ⟨yd0, ye0, Gy, rfl, g1, b2⟩
  have HL18 : Hid (Law W [] [Gy, R1, X0, R0, F0] [(w10.heap.size, R1), (w7.heap.size, X0)] w17) := (HL16.out.below b2.out).add (g1.out.2.2.subs.mono (fun _ x => x.2))
  have HC := hide (HEa0.out w17 xd0 xe0 yd0 ye0 X0 Gy ⟨HX0.out.1, HX0.out.2.1, HL18.out.fo X0 mem_2⟩ ⟨g1.out.1, g1.out.2.1, HL18.out.fo Gy mem_0⟩)
  go_wp2_with fail
  refine HC.out.mono ?_
  rintro e w19 ⟨rfl, b4⟩
  have HL20 : Hid (Law W [] [R1, X0, R0, F0] [(w10.heap.size, R1), (w7.heap.size, X0)] w19) := (HL18.out.below b4.out).drop (fun _ x => x) (by intro G hG; exact List.mem_cons_of_mem _ hG) (fun _ x => x)
  clear HC HL16 HL18 g1 b2 b4
  have HC := hide (HMa0.out w19 xd0 xe0 X0 _ HX0.out.1 HX0.out.2.1 (HL20.out.ow (_, X0) mem_1))
  go_wp2_with fail
  refine HC.out.mono ?_
  rintro e w21 ⟨rfl, k10⟩
  have HL22 : Hid (Law W [] [R1, R0, F0] [(w10.heap.size, R1)] w21) := by 
    have h0 := HR0.out.2.2
    have h1 := HR1.out.2.2
    have hF0 := HFin0.out
    have hX0 := HX0.out.2.2
    have zz0 := HZ0.out
    have zz1 := HZ1.out
    have zz2 := HZ9.out
    refine (HL20.out.drop (fun _ x => x) (allc mem_0 (allc mem_2 (all1 mem_3))) (all1 mem_0)).kept k10.out (fun c hc hx => by have := hX0 _ hx; omega) (fun p hp => absurd hp List.not_mem_nil) (allc (fun c hc hx => by have := hX0 _ hx; have := h1 _ hc; omega) (allc (fun c hc hx => by have := hX0 _ hx; have := h0 _ hc; omega) (all1 (fun c hc hx => by have := hX0 _ hx; have := hF0 _ hc; omega)))) (all1 (fun c hc _ hx => by have := hX0 _ hx; omega))
  clear HC HL20 k10
  go_upto_region 14 with fail
  have HC := hide (HEr.out w21 pbr_0 qbr_0 par_0 qar_0 R1 R0 ⟨HR1.out.1, HR1.out.2.1, HL22.out.fo R1 mem_0⟩ ⟨HR0.out.1, HR0.out.2.1, HL22.out.fo R0 mem_1⟩)
  go_wp2_with fail
  refine HC.out.mono ?_
  rintro e w23 ⟨rfl, b6⟩
  have HL24 : Hid (Law W [] [R1, R0, F0] [(w10.heap.size, R1)] w23) := HL22.out.below b6.out
  clear HC HL22 b6
  have HC := hide (HMr.out w23 pbr_0 qbr_0 R1 _ ⟨HR1.out.1, HR1.out.2.1, HL24.out.ow (_, R1) mem_0⟩)
  go_wp2_with fail
  refine HC.out.mono ?_
  rintro e w25 ⟨rfl, m12, k12⟩
  have HL26 : Hid (Law W [] [R1.mks 1, R0, F0] [] w25) := by 
    have h0 := HR0.out.2.2
    have h1 := HR1.out.2.2
    have hF0 := HFin0.out
    have zz0 := HZ0.out
    have zz1 := HZ1.out
    have zz2 := HZ9.out
    refine Law.add ((HL24.out.drop (fun _ x => x) (allc mem_1 (all1 mem_2)) (fun p hp => absurd hp List.not_mem_nil)).kept k12.out (fun c hc hx => by have := h1 c hx; omega) (fun p hp => absurd hp List.not_mem_nil) (allc (fun c hc hx => by have := h1 _ hx; have := h0 _ hc; omega) (all1 (fun c hc hx => by have := h1 _ hx; have := hF0 _ hc; omega))) (fun p hp => absurd hp List.not_mem_nil)) m12.out
  clear HC HL24 m12 k12
  have HC := hide (HHr.out w25 pbr_0 qbr_0 R1 HR1.out.1 HR1.out.2.1 (HL26.out.fo _ mem_0))
  go_wp2_with fail
  refine HC.out.mono ?_
  rintro e w27 ⟨rfl, b13⟩
  have HL28 : Hid (Law W [] [R1.mks 1, R0, F0] [] w27) := HL26.out.below b13.out
  clear HC HL26 b13
  go_wp2_with fail
  refine (HTo0.out w27 (HL28.out.fo F0 mem_2)).mono ?_
  rintro e w29 ⟨hd0, he0, Gh0, rfl, g1, b2⟩
  have HL30 : Hid (Law W [] [Gh0, R1.mks 1, R0, F0] [(w27.heap.size, Gh0)] w29) := (HL28.out.below b2.out).adds g1.out.2.2
  have HVGh0 : Hid (Gh0.vals = [.slice hd0 n0 he0] ∧ Gh0.sim F0) := ⟨g1.out.1, g1.out.2.1⟩
  clear g1 b2 HL28
  have HC := hide (HPr.out w29 hd0 he0 Gh0 _ ⟨HVGh0.out.1, HVGh0.out.2, HL30.out.ow (_, Gh0) mem_0⟩)
  go_wp2_with fail
  refine HC.out.mono ?_
  rintro e w31 ⟨pdr_0, qdr_0, R2, rfl, r2, b15⟩
  have HL33 : Hid (Law W [] [R2, R1.mks 1, R0, F0] [] w31) := by unfold Hid; exact ((HL30.out.below b15.out).drop (fun _ x => x) (allc mem_1 (allc mem_2 (all1 mem_3))) (fun p hp => absurd hp List.not_mem_nil)).add (r2.out.2.2.subs.mono (fun _ x => x.2))
  have HR2 : Hid (R2.vals = [.slice pdr_0 ym0 qdr_0] ∧ R2.sim AN) := ⟨r2.out.1, r2.out.2.1⟩
  clear HC HL30 r2 b15 HVGh0
  go_upto_region 25 with fail
  have HC := hide (HEr.out w31 pdr_0 qdr_0 par_0 qar_0 R2 R0 ⟨HR2.out.1, HR2.out.2, HL33.out.fo R2 mem_0⟩ ⟨HR0.out.1, HR0.out.2.1, HL33.out.fo R0 mem_2⟩)
  go_wp2_with fail
  refine HC.out.mono ?_
  rintro e w34 ⟨rfl, b6⟩
  have HL35 : Hid (Law W [] [R2, R1.mks 1, R0, F0] [] w34) := HL33.out.below b6.out
  clear HC HL33 b6
  have HC := hide (HHr.out w34 pbr_0 qbr_0 R1 HR1.out.1 HR1.out.2.1 (HL35.out.fo _ mem_1))
  go_wp2_with fail
  refine HC.out.mono ?_
  rintro e w36 ⟨rfl, b13⟩
  have HL37 : Hid (Law W [] [R2, R1.mks 1, R0, F0] [] w36) := HL35.out.below b13.out
  clear HC HL35 b13
  go_wp2_with fail
  go_ret
  exact ⟨rfl, HL37.out.be⟩

end Go.Proofs.Ytmnligaelihmiaa

namespace Go.Proofs.Ytmnligaelihmiaa
open Go.ChangeShapes Go.WideShapes Go.ChangeAt Go.RowKit Go.Joins

set_option maxRecDepth 100000 in
theorem liftedFnExactGroups (os : Os) (started : os.Started) (H : Type) (enc : TypeId × Value → H) :
    ReturnsInHanded {} Try.checked os 4 .any (Rows.fnExactGroupsSpec.pre6 enc Try.prog Try.f4 Rows.fnExactGroupsRow.domain false) (Rows.fnExactGroupsSpec.post enc Try.prog Try.f4 false true false false) := by
  refine returnsInHanded_of_change (C := Try.checked) Try.own started (by kernel_rfl) Try.func4
    (ChangeSpec.witness6 (enc := enc) (C := Try.checked) false ⟨#[], #[.slice none 0 0], []⟩ 8 (by kernel_rfl) (by kernel_rfl) (by kernel_rfl) (by kernel_rfl)) ?_
  intro W base args ds gs before hval0 hW _ _
  have hval : ∀ (j : Nat) t v, Try.f4.params[j]? = some t → args[j]? = some v → Value.okWide Try.prog W .any base t v := hval0
  have hW' := hW
  obtain ⟨p, q, hA0, hV, rfl, _, _⟩ := hW
  have hA : DataW.TrodAll enc Try.prog W 0 (fun _ => true) true Try.f4.params.toList args.toList ds p := hA0
  rw [Try.params4] at hA hval
  obtain ⟨v0, d0, rfl, rfl, h0⟩ := trodAll_one hA
  obtain ⟨rfl, rfl⟩ := trodVars_none hV
  have k0 := h0
  have lt0 : ∀ x ∈ p, x.block < W.heap.size := by obtain ⟨m, hm⟩ := k0; exact DataW.trod_lt m _ _ _ hm
  obtain ⟨a0, n0, c0, K0, rfl, hf0, hs0⟩ := open_slice (E := E) (k := 1) Try.underlying23 Try.cells27 (by decide) (fun m cs x h => all_say m cs x h) (hval 0 23 v0 rfl rfl) h0
  clear hA0 hval0
  refine (lawGr a0 n0 c0 K0 W hf0 hs0).mono fun e W' ⟨he, bel⟩ => ?_
  subst he
  exact ⟨_, rfl, _, _, _, [], _, [], hW', trodAll_mk1 (shut_bool Try.underlying4 _), trodAll_mk1 (Below.trod Try.laidOut (by kernel_rfl) (of_decide_eq_true (by kernel_rfl)) k0 bel lt0), rfl, bel.frame _, fun h => by cases h⟩

theorem fnExactGroups_holds : Rows.FnExactGroupsSaid :=
  OpenClaim.holds_of_wide 4 Try.f4 rfl rfl rfl rfl rfl rfl rfl ⟨rfl, rfl, rfl, rfl, rfl⟩ rfl rfl rfl rfl rfl (by kernel_rfl) Try.func4 (by kernel_rfl)
    (of_decide_eq_true (by kernel_rfl)) (by unfold Func.isWrapper; rw [if_neg (of_decide_eq_false (by kernel_rfl))]; exact ⟨rfl, rfl⟩)
    (fun os started H enc _ => liftedFnExactGroups os started H enc)

#print axioms fnExactGroups_holds
end Go.Proofs.Ytmnligaelihmiaa
