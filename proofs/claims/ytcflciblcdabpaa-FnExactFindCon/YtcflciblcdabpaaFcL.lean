import Derived.Test.YtcflciblcdabpaaFt
import Derived.Test.YtcflciblcdabpaaKb
import Derived.Test.YtcflciblcdabpaaKToTables
import Derived.Test.YtcflciblcdabpaaKEqTables
import Derived.Test.YtcflciblcdabpaaKMkTables
import Derived.Test.YtcflciblcdabpaaKEqConInfo
import Derived.Test.YtcflciblcdabpaaKMkConInfo
import Derived.Test.YtcflciblcdabpaaKHdConInfo
import Derived.Deep.RegionHeld3
import Derived.Deep.DeepCutAuto
namespace Go.Proofs.Ytcflciblcdabpaa
open Go.RowKit Go.Joins

set_option maxHeartbeats 8000000 in
set_option maxRecDepth 100000 in
theorem lawCon (F : Fo) (c : ByteArray) (W : World) (hf : Fit E F tabs) (hs : F.Subs W (fun b => b < W.heap.size)) :
    Calls Try.prog 3 #[.agg F.vals.toArray, .string c] W fun e W' => e = .returned (.bool true) ∧ Below W.heap.size W W' := by
  have HFi := hide hf
  have HFin : Hid (∀ c ∈ F.inn, c < W.heap.size) := hs.inn_of
  obtain ⟨F', hF'⟩ : ∃ F', F' = F := ⟨_, rfl⟩
  have hv : ∃ (a0 a1 a2 a3 a4 : Option Addr) (c0 c1 c2 c3 c4 : Nat) (n0 n1 n2 n3 n4 : Nat), F.vals = [.slice a0 n0 c0, .slice a1 n1 c1, .slice a2 n2 c2, .slice a3 n3 c3, .slice a4 n4 c4] ∧ ∀ G : Fo, G.sim F → ∃ (d0 d1 d2 d3 d4 : Option Addr) (e0 e1 e2 e3 e4 : Nat), G.vals = [.slice d0 n0 e0, .slice d1 n1 e1, .slice d2 n2 e2, .slice d3 n3 e3, .slice d4 n4 e4] := by
    clear HFi HFin hs hF' F'
    replace hf : Fit E F [.s 3, .s 4, .s 7, .s 1, .s 6] := hf
    obtain ⟨a0, n0, c0, k0, F0, rfl, -, hf⟩ := fit_s hf
    obtain ⟨a1, n1, c1, k1, F1, rfl, -, hf⟩ := fit_s hf
    obtain ⟨a2, n2, c2, k2, F2, rfl, -, hf⟩ := fit_s hf
    obtain ⟨a3, n3, c3, k3, F3, rfl, -, hf⟩ := fit_s hf
    obtain ⟨a4, n4, c4, k4, F4, rfl, -, hf⟩ := fit_s hf
    obtain rfl := fit_nil hf
    refine ⟨a0, a1, a2, a3, a4, c0, c1, c2, c3, c4, n0, n1, n2, n3, n4, rfl, fun G s_0 => ?_⟩
    obtain ⟨d0, e0, t0, u0, rfl, -, s_1⟩ := Fo.sim_s s_0
    obtain ⟨d1, e1, t1, u1, rfl, -, s_2⟩ := Fo.sim_s s_1
    obtain ⟨d2, e2, t2, u2, rfl, -, s_3⟩ := Fo.sim_s s_2
    obtain ⟨d3, e3, t3, u3, rfl, -, s_4⟩ := Fo.sim_s s_3
    obtain ⟨d4, e4, t4, u4, rfl, -, s_5⟩ := Fo.sim_s s_4
    obtain rfl := Fo.sim_nil s_5
    exact ⟨d0, d1, d2, d3, d4, e0, e1, e2, e3, e4, rfl⟩
  obtain ⟨a0, a1, a2, a3, a4, c0, c1, c2, c3, c4, n0, n1, n2, n3, n4, hv, hG⟩ := hv
  have hw : ∃ AN : Fo, AN = findCT c F ∧ Fit E AN (E 3) ∧ (F.wt ≤ 1048576 → AN.wt ≤ 1048576) := ⟨_, rfl, findCT_fit hf, findCT_wt hf⟩
  obtain ⟨AN, hAN, hAF, hAW⟩ := hw
  have hr : ∃ (y0 : ByteArray) (y1 : ByteArray) (y2 : Int) (y3 : Int) (ym4 : Nat), ∀ G : Fo, G.sim AN → ∃ (d4 : Option Addr) (e4 : Nat), G.vals = [.string y0, .string y1, .int .i64 y2, .int .i64 y3, .slice d4 ym4 e4] := by
    clear hAN hAW
    replace hAF : Fit E AN [.t, .t, .i, .i, .s 2] := hAF
    obtain ⟨y0, F0, rfl, -, hAF⟩ := fit_t hAF
    obtain ⟨y1, F1, rfl, -, hAF⟩ := fit_t hAF
    obtain ⟨y2, F2, rfl, -, hAF⟩ := fit_i hAF
    obtain ⟨y3, F3, rfl, -, hAF⟩ := fit_i hAF
    obtain ⟨a4, n4, c4, k4, F4, rfl, -, hAF⟩ := fit_s hAF
    obtain rfl := fit_nil hAF
    refine ⟨y0, y1, y2, y3, n4, fun G s_0 => ?_⟩
    obtain ⟨u0, rfl, s_1⟩ := Fo.sim_v s_0
    obtain ⟨u1, rfl, s_2⟩ := Fo.sim_v s_1
    obtain ⟨u2, rfl, s_3⟩ := Fo.sim_v s_2
    obtain ⟨u3, rfl, s_4⟩ := Fo.sim_v s_3
    obtain ⟨d4, e4, t4, u4, rfl, -, s_5⟩ := Fo.sim_s s_4
    obtain rfl := Fo.sim_nil s_5
    exact ⟨d4, e4, rfl⟩
  obtain ⟨y0, y1, y2, y3, ym4, hR⟩ := hr
  have HS0 : Hid (∀ V, F.Subs V (fun c => c < V.heap.size) → Calls Try.prog 4 #[.agg #[.slice a0 n0 c0, .slice a1 n1 c1, .slice a2 n2 c2, .slice a3 n3 c3, .slice a4 n4 c4], .int .i64 1048576] V fun e w' => e = .returned (.int .i64 (szV 1048576 F.wt)) ∧ Below V.heap.size V w') := fun V hV => by
    have := sz_C_Tables F.size F V.heap.size 1048576 V (Nat.le_refl _) HFi.out (Nat.le_refl _) (by omega) (by omega) hV
    rw [hv] at this
    exact this
  obtain ⟨A, hA⟩ : ∃ A, W.alloc (.cells #[.slice a0 n0 c0, .slice a1 n1 c1, .slice a2 n2 c2, .slice a3 n3 c3, .slice a4 n4 c4] 28) = A := ⟨_, rfl⟩
  have HL0 : Hid (Law W [(W.heap.size, [.slice a0 n0 c0, .slice a1 n1 c1, .slice a2 n2 c2, .slice a3 n3 c3, .slice a4 n4 c4])] [F] [] A) := by unfold Hid; rw [← hA]; exact ((Law.start W).add hs).box _ _
  have HA := hide hA
  have HSZ := hide (HS0.out A (HL0.out.fo F (by simp)))
  rw [hv]
  show Calls Try.prog 3 #[.agg #[.slice a0 n0 c0, .slice a1 n1 c1, .slice a2 n2 c2, .slice a3 n3 c3, .slice a4 n4 c4], .string c] W _
  clear hA
  by_cases g0 : (1048576 : Int) < ((c.size : Nat) : Int)
  · have HB := hide HL0.out.be
    clear hv hG hR hAF hAW hAN HSZ HL0 hF' hs HFi HFin HS0 hf
    go_enter Try.func3, Try.ntmps3
    go_wp2_with fail
    rw [HA.out]
    go_ret
    exact ⟨rfl, HB.out⟩
  by_cases g9 : (1048576 : Int) < ((F.wt : Nat) : Int)
  · have HB := hide HL0.out.be
    rw [szV_lt g9] at HSZ
    have cc := HL0.out.cell W.heap.size _ (by first | with_reducible exact List.mem_cons_self | with_reducible exact List.mem_cons_of_mem _ List.mem_cons_self | with_reducible exact List.mem_cons_of_mem _ (List.mem_cons_of_mem _ List.mem_cons_self) | with_reducible exact List.mem_cons_of_mem _ (List.mem_cons_of_mem _ (List.mem_cons_of_mem _ List.mem_cons_self)) | with_reducible exact List.mem_cons_of_mem _ (List.mem_cons_of_mem _ (List.mem_cons_of_mem _ (List.mem_cons_of_mem _ List.mem_cons_self))))
    have z0 := cc 0 _ rfl
    have z1 := cc 1 _ rfl
    have z2 := cc 2 _ rfl
    have z3 := cc 3 _ rfl
    have z4 := cc 4 _ rfl
    clear cc hv hG hR hAF hAW hAN HL0 hF' hs HFi HFin HS0 g9 hf
    go_enter Try.func3, Try.ntmps3
    go_wp2_with fail
    rw [HA.out]
    refine HSZ.out.mono ?_
    rintro e w1 ⟨rfl, b1⟩
    have HB1 := hide (HB.out.trans (b1.mono HB.out.size))
    clear b1
    go_wp2_with fail
    go_ret
    exact ⟨rfl, HB1.out⟩
  have hwt : F.wt ≤ 1048576 := by omega
  have ht0 : c.size ≤ 1048576 := by omega
  have hge : ¬ szV 1048576 F.wt < 0 := by rw [szV_ge g9]; omega
  have hAW' := hAW hwt
  have hbF := Fit.bounds (M := 8) hEM F _ hf
  have hbA := Fit.bounds (M := 8) hEM AN _ hAF
  have HTo : Hid (∀ V, F.Subs V (fun c => c < V.heap.size) → Calls Try.prog 6 #[.agg #[.slice a0 n0 c0, .slice a1 n1 c1, .slice a2 n2 c2, .slice a3 n3 c3, .slice a4 n4 c4]] V fun e w' => ∃ (d0 d1 d2 d3 d4 : Option Addr) (e0 e1 e2 e3 e4 : Nat) (G : Fo), e = .returned (.agg #[.slice d0 n0 e0, .slice d1 n1 e1, .slice d2 n2 e2, .slice d3 n3 e3, .slice d4 n4 e4]) ∧ Hid (G.vals = [.slice d0 n0 e0, .slice d1 n1 e1, .slice d2 n2 e2, .slice d3 n3 e3, .slice d4 n4 e4] ∧ G.sim F ∧ Own V.heap.size w' G) ∧ Hid (Below V.heap.size V w')) := fun V hV => by
    have h1 := to_C_Tables F.size F V.heap.size V (Nat.le_refl _) HFi.out (Nat.le_refl _) hwt hV
    rw [hv] at h1
    refine h1.mono ?_
    rintro e w' ⟨G, rfl, g1, g2, g3⟩
    obtain ⟨d0, d1, d2, d3, d4, e0, e1, e2, e3, e4, g4⟩ := hG G g1
    exact ⟨d0, d1, d2, d3, d4, e0, e1, e2, e3, e4, G, by rw [g4], ⟨g4, g1, g3⟩, g2⟩
  have HMo : Hid (∀ V (d0 d1 d2 d3 d4 : Option Addr) (e0 e1 e2 e3 e4 : Nat) (G : Fo) (lo : Nat), Hid (G.vals = [.slice d0 n0 e0, .slice d1 n1 e1, .slice d2 n2 e2, .slice d3 n3 e3, .slice d4 n4 e4] ∧ G.sim F ∧ Own lo V G) → Calls Try.prog 5 #[.agg #[.slice d0 n0 e0, .slice d1 n1 e1, .slice d2 n2 e2, .slice d3 n3 e3, .slice d4 n4 e4], .string c] V fun e w' => ∃ (p4 : Option Addr) (q4 : Nat) (R : Fo), e = .returned (.agg #[.string y0, .string y1, .int .i64 y2, .int .i64 y3, .slice p4 ym4 q4]) ∧ Hid (R.vals = [.string y0, .string y1, .int .i64 y2, .int .i64 y3, .slice p4 ym4 q4] ∧ R.sim AN ∧ R.Subs w' (fun c => c < w'.heap.size)) ∧ Hid (Below V.heap.size V w')) := fun V d0 d1 d2 d3 d4 e0 e1 e2 e3 e4 G lo h => by
    obtain ⟨g4, g1, g3⟩ := h.out
    have h1 := m_FC G c V.heap.size V (g1.fit HFi.out) (Nat.le_refl _) (by rw [g1.wt]; exact hwt) (g3.subs.mono (fun _ x => x.2))
    rw [g4] at h1
    refine h1.mono ?_
    rintro e w' ⟨R, rfl, r1, r2, r3⟩
    have r5 : R.sim AN := by rw [hAN]; exact r1.trans (findCT_sim HFi.out g1)
    obtain ⟨p4, q4, r4⟩ := hR R r5
    exact ⟨p4, q4, R, by rw [r4], ⟨r4, r5, r3⟩, r2⟩
  have HPr : Hid (∀ V (d0 d1 d2 d3 d4 : Option Addr) (e0 e1 e2 e3 e4 : Nat) (G : Fo) (lo : Nat), Hid (G.vals = [.slice d0 n0 e0, .slice d1 n1 e1, .slice d2 n2 e2, .slice d3 n3 e3, .slice d4 n4 e4] ∧ G.sim F ∧ Own lo V G) → Calls Try.prog 7 #[.agg #[.slice d0 n0 e0, .slice d1 n1 e1, .slice d2 n2 e2, .slice d3 n3 e3, .slice d4 n4 e4], .string c] V fun e w' => ∃ (p4 : Option Addr) (q4 : Nat) (R : Fo), e = .returned (.agg #[.string y0, .string y1, .int .i64 y2, .int .i64 y3, .slice p4 ym4 q4]) ∧ Hid (R.vals = [.string y0, .string y1, .int .i64 y2, .int .i64 y3, .slice p4 ym4 q4] ∧ R.sim AN ∧ Own V.heap.size w' R) ∧ Hid (Below V.heap.size V w')) := fun V d0 d1 d2 d3 d4 e0 e1 e2 e3 e4 G lo h => by
    obtain ⟨g4, g1, g3⟩ := h.out
    have h1 := i_FindCon G c lo V (g1.fit HFi.out) (by rw [g1.wt]; exact hwt) g3
    rw [g4] at h1
    refine h1.mono ?_
    rintro e w' ⟨R, rfl, r1, r2, r3⟩
    have r5 : R.sim AN := by rw [hAN]; exact r1.trans (findCT_sim HFi.out g1)
    obtain ⟨p4, q4, r4⟩ := hR R r5
    exact ⟨p4, q4, R, by rw [r4], ⟨r4, r5, r3⟩, r2⟩
  have HEr : Hid (∀ V (d4 : Option Addr) (e4 : Nat) (p4 : Option Addr) (q4 : Nat) (Q R : Fo), Hid (Q.vals = [.string y0, .string y1, .int .i64 y2, .int .i64 y3, .slice d4 ym4 e4] ∧ Q.sim AN ∧ Q.Subs V (fun c => c < V.heap.size)) → Hid (R.vals = [.string y0, .string y1, .int .i64 y2, .int .i64 y3, .slice p4 ym4 q4] ∧ R.sim AN ∧ R.Subs V (fun c => c < V.heap.size)) → Calls Try.prog 8 #[.agg #[.string y0, .string y1, .int .i64 y2, .int .i64 y3, .slice d4 ym4 e4], .agg #[.string y0, .string y1, .int .i64 y2, .int .i64 y3, .slice p4 ym4 q4]] V fun e w' => e = .returned (.bool true) ∧ Hid (Below V.heap.size V w')) := fun V d4 e4 p4 q4 Q R h h2 => by
    have h1 := eq_C_ConInfo Q.size Q R V.heap.size V (Nat.le_refl _) (h.out.2.1.fit hAF) (Nat.le_refl _) (h2.out.2.1.trans h.out.2.1.symm) h.out.2.2 h2.out.2.2
    rw [h.out.1, h2.out.1] at h1
    exact h1
  have HEa : Hid (∀ V (d0 d1 d2 d3 d4 : Option Addr) (e0 e1 e2 e3 e4 : Nat) (p0 p1 p2 p3 p4 : Option Addr) (q0 q1 q2 q3 q4 : Nat) (Q R : Fo), Hid (Q.vals = [.slice d0 n0 e0, .slice d1 n1 e1, .slice d2 n2 e2, .slice d3 n3 e3, .slice d4 n4 e4] ∧ Q.sim F ∧ Q.Subs V (fun c => c < V.heap.size)) → Hid (R.vals = [.slice p0 n0 q0, .slice p1 n1 q1, .slice p2 n2 q2, .slice p3 n3 q3, .slice p4 n4 q4] ∧ R.sim F ∧ R.Subs V (fun c => c < V.heap.size)) → Calls Try.prog 9 #[.agg #[.slice d0 n0 e0, .slice d1 n1 e1, .slice d2 n2 e2, .slice d3 n3 e3, .slice d4 n4 e4], .agg #[.slice p0 n0 q0, .slice p1 n1 q1, .slice p2 n2 q2, .slice p3 n3 q3, .slice p4 n4 q4]] V fun e w' => e = .returned (.bool true) ∧ Hid (Below V.heap.size V w')) := fun V d0 d1 d2 d3 d4 e0 e1 e2 e3 e4 p0 p1 p2 p3 p4 q0 q1 q2 q3 q4 Q R h h2 => by
    have h1 := eq_C_Tables Q.size Q R V.heap.size V (Nat.le_refl _) (h.out.2.1.fit HFi.out) (Nat.le_refl _) (h2.out.2.1.trans h.out.2.1.symm) h.out.2.2 h2.out.2.2
    rw [h.out.1, h2.out.1] at h1
    exact h1
  obtain ⟨KA, hKA⟩ : ∃ KA : Nat, 1 + F.sct = KA := ⟨_, rfl⟩
  obtain ⟨KR, hKR⟩ : ∃ KR : Nat, 1 + AN.sct = KR := ⟨_, rfl⟩
  have hka : ¬ (KA : Int) < 0 := by omega
  have hkr : ¬ (KR : Int) < 0 := by omega
  have HMa : Hid (∀ V (d0 d1 d2 d3 d4 : Option Addr) (e0 e1 e2 e3 e4 : Nat) (G : Fo) (lo : Nat), G.vals = [.slice d0 n0 e0, .slice d1 n1 e1, .slice d2 n2 e2, .slice d3 n3 e3, .slice d4 n4 e4] → G.sim F → Own lo V G → Calls Try.prog 10 #[.agg #[.slice d0 n0 e0, .slice d1 n1 e1, .slice d2 n2 e2, .slice d3 n3 e3, .slice d4 n4 e4], .int .i64 1] V fun e w' => e = .returned (.int .i64 (KA : Int)) ∧ Hid (Kept (fun c => c ∉ G.inn) V w')) := fun V d0 d1 d2 d3 d4 e0 e1 e2 e3 e4 G lo g4 g1 g3 => by
    have h1 := mk_C_Tables (G.size + 1) G 1 V (Nat.lt_succ_self _) (g1.fit HFi.out) (by omega) (by rw [g1.sct]; omega) (g3.subs.mono (fun _ x => x.2)) g3.nodup g3.live
    rw [g4, g1.sct, hKA] at h1
    exact h1.mono (fun e w' h => ⟨h.1, h.2.2.1⟩)
  have HMr : Hid (∀ V (d4 : Option Addr) (e4 : Nat) (G : Fo) (lo : Nat), Hid (G.vals = [.string y0, .string y1, .int .i64 y2, .int .i64 y3, .slice d4 ym4 e4] ∧ G.sim AN ∧ Own lo V G) → Calls Try.prog 11 #[.agg #[.string y0, .string y1, .int .i64 y2, .int .i64 y3, .slice d4 ym4 e4], .int .i64 1] V fun e w' => e = .returned (.int .i64 (KR : Int)) ∧ Hid ((G.mks 1).Subs w' (fun c => c < w'.heap.size)) ∧ Hid (Kept (fun c => c ∉ G.inn) V w')) := fun V d4 e4 G lo h => by
    obtain ⟨g4, g1, g3⟩ := h.out
    have h1 := mk_C_ConInfo (G.size + 1) G 1 V (Nat.lt_succ_self _) (g1.fit hAF) (by omega) (by rw [g1.sct]; omega) (g3.subs.mono (fun _ x => x.2)) g3.nodup g3.live
    rw [g4, g1.sct, hKR] at h1
    exact h1.mono (fun e w' h => ⟨h.1, h.2.1.mono (fun c hc => Nat.lt_of_lt_of_le hc h.2.2.1.size), h.2.2.1⟩)
  have HHr : Hid (∀ V (d4 : Option Addr) (e4 : Nat) (G : Fo), G.vals = [.string y0, .string y1, .int .i64 y2, .int .i64 y3, .slice d4 ym4 e4] → G.sim AN → (G.mks 1).Subs V (fun c => c < V.heap.size) → Calls Try.prog 12 #[.agg #[.string y0, .string y1, .int .i64 y2, .int .i64 y3, .slice d4 ym4 e4], .int .i64 1] V fun e w' => e = .returned (.int .i64 (KR : Int)) ∧ Hid (Below V.heap.size V w')) := fun V d4 e4 G g4 g1 g3 => by
    have h1 := hd_C_ConInfo (G.size + 1) G V.heap.size 1 V (Nat.lt_succ_self _) (g1.fit hAF) (Nat.le_refl _) (by omega) (by rw [g1.sct]; omega) g3
    rw [g4, g1.sct, hKR] at h1
    exact h1
  generalize szV 1048576 F.wt = SZ at HSZ hge HS0
  have cc := HL0.out.cell W.heap.size _ (by first | with_reducible exact List.mem_cons_self | with_reducible exact List.mem_cons_of_mem _ List.mem_cons_self | with_reducible exact List.mem_cons_of_mem _ (List.mem_cons_of_mem _ List.mem_cons_self) | with_reducible exact List.mem_cons_of_mem _ (List.mem_cons_of_mem _ (List.mem_cons_of_mem _ List.mem_cons_self)) | with_reducible exact List.mem_cons_of_mem _ (List.mem_cons_of_mem _ (List.mem_cons_of_mem _ (List.mem_cons_of_mem _ List.mem_cons_self))))
  have z0 := cc 0 _ rfl
  have z1 := cc 1 _ rfl
  have z2 := cc 2 _ rfl
  have z3 := cc 3 _ rfl
  have z4 := cc 4 _ rfl
  clear cc hv hG hR hAF hAW hAW' hAN hF' hs HFi HS0 hf hbF hbA hwt ht0 g9 hKA hKR
  go_enter Try.func3, Try.ntmps3
  go_wp2_with fail
  rw [HA.out]
  clear HA
  refine HSZ.out.mono ?_
  rintro e w1 ⟨rfl, b1⟩
  have HL1 := hide (HL0.out.below b1)
  clear b1 HSZ HL0 z0 z1 z2 z3 z4
  have cc := HL1.out.cell W.heap.size _ (by first | with_reducible exact List.mem_cons_self | with_reducible exact List.mem_cons_of_mem _ List.mem_cons_self | with_reducible exact List.mem_cons_of_mem _ (List.mem_cons_of_mem _ List.mem_cons_self) | with_reducible exact List.mem_cons_of_mem _ (List.mem_cons_of_mem _ (List.mem_cons_of_mem _ List.mem_cons_self)) | with_reducible exact List.mem_cons_of_mem _ (List.mem_cons_of_mem _ (List.mem_cons_of_mem _ (List.mem_cons_of_mem _ List.mem_cons_self))))
  have z0 := cc 0 _ rfl
  have z1 := cc 1 _ rfl
  have z2 := cc 2 _ rfl
  have z3 := cc 3 _ rfl
  have z4 := cc 4 _ rfl
  clear cc
  go_wp2_with fail
  refine (HTo.out w1 (HL1.out.fo F (by simp))).mono ?_
  rintro e w2 ⟨da0, da1, da2, da3, da4, ea0, ea1, ea2, ea3, ea4, G1, rfl, g1, b2⟩
  have HL2 := hide (HL1.out.below b2.out)
  have HM1 := hide (HMo.out w2 da0 da1 da2 da3 da4 ea0 ea1 ea2 ea3 ea4 G1 _ g1)
  clear HL1 b2 g1 HMo z0 z1 z2 z3 z4
  go_wp2_with fail
  refine HM1.out.mono ?_
  rintro e w3 ⟨pa4, qa4, R0, rfl, r0, b3⟩
  obtain ⟨V3, hV3⟩ : ∃ V3, w3.alloc (.cells #[.string y0, .string y1, .int .i64 y2, .int .i64 y3, .slice pa4 ym4 qa4] 32) = V3 := ⟨_, rfl⟩
  have HL3 : Hid (Law W [(w3.heap.size, [.string y0, .string y1, .int .i64 y2, .int .i64 y3, .slice pa4 ym4 qa4]), (W.heap.size, [.slice a0 n0 c0, .slice a1 n1 c1, .slice a2 n2 c2, .slice a3 n3 c3, .slice a4 n4 c4])] [R0, F] [] V3) := by unfold Hid; rw [← hV3]; exact ((HL2.out.below b3.out).add r0.out.2.2).box _ _
  have HR0 : Hid (R0.vals = [.string y0, .string y1, .int .i64 y2, .int .i64 y3, .slice pa4 ym4 qa4] ∧ R0.sim AN ∧ ∀ c ∈ R0.inn, c < w3.heap.size) := ⟨r0.out.1, r0.out.2.1, r0.out.2.2.inn_of⟩
  have HZ3 : Hid (V3.heap.size = w3.heap.size + 1 ∧ W.heap.size < w3.heap.size) := ⟨by rw [← hV3]; simp, (HL2.out.below b3.out).lt W.heap.size _ (by first | with_reducible exact List.mem_cons_self | with_reducible exact List.mem_cons_of_mem _ List.mem_cons_self | with_reducible exact List.mem_cons_of_mem _ (List.mem_cons_of_mem _ List.mem_cons_self) | with_reducible exact List.mem_cons_of_mem _ (List.mem_cons_of_mem _ (List.mem_cons_of_mem _ List.mem_cons_self)) | with_reducible exact List.mem_cons_of_mem _ (List.mem_cons_of_mem _ (List.mem_cons_of_mem _ (List.mem_cons_of_mem _ List.mem_cons_self))))⟩
  have HV3 := hide hV3
  clear HM1 HL2 r0 b3 hV3
  go_upto_region 8 with fail
  rw [HV3.out]
  clear HV3
  have cc := HL3.out.cell W.heap.size _ (by first | with_reducible exact List.mem_cons_self | with_reducible exact List.mem_cons_of_mem _ List.mem_cons_self | with_reducible exact List.mem_cons_of_mem _ (List.mem_cons_of_mem _ List.mem_cons_self) | with_reducible exact List.mem_cons_of_mem _ (List.mem_cons_of_mem _ (List.mem_cons_of_mem _ List.mem_cons_self)) | with_reducible exact List.mem_cons_of_mem _ (List.mem_cons_of_mem _ (List.mem_cons_of_mem _ (List.mem_cons_of_mem _ List.mem_cons_self))))
  have z0 := cc 0 _ rfl
  have z1 := cc 1 _ rfl
  have z2 := cc 2 _ rfl
  have z3 := cc 3 _ rfl
  have z4 := cc 4 _ rfl
  clear cc
  go_wp2_with fail
  refine (HTo.out V3 (HL3.out.fo F (by simp))).mono ?_
  rintro e w4 ⟨db0, db1, db2, db3, db4, eb0, eb1, eb2, eb3, eb4, G2, rfl, g2, b4⟩
  obtain ⟨V4, hV4⟩ : ∃ V4, w4.alloc (.cells #[.slice db0 n0 eb0, .slice db1 n1 eb1, .slice db2 n2 eb2, .slice db3 n3 eb3, .slice db4 n4 eb4] 40) = V4 := ⟨_, rfl⟩
  have HL4 : Hid (Law W [(w4.heap.size, [.slice db0 n0 eb0, .slice db1 n1 eb1, .slice db2 n2 eb2, .slice db3 n3 eb3, .slice db4 n4 eb4]), (w3.heap.size, [.string y0, .string y1, .int .i64 y2, .int .i64 y3, .slice pa4 ym4 qa4]), (W.heap.size, [.slice a0 n0 c0, .slice a1 n1 c1, .slice a2 n2 c2, .slice a3 n3 c3, .slice a4 n4 c4])] [G2, R0, F] [(V3.heap.size, G2)] V4) := by unfold Hid; rw [← hV4]; exact ((HL3.out.below b4.out).adds g2.out.2.2).box _ _
  have HG2 : Hid (G2.vals = [.slice db0 n0 eb0, .slice db1 n1 eb1, .slice db2 n2 eb2, .slice db3 n3 eb3, .slice db4 n4 eb4] ∧ G2.sim F ∧ ∀ c ∈ G2.inn, V3.heap.size ≤ c ∧ c < w4.heap.size) := ⟨g2.out.1, g2.out.2.1, g2.out.2.2.subs.inn_of⟩
  have HZ4 : Hid (V4.heap.size = w4.heap.size + 1 ∧ V3.heap.size ≤ w4.heap.size) := ⟨by rw [← hV4]; simp, b4.out.size⟩
  have HV4 := hide hV4
  clear HL3 g2 b4 hV4 z0 z1 z2 z3 z4
  go_upto_region 9 with fail
  rw [HV4.out]
  clear HV4
  have cc := HL4.out.cell w4.heap.size _ (by first | with_reducible exact List.mem_cons_self | with_reducible exact List.mem_cons_of_mem _ List.mem_cons_self | with_reducible exact List.mem_cons_of_mem _ (List.mem_cons_of_mem _ List.mem_cons_self) | with_reducible exact List.mem_cons_of_mem _ (List.mem_cons_of_mem _ (List.mem_cons_of_mem _ List.mem_cons_self)) | with_reducible exact List.mem_cons_of_mem _ (List.mem_cons_of_mem _ (List.mem_cons_of_mem _ (List.mem_cons_of_mem _ List.mem_cons_self))))
  have z0 := cc 0 _ rfl
  have z1 := cc 1 _ rfl
  have z2 := cc 2 _ rfl
  have z3 := cc 3 _ rfl
  have z4 := cc 4 _ rfl
  clear cc
  have HP1 := hide (HPr.out V4 db0 db1 db2 db3 db4 eb0 eb1 eb2 eb3 eb4 G2 _ ⟨HG2.out.1, HG2.out.2.1, HL4.out.ow (_, G2) (by first | with_reducible exact List.mem_cons_self | with_reducible exact List.mem_cons_of_mem _ List.mem_cons_self | with_reducible exact List.mem_cons_of_mem _ (List.mem_cons_of_mem _ List.mem_cons_self) | with_reducible exact List.mem_cons_of_mem _ (List.mem_cons_of_mem _ (List.mem_cons_of_mem _ List.mem_cons_self)) | with_reducible exact List.mem_cons_of_mem _ (List.mem_cons_of_mem _ (List.mem_cons_of_mem _ (List.mem_cons_of_mem _ List.mem_cons_self))))⟩)
  go_wp2_with fail
  refine HP1.out.mono ?_
  rintro e w5 ⟨pb4, qb4, R1, rfl, r1, b5⟩
  obtain ⟨V5, hV5⟩ : ∃ V5, w5.alloc (.cells #[.string y0, .string y1, .int .i64 y2, .int .i64 y3, .slice pb4 ym4 qb4] 32) = V5 := ⟨_, rfl⟩
  have HL5 : Hid (Law W [(w5.heap.size, [.string y0, .string y1, .int .i64 y2, .int .i64 y3, .slice pb4 ym4 qb4]), (w4.heap.size, [.slice db0 n0 eb0, .slice db1 n1 eb1, .slice db2 n2 eb2, .slice db3 n3 eb3, .slice db4 n4 eb4]), (w3.heap.size, [.string y0, .string y1, .int .i64 y2, .int .i64 y3, .slice pa4 ym4 qa4]), (W.heap.size, [.slice a0 n0 c0, .slice a1 n1 c1, .slice a2 n2 c2, .slice a3 n3 c3, .slice a4 n4 c4])] [R1, G2, R0, F] [(V4.heap.size, R1), (V3.heap.size, G2)] V5) := by unfold Hid; rw [← hV5]; exact ((HL4.out.below b5.out).adds r1.out.2.2).box _ _
  have HR1 : Hid (R1.vals = [.string y0, .string y1, .int .i64 y2, .int .i64 y3, .slice pb4 ym4 qb4] ∧ R1.sim AN ∧ ∀ c ∈ R1.inn, V4.heap.size ≤ c ∧ c < w5.heap.size) := ⟨r1.out.1, r1.out.2.1, r1.out.2.2.subs.inn_of⟩
  have HZ5 : Hid (V5.heap.size = w5.heap.size + 1 ∧ V4.heap.size ≤ w5.heap.size) := ⟨by rw [← hV5]; simp, b5.out.size⟩
  have HV5 := hide hV5
  clear HP1 HL4 r1 b5 hV5 z0 z1 z2 z3 z4
  go_upto_region 10 with fail
  rw [HV5.out]
  clear HV5
  have cc := HL5.out.cell w5.heap.size _ (by first | with_reducible exact List.mem_cons_self | with_reducible exact List.mem_cons_of_mem _ List.mem_cons_self | with_reducible exact List.mem_cons_of_mem _ (List.mem_cons_of_mem _ List.mem_cons_self) | with_reducible exact List.mem_cons_of_mem _ (List.mem_cons_of_mem _ (List.mem_cons_of_mem _ List.mem_cons_self)) | with_reducible exact List.mem_cons_of_mem _ (List.mem_cons_of_mem _ (List.mem_cons_of_mem _ (List.mem_cons_of_mem _ List.mem_cons_self))))
  have z0 := cc 0 _ rfl
  have z1 := cc 1 _ rfl
  have z2 := cc 2 _ rfl
  have z3 := cc 3 _ rfl
  have z4 := cc 4 _ rfl
  clear cc
  have cc := HL5.out.cell w3.heap.size _ (by first | with_reducible exact List.mem_cons_self | with_reducible exact List.mem_cons_of_mem _ List.mem_cons_self | with_reducible exact List.mem_cons_of_mem _ (List.mem_cons_of_mem _ List.mem_cons_self) | with_reducible exact List.mem_cons_of_mem _ (List.mem_cons_of_mem _ (List.mem_cons_of_mem _ List.mem_cons_self)) | with_reducible exact List.mem_cons_of_mem _ (List.mem_cons_of_mem _ (List.mem_cons_of_mem _ (List.mem_cons_of_mem _ List.mem_cons_self))))
  have u0 := cc 0 _ rfl
  have u1 := cc 1 _ rfl
  have u2 := cc 2 _ rfl
  have u3 := cc 3 _ rfl
  have u4 := cc 4 _ rfl
  clear cc
  have HE1 := hide (HEr.out V5 pb4 qb4 pa4 qa4 R1 R0 ⟨HR1.out.1, HR1.out.2.1, HL5.out.fo R1 (by simp)⟩ ⟨HR0.out.1, HR0.out.2.1, HL5.out.fo R0 (by simp)⟩)
  go_wp2_with fail
  refine HE1.out.mono ?_
  rintro e w6 ⟨rfl, b6⟩
  have HL6 := hide (HL5.out.below b6.out)
  clear HE1 HL5 b6 z0 u0 z1 u1 z2 u2 z3 u3 z4 u4
  go_upto_region 12 with fail
  have cc := HL6.out.cell W.heap.size _ (by first | with_reducible exact List.mem_cons_self | with_reducible exact List.mem_cons_of_mem _ List.mem_cons_self | with_reducible exact List.mem_cons_of_mem _ (List.mem_cons_of_mem _ List.mem_cons_self) | with_reducible exact List.mem_cons_of_mem _ (List.mem_cons_of_mem _ (List.mem_cons_of_mem _ List.mem_cons_self)) | with_reducible exact List.mem_cons_of_mem _ (List.mem_cons_of_mem _ (List.mem_cons_of_mem _ (List.mem_cons_of_mem _ List.mem_cons_self))))
  have z0 := cc 0 _ rfl
  have z1 := cc 1 _ rfl
  have z2 := cc 2 _ rfl
  have z3 := cc 3 _ rfl
  have z4 := cc 4 _ rfl
  clear cc
  have cc := HL6.out.cell w4.heap.size _ (by first | with_reducible exact List.mem_cons_self | with_reducible exact List.mem_cons_of_mem _ List.mem_cons_self | with_reducible exact List.mem_cons_of_mem _ (List.mem_cons_of_mem _ List.mem_cons_self) | with_reducible exact List.mem_cons_of_mem _ (List.mem_cons_of_mem _ (List.mem_cons_of_mem _ List.mem_cons_self)) | with_reducible exact List.mem_cons_of_mem _ (List.mem_cons_of_mem _ (List.mem_cons_of_mem _ (List.mem_cons_of_mem _ List.mem_cons_self))))
  have u0 := cc 0 _ rfl
  have u1 := cc 1 _ rfl
  have u2 := cc 2 _ rfl
  have u3 := cc 3 _ rfl
  have u4 := cc 4 _ rfl
  clear cc
  have HSQ : Hid (∀ V, Below w6.heap.size w6 V → V.cell? ⟨W.heap.size, 0, none⟩ = some (.slice a0 n0 c0) ∧ V.cell? ⟨W.heap.size, 1, none⟩ = some (.slice a1 n1 c1) ∧ V.cell? ⟨W.heap.size, 2, none⟩ = some (.slice a2 n2 c2) ∧ V.cell? ⟨W.heap.size, 3, none⟩ = some (.slice a3 n3 c3) ∧ V.cell? ⟨W.heap.size, 4, none⟩ = some (.slice a4 n4 c4) ∧ V.cell? ⟨w4.heap.size, 0, none⟩ = some (.slice db0 n0 eb0) ∧ V.cell? ⟨w4.heap.size, 1, none⟩ = some (.slice db1 n1 eb1) ∧ V.cell? ⟨w4.heap.size, 2, none⟩ = some (.slice db2 n2 eb2) ∧ V.cell? ⟨w4.heap.size, 3, none⟩ = some (.slice db3 n3 eb3) ∧ V.cell? ⟨w4.heap.size, 4, none⟩ = some (.slice db4 n4 eb4)) := fun V hb => by
    have hl := HL6.out.below hb
    have cz := hl.cell W.heap.size _ (by first | with_reducible exact List.mem_cons_self | with_reducible exact List.mem_cons_of_mem _ List.mem_cons_self | with_reducible exact List.mem_cons_of_mem _ (List.mem_cons_of_mem _ List.mem_cons_self) | with_reducible exact List.mem_cons_of_mem _ (List.mem_cons_of_mem _ (List.mem_cons_of_mem _ List.mem_cons_self)) | with_reducible exact List.mem_cons_of_mem _ (List.mem_cons_of_mem _ (List.mem_cons_of_mem _ (List.mem_cons_of_mem _ List.mem_cons_self))))
    have cu := hl.cell w4.heap.size _ (by first | with_reducible exact List.mem_cons_self | with_reducible exact List.mem_cons_of_mem _ List.mem_cons_self | with_reducible exact List.mem_cons_of_mem _ (List.mem_cons_of_mem _ List.mem_cons_self) | with_reducible exact List.mem_cons_of_mem _ (List.mem_cons_of_mem _ (List.mem_cons_of_mem _ List.mem_cons_self)) | with_reducible exact List.mem_cons_of_mem _ (List.mem_cons_of_mem _ (List.mem_cons_of_mem _ (List.mem_cons_of_mem _ List.mem_cons_self))))
    exact ⟨cz 0 _ rfl, cz 1 _ rfl, cz 2 _ rfl, cz 3 _ rfl, cz 4 _ rfl, cu 0 _ rfl, cu 1 _ rfl, cu 2 _ rfl, cu 3 _ rfl, cu 4 _ rfl⟩
  have HDR : Hid (Below w6.heap.size w6 w6.drew) := (Below.refl _ _).drew
  have k0' := HSQ.out w6.drew HDR.out
  have HT6 : Hid (Calls Try.prog 6 #[.agg #[.slice a0 n0 c0, .slice a1 n1 c1, .slice a2 n2 c2, .slice a3 n3 c3, .slice a4 n4 c4]] w6.drew fun e w' => ∃ (d0 d1 d2 d3 d4 : Option Addr) (e0 e1 e2 e3 e4 : Nat) (G : Fo), e = .returned (.agg #[.slice d0 n0 e0, .slice d1 n1 e1, .slice d2 n2 e2, .slice d3 n3 e3, .slice d4 n4 e4]) ∧ Hid (G.vals = [.slice d0 n0 e0, .slice d1 n1 e1, .slice d2 n2 e2, .slice d3 n3 e3, .slice d4 n4 e4] ∧ G.sim F ∧ G.Subs w' (fun c => c < w'.heap.size)) ∧ Hid (Below w6.heap.size w6 w')) := (HTo.out w6.drew ((HL6.out.below HDR.out).fo F (by simp))).mono (by
    rintro e w' ⟨d0, d1, d2, d3, d4, e0, e1, e2, e3, e4, G, g1, g2, g3⟩
    exact ⟨d0, d1, d2, d3, d4, e0, e1, e2, e3, e4, G, g1, ⟨g2.out.1, g2.out.2.1, g2.out.2.2.subs.mono (fun _ x => x.2)⟩, HDR.out.trans g3.out⟩)
  have HE6 : Hid (∀ w8 (d0 d1 d2 d3 d4 : Option Addr) (e0 e1 e2 e3 e4 : Nat) (G : Fo), Hid (G.vals = [.slice d0 n0 e0, .slice d1 n1 e1, .slice d2 n2 e2, .slice d3 n3 e3, .slice d4 n4 e4] ∧ G.sim F ∧ G.Subs w8 (fun c => c < w8.heap.size)) → Hid (Below w6.heap.size w6 w8) → Calls Try.prog 9 #[.agg #[.slice db0 n0 eb0, .slice db1 n1 eb1, .slice db2 n2 eb2, .slice db3 n3 eb3, .slice db4 n4 eb4], .agg #[.slice d0 n0 e0, .slice d1 n1 e1, .slice d2 n2 e2, .slice d3 n3 e3, .slice d4 n4 e4]] w8 fun e w' => e = .returned (.bool true) ∧ Hid (Below w6.heap.size w6 w')) := fun w8 d0 d1 d2 d3 d4 e0 e1 e2 e3 e4 G hg hb => (HEa.out w8 db0 db1 db2 db3 db4 eb0 eb1 eb2 eb3 eb4 d0 d1 d2 d3 d4 e0 e1 e2 e3 e4 G2 G ⟨HG2.out.1, HG2.out.2.1, (HL6.out.below hb.out).fo G2 (by simp)⟩ hg).mono (fun e w' h => ⟨h.1, hb.out.trans (h.2.out.mono hb.out.size)⟩)
  go_cut [38] (fun s wx => s = .bool false ∧ Below w6.heap.size w6 wx)
  case first =>
    go_region_held3 (fun V => V.cell? ⟨W.heap.size, 0, none⟩ = some (.slice a0 n0 c0) ∧ V.cell? ⟨W.heap.size, 1, none⟩ = some (.slice a1 n1 c1) ∧ V.cell? ⟨W.heap.size, 2, none⟩ = some (.slice a2 n2 c2) ∧ V.cell? ⟨W.heap.size, 3, none⟩ = some (.slice a3 n3 c3) ∧ V.cell? ⟨W.heap.size, 4, none⟩ = some (.slice a4 n4 c4) ∧ V.cell? ⟨w4.heap.size, 0, none⟩ = some (.slice db0 n0 eb0) ∧ V.cell? ⟨w4.heap.size, 1, none⟩ = some (.slice db1 n1 eb1) ∧ V.cell? ⟨w4.heap.size, 2, none⟩ = some (.slice db2 n2 eb2) ∧ V.cell? ⟨w4.heap.size, 3, none⟩ = some (.slice db3 n3 eb3) ∧ V.cell? ⟨w4.heap.size, 4, none⟩ = some (.slice db4 n4 eb4))
      (first | with_reducible exact k9' | with_reducible exact k8' | with_reducible exact k0')
      (first
        | (go_at_call 6; refine HT6.out.mono ?_; rintro e w8 ⟨dc0, dc1, dc2, dc3, dc4, ec0, ec1, ec2, ec3, ec4, G3, rfl, g3, b8⟩; have k8' := HSQ.out w8 b8.out)
        | (go_at_call 9; refine (HE6.out w8 dc0 dc1 dc2 dc3 dc4 ec0 ec1 ec2 ec3 ec4 G3 g3 b8).mono ?_; rintro e w9 ⟨rfl, b9⟩; have k9' := HSQ.out w9 b9.out))
    all_goals
      go_wp2_with fail
      go_meet
      case rel => exact ⟨rfl, b9.out⟩
  case rest =>
    obtain ⟨rfl, hcb⟩ := hcut
    rename World => w9
    have HL9 := hide (HL6.out.below hcb)
    clear hcb HL6 HSQ HDR HT6 HE6 k0' z0 u0 z1 u1 z2 u2 z3 u3 z4 u4
    have cc := HL9.out.cell w4.heap.size _ (by first | with_reducible exact List.mem_cons_self | with_reducible exact List.mem_cons_of_mem _ List.mem_cons_self | with_reducible exact List.mem_cons_of_mem _ (List.mem_cons_of_mem _ List.mem_cons_self) | with_reducible exact List.mem_cons_of_mem _ (List.mem_cons_of_mem _ (List.mem_cons_of_mem _ List.mem_cons_self)) | with_reducible exact List.mem_cons_of_mem _ (List.mem_cons_of_mem _ (List.mem_cons_of_mem _ (List.mem_cons_of_mem _ List.mem_cons_self))))
    have z0 := cc 0 _ rfl
    have z1 := cc 1 _ rfl
    have z2 := cc 2 _ rfl
    have z3 := cc 3 _ rfl
    have z4 := cc 4 _ rfl
    clear cc
    have HM9 := hide (HMa.out w9 db0 db1 db2 db3 db4 eb0 eb1 eb2 eb3 eb4 G2 _ HG2.out.1 HG2.out.2.1 (HL9.out.ow (_, G2) (by first | with_reducible exact List.mem_cons_self | with_reducible exact List.mem_cons_of_mem _ List.mem_cons_self | with_reducible exact List.mem_cons_of_mem _ (List.mem_cons_of_mem _ List.mem_cons_self) | with_reducible exact List.mem_cons_of_mem _ (List.mem_cons_of_mem _ (List.mem_cons_of_mem _ List.mem_cons_self)) | with_reducible exact List.mem_cons_of_mem _ (List.mem_cons_of_mem _ (List.mem_cons_of_mem _ (List.mem_cons_of_mem _ List.mem_cons_self))))))
    go_wp2_with fail
    refine HM9.out.mono ?_
    rintro e w10 ⟨rfl, k10⟩
    have HLA : Hid (Law W [(w5.heap.size, [.string y0, .string y1, .int .i64 y2, .int .i64 y3, .slice pb4 ym4 qb4]), (w4.heap.size, [.slice db0 n0 eb0, .slice db1 n1 eb1, .slice db2 n2 eb2, .slice db3 n3 eb3, .slice db4 n4 eb4]), (w3.heap.size, [.string y0, .string y1, .int .i64 y2, .int .i64 y3, .slice pa4 ym4 qa4]), (W.heap.size, [.slice a0 n0 c0, .slice a1 n1 c1, .slice a2 n2 c2, .slice a3 n3 c3, .slice a4 n4 c4])] [R1, R0, F] [(V4.heap.size, R1)] w10) := by
      have h2 := HG2.out.2.2
      have h0 := HR0.out.2.2
      have h1 := HR1.out.2.2
      have hF := HFin.out
      have z3 := HZ3.out
      have z4 := HZ4.out
      have z5 := HZ5.out
      refine (HL9.out.drop (fun _ x => x) (by simp) (by simp)).kept k10.out (fun c hc hx => by have := h2 c hx; omega) (allc (fun hx => by have := h2 _ hx; omega) (allc (fun hx => by have := h2 _ hx; omega) (allc (fun hx => by have := h2 _ hx; omega) (all1 (fun hx => by have := h2 _ hx; omega))))) (allc (fun c hc hx => by have := h2 _ hx; have := h1 _ hc; omega) (allc (fun c hc hx => by have := h2 _ hx; have := h0 _ hc; omega) (all1 (fun c hc hx => by have := h2 _ hx; have := hF _ hc; omega)))) (all1 (fun c hc _ hx => by have := h2 _ hx; omega))
    clear HM9 HL9 k10 z0 z1 z2 z3 z4
    go_upto_region 16 with fail
    have cc := HLA.out.cell w5.heap.size _ (by first | with_reducible exact List.mem_cons_self | with_reducible exact List.mem_cons_of_mem _ List.mem_cons_self | with_reducible exact List.mem_cons_of_mem _ (List.mem_cons_of_mem _ List.mem_cons_self) | with_reducible exact List.mem_cons_of_mem _ (List.mem_cons_of_mem _ (List.mem_cons_of_mem _ List.mem_cons_self)) | with_reducible exact List.mem_cons_of_mem _ (List.mem_cons_of_mem _ (List.mem_cons_of_mem _ (List.mem_cons_of_mem _ List.mem_cons_self))))
    have z0 := cc 0 _ rfl
    have z1 := cc 1 _ rfl
    have z2 := cc 2 _ rfl
    have z3 := cc 3 _ rfl
    have z4 := cc 4 _ rfl
    clear cc
    have cc := HLA.out.cell w3.heap.size _ (by first | with_reducible exact List.mem_cons_self | with_reducible exact List.mem_cons_of_mem _ List.mem_cons_self | with_reducible exact List.mem_cons_of_mem _ (List.mem_cons_of_mem _ List.mem_cons_self) | with_reducible exact List.mem_cons_of_mem _ (List.mem_cons_of_mem _ (List.mem_cons_of_mem _ List.mem_cons_self)) | with_reducible exact List.mem_cons_of_mem _ (List.mem_cons_of_mem _ (List.mem_cons_of_mem _ (List.mem_cons_of_mem _ List.mem_cons_self))))
    have u0 := cc 0 _ rfl
    have u1 := cc 1 _ rfl
    have u2 := cc 2 _ rfl
    have u3 := cc 3 _ rfl
    have u4 := cc 4 _ rfl
    clear cc
    have HE2 := hide (HEr.out w10 pb4 qb4 pa4 qa4 R1 R0 ⟨HR1.out.1, HR1.out.2.1, HLA.out.fo R1 (by simp)⟩ ⟨HR0.out.1, HR0.out.2.1, HLA.out.fo R0 (by simp)⟩)
    go_wp2_with fail
    refine HE2.out.mono ?_
    rintro e w11 ⟨rfl, b11⟩
    have HLB := hide (HLA.out.below b11.out)
    clear HE2 HLA b11 z0 u0 z1 u1 z2 u2 z3 u3 z4 u4
    have cc := HLB.out.cell w5.heap.size _ (by first | with_reducible exact List.mem_cons_self | with_reducible exact List.mem_cons_of_mem _ List.mem_cons_self | with_reducible exact List.mem_cons_of_mem _ (List.mem_cons_of_mem _ List.mem_cons_self) | with_reducible exact List.mem_cons_of_mem _ (List.mem_cons_of_mem _ (List.mem_cons_of_mem _ List.mem_cons_self)) | with_reducible exact List.mem_cons_of_mem _ (List.mem_cons_of_mem _ (List.mem_cons_of_mem _ (List.mem_cons_of_mem _ List.mem_cons_self))))
    have z0 := cc 0 _ rfl
    have z1 := cc 1 _ rfl
    have z2 := cc 2 _ rfl
    have z3 := cc 3 _ rfl
    have z4 := cc 4 _ rfl
    clear cc
    have HMB := hide (HMr.out w11 pb4 qb4 R1 _ ⟨HR1.out.1, HR1.out.2.1, HLB.out.ow (_, R1) (by first | with_reducible exact List.mem_cons_self | with_reducible exact List.mem_cons_of_mem _ List.mem_cons_self | with_reducible exact List.mem_cons_of_mem _ (List.mem_cons_of_mem _ List.mem_cons_self) | with_reducible exact List.mem_cons_of_mem _ (List.mem_cons_of_mem _ (List.mem_cons_of_mem _ List.mem_cons_self)) | with_reducible exact List.mem_cons_of_mem _ (List.mem_cons_of_mem _ (List.mem_cons_of_mem _ (List.mem_cons_of_mem _ List.mem_cons_self))))⟩)
    go_wp2_with fail
    refine HMB.out.mono ?_
    rintro e w12 ⟨rfl, m12, k12⟩
    have HLC : Hid (Law W [(w5.heap.size, [.string y0, .string y1, .int .i64 y2, .int .i64 y3, .slice pb4 ym4 qb4]), (w4.heap.size, [.slice db0 n0 eb0, .slice db1 n1 eb1, .slice db2 n2 eb2, .slice db3 n3 eb3, .slice db4 n4 eb4]), (w3.heap.size, [.string y0, .string y1, .int .i64 y2, .int .i64 y3, .slice pa4 ym4 qa4]), (W.heap.size, [.slice a0 n0 c0, .slice a1 n1 c1, .slice a2 n2 c2, .slice a3 n3 c3, .slice a4 n4 c4])] [R1.mks 1, R0, F] [] w12) := by
      have h0 := HR0.out.2.2
      have h1 := HR1.out.2.2
      have hF := HFin.out
      have z3 := HZ3.out
      have z4 := HZ4.out
      have z5 := HZ5.out
      refine Law.add ((HLB.out.drop (fun _ x => x) (by simp) (fun p hp => absurd hp List.not_mem_nil)).kept k12.out (fun c hc hx => by have := h1 c hx; omega) (allc (fun hx => by have := h1 _ hx; omega) (allc (fun hx => by have := h1 _ hx; omega) (allc (fun hx => by have := h1 _ hx; omega) (all1 (fun hx => by have := h1 _ hx; omega))))) (allc (fun c hc hx => by have := h1 _ hx; have := h0 _ hc; omega) (all1 (fun c hc hx => by have := h1 _ hx; have := hF _ hc; omega))) (fun p hp => absurd hp List.not_mem_nil)) m12.out
    clear HMB HLB m12 k12 z0 z1 z2 z3 z4
    have cc := HLC.out.cell w5.heap.size _ (by first | with_reducible exact List.mem_cons_self | with_reducible exact List.mem_cons_of_mem _ List.mem_cons_self | with_reducible exact List.mem_cons_of_mem _ (List.mem_cons_of_mem _ List.mem_cons_self) | with_reducible exact List.mem_cons_of_mem _ (List.mem_cons_of_mem _ (List.mem_cons_of_mem _ List.mem_cons_self)) | with_reducible exact List.mem_cons_of_mem _ (List.mem_cons_of_mem _ (List.mem_cons_of_mem _ (List.mem_cons_of_mem _ List.mem_cons_self))))
    have z0 := cc 0 _ rfl
    have z1 := cc 1 _ rfl
    have z2 := cc 2 _ rfl
    have z3 := cc 3 _ rfl
    have z4 := cc 4 _ rfl
    clear cc
    have HHC := hide (HHr.out w12 pb4 qb4 R1 HR1.out.1 HR1.out.2.1 (HLC.out.fo _ (by simp)))
    go_wp2_with fail
    refine HHC.out.mono ?_
    rintro e w13 ⟨rfl, b13⟩
    have HLD := hide (HLC.out.below b13.out)
    clear HHC HLC b13 z0 z1 z2 z3 z4
    have cc := HLD.out.cell W.heap.size _ (by first | with_reducible exact List.mem_cons_self | with_reducible exact List.mem_cons_of_mem _ List.mem_cons_self | with_reducible exact List.mem_cons_of_mem _ (List.mem_cons_of_mem _ List.mem_cons_self) | with_reducible exact List.mem_cons_of_mem _ (List.mem_cons_of_mem _ (List.mem_cons_of_mem _ List.mem_cons_self)) | with_reducible exact List.mem_cons_of_mem _ (List.mem_cons_of_mem _ (List.mem_cons_of_mem _ (List.mem_cons_of_mem _ List.mem_cons_self))))
    have z0 := cc 0 _ rfl
    have z1 := cc 1 _ rfl
    have z2 := cc 2 _ rfl
    have z3 := cc 3 _ rfl
    have z4 := cc 4 _ rfl
    clear cc
    go_wp2_with fail
    refine (HTo.out w13 (HLD.out.fo F (by simp))).mono ?_
    rintro e w14 ⟨dd0, dd1, dd2, dd3, dd4, ed0, ed1, ed2, ed3, ed4, G4, rfl, g4, b14⟩
    have HLE := hide (HLD.out.below b14.out)
    have HP4 := hide (HPr.out w14 dd0 dd1 dd2 dd3 dd4 ed0 ed1 ed2 ed3 ed4 G4 _ g4)
    clear HLD g4 b14 z0 z1 z2 z3 z4
    go_wp2_with fail
    refine HP4.out.mono ?_
    rintro e w15 ⟨pd4, qd4, R2, rfl, r2, b15⟩
    obtain ⟨V15, hV15⟩ : ∃ V15, w15.alloc (.cells #[.string y0, .string y1, .int .i64 y2, .int .i64 y3, .slice pd4 ym4 qd4] 32) = V15 := ⟨_, rfl⟩
    have HLF : Hid (Law W ((w15.heap.size, [.string y0, .string y1, .int .i64 y2, .int .i64 y3, .slice pd4 ym4 qd4]) :: [(w5.heap.size, [.string y0, .string y1, .int .i64 y2, .int .i64 y3, .slice pb4 ym4 qb4]), (w4.heap.size, [.slice db0 n0 eb0, .slice db1 n1 eb1, .slice db2 n2 eb2, .slice db3 n3 eb3, .slice db4 n4 eb4]), (w3.heap.size, [.string y0, .string y1, .int .i64 y2, .int .i64 y3, .slice pa4 ym4 qa4]), (W.heap.size, [.slice a0 n0 c0, .slice a1 n1 c1, .slice a2 n2 c2, .slice a3 n3 c3, .slice a4 n4 c4])]) [R2, R1.mks 1, R0, F] [] V15) := by unfold Hid; rw [← hV15]; exact ((HLE.out.below b15.out).add (r2.out.2.2.subs.mono (fun _ x => x.2))).box _ _
    have HR2 : Hid (R2.vals = [.string y0, .string y1, .int .i64 y2, .int .i64 y3, .slice pd4 ym4 qd4] ∧ R2.sim AN) := ⟨r2.out.1, r2.out.2.1⟩
    have HV15 := hide hV15
    clear HP4 HLE r2 b15 hV15
    go_upto_region 27 with fail
    rw [HV15.out]
    clear HV15
    have cc := HLF.out.cell w15.heap.size _ (by first | with_reducible exact List.mem_cons_self | with_reducible exact List.mem_cons_of_mem _ List.mem_cons_self | with_reducible exact List.mem_cons_of_mem _ (List.mem_cons_of_mem _ List.mem_cons_self) | with_reducible exact List.mem_cons_of_mem _ (List.mem_cons_of_mem _ (List.mem_cons_of_mem _ List.mem_cons_self)) | with_reducible exact List.mem_cons_of_mem _ (List.mem_cons_of_mem _ (List.mem_cons_of_mem _ (List.mem_cons_of_mem _ List.mem_cons_self))))
    have z0 := cc 0 _ rfl
    have z1 := cc 1 _ rfl
    have z2 := cc 2 _ rfl
    have z3 := cc 3 _ rfl
    have z4 := cc 4 _ rfl
    clear cc
    have cc := HLF.out.cell w3.heap.size _ (by first | with_reducible exact List.mem_cons_self | with_reducible exact List.mem_cons_of_mem _ List.mem_cons_self | with_reducible exact List.mem_cons_of_mem _ (List.mem_cons_of_mem _ List.mem_cons_self) | with_reducible exact List.mem_cons_of_mem _ (List.mem_cons_of_mem _ (List.mem_cons_of_mem _ List.mem_cons_self)) | with_reducible exact List.mem_cons_of_mem _ (List.mem_cons_of_mem _ (List.mem_cons_of_mem _ (List.mem_cons_of_mem _ List.mem_cons_self))))
    have u0 := cc 0 _ rfl
    have u1 := cc 1 _ rfl
    have u2 := cc 2 _ rfl
    have u3 := cc 3 _ rfl
    have u4 := cc 4 _ rfl
    clear cc
    have HE3 := hide (HEr.out V15 pd4 qd4 pa4 qa4 R2 R0 ⟨HR2.out.1, HR2.out.2, HLF.out.fo R2 (by simp)⟩ ⟨HR0.out.1, HR0.out.2.1, HLF.out.fo R0 (by simp)⟩)
    go_wp2_with fail
    refine HE3.out.mono ?_
    rintro e w16 ⟨rfl, b16⟩
    have HLG := hide (HLF.out.below b16.out)
    clear HE3 HLF b16 z0 u0 z1 u1 z2 u2 z3 u3 z4 u4
    have cc := HLG.out.cell w5.heap.size _ (by first | with_reducible exact List.mem_cons_self | with_reducible exact List.mem_cons_of_mem _ List.mem_cons_self | with_reducible exact List.mem_cons_of_mem _ (List.mem_cons_of_mem _ List.mem_cons_self) | with_reducible exact List.mem_cons_of_mem _ (List.mem_cons_of_mem _ (List.mem_cons_of_mem _ List.mem_cons_self)) | with_reducible exact List.mem_cons_of_mem _ (List.mem_cons_of_mem _ (List.mem_cons_of_mem _ (List.mem_cons_of_mem _ List.mem_cons_self))))
    have z0 := cc 0 _ rfl
    have z1 := cc 1 _ rfl
    have z2 := cc 2 _ rfl
    have z3 := cc 3 _ rfl
    have z4 := cc 4 _ rfl
    clear cc
    have HHG := hide (HHr.out w16 pb4 qb4 R1 HR1.out.1 HR1.out.2.1 (HLG.out.fo _ (by simp)))
    go_wp2_with fail
    refine HHG.out.mono ?_
    rintro e w17 ⟨rfl, b17⟩
    have HLH := hide (HLG.out.below b17.out).be
    clear HHG HLG b17 z0 z1 z2 z3 z4
    go_wp2_with fail
    go_ret
    exact ⟨rfl, HLH.out⟩

end Go.Proofs.Ytcflciblcdabpaa
