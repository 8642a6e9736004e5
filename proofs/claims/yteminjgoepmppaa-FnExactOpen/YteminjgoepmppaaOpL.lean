import Derived.Test.YteminjgoepmppaaBs
import Derived.Test.YteminjgoepmppaaUw
import Derived.Test.YteminjgoepmppaaKb
import Derived.Test.YteminjgoepmppaaKToScheme
import Derived.Test.YteminjgoepmppaaKEqScheme
import Derived.Test.YteminjgoepmppaaKMkScheme
import Derived.Test.YteminjgoepmppaaKEqType
import Derived.Test.YteminjgoepmppaaKMkType
import Derived.Test.YteminjgoepmppaaKHdType
import Derived.Deep.RegionHeld3
import Derived.Deep.DeepCutAuto
namespace Go.Proofs.Yteminjgoepmppaa.U
open Go.RowKit Go.Joins

set_option maxHeartbeats 8000000 in
set_option maxRecDepth 100000 in
theorem lawOpen (F : Fo) (f : Int) (W : World) (hf : Fit E F [.i, .s 2, .i, .i, .t, .s 0]) (hs : F.Subs W (fun b => b < W.heap.size)) :
    Calls Try.prog 8 #[.agg F.vals.toArray, .int .i64 f] W fun e W' => e = .returned (.bool true) ∧ Below W.heap.size W W' := by
  have HFi := hide hf
  have HFin : Hid (∀ c ∈ F.inn, c < W.heap.size) := hs.inn_of
  obtain ⟨F', hF'⟩ : ∃ F', F' = F := ⟨_, rfl⟩
  have hv : ∃ (x0 : Int) (x2 : Int) (x3 : Int) (x4 : ByteArray) (a1 a5 : Option Addr) (c1 c5 : Nat) (n1 n5 : Nat), F.vals = [.int .i64 x0, .slice a1 n1 c1, .int .i64 x2, .int .i64 x3, .string x4, .slice a5 n5 c5] ∧ ∀ G : Fo, G.sim F → ∃ (d1 d5 : Option Addr) (e1 e5 : Nat), G.vals = [.int .i64 x0, .slice d1 n1 e1, .int .i64 x2, .int .i64 x3, .string x4, .slice d5 n5 e5] := by
    clear HFi HFin hs hF' F'
    replace hf : Fit E F [.i, .s 2, .i, .i, .t, .s 0] := hf
    obtain ⟨x0, F0, rfl, -, hf⟩ := fit_i hf
    obtain ⟨a1, n1, c1, k1, F1, rfl, -, hf⟩ := fit_s hf
    obtain ⟨x2, F2, rfl, -, hf⟩ := fit_i hf
    obtain ⟨x3, F3, rfl, -, hf⟩ := fit_i hf
    obtain ⟨x4, F4, rfl, -, hf⟩ := fit_t hf
    obtain ⟨a5, n5, c5, k5, F5, rfl, -, hf⟩ := fit_s hf
    obtain rfl := fit_nil hf
    refine ⟨x0, x2, x3, x4, a1, a5, c1, c5, n1, n5, rfl, fun G s_0 => ?_⟩
    obtain ⟨u0, rfl, s_1⟩ := Fo.sim_v s_0
    obtain ⟨d1, e1, t1, u1, rfl, -, s_2⟩ := Fo.sim_s s_1
    obtain ⟨u2, rfl, s_3⟩ := Fo.sim_v s_2
    obtain ⟨u3, rfl, s_4⟩ := Fo.sim_v s_3
    obtain ⟨u4, rfl, s_5⟩ := Fo.sim_v s_4
    obtain ⟨d5, e5, t5, u5, rfl, -, s_6⟩ := Fo.sim_s s_5
    obtain rfl := Fo.sim_nil s_6
    exact ⟨d1, d5, e1, e5, rfl⟩
  obtain ⟨x0, x2, x3, x4, a1, a5, c1, c5, n1, n5, hv, hG⟩ := hv
  have hw : ∃ AN : Fo, AN = oU f F ∧ Fit E AN (E 0) ∧ (F.wt ≤ 1048576 → AN.wt ≤ 1048576) := ⟨_, rfl, oU_fit hf, oU_wt hf⟩
  obtain ⟨AN, hAN, hAF, hAW⟩ := hw
  have hr : ∃ (y0 : Int) (y1 : Int) (y2 : ByteArray) (ym3 : Nat), ∀ G : Fo, G.sim AN → ∃ (d3 : Option Addr) (e3 : Nat), G.vals = [.int .i64 y0, .int .i64 y1, .string y2, .slice d3 ym3 e3] := by
    clear hAN hAW
    replace hAF : Fit E AN [.i, .i, .t, .s 0] := hAF
    obtain ⟨y0, F0, rfl, -, hAF⟩ := fit_i hAF
    obtain ⟨y1, F1, rfl, -, hAF⟩ := fit_i hAF
    obtain ⟨y2, F2, rfl, -, hAF⟩ := fit_t hAF
    obtain ⟨a3, n3, c3, k3, F3, rfl, -, hAF⟩ := fit_s hAF
    obtain rfl := fit_nil hAF
    refine ⟨y0, y1, y2, n3, fun G s_0 => ?_⟩
    obtain ⟨u0, rfl, s_1⟩ := Fo.sim_v s_0
    obtain ⟨u1, rfl, s_2⟩ := Fo.sim_v s_1
    obtain ⟨u2, rfl, s_3⟩ := Fo.sim_v s_2
    obtain ⟨d3, e3, t3, u3, rfl, -, s_4⟩ := Fo.sim_s s_3
    obtain rfl := Fo.sim_nil s_4
    exact ⟨d3, e3, rfl⟩
  obtain ⟨y0, y1, y2, ym3, hR⟩ := hr
  have HS0 : Hid (∀ V, F.Subs V (fun c => c < V.heap.size) → Calls Try.prog 39 #[.agg #[.int .i64 x0, .slice a1 n1 c1, .int .i64 x2, .int .i64 x3, .string x4, .slice a5 n5 c5], .int .i64 1048576] V fun e w' => e = .returned (.int .i64 (szV 1048576 F.wt)) ∧ Below V.heap.size V w') := fun V hV => by
    have := sz_C_Scheme F.size F V.heap.size 1048576 V (Nat.le_refl _) HFi.out (Nat.le_refl _) (by omega) (by omega) hV
    rw [hv] at this
    exact this
  obtain ⟨A, hA⟩ : ∃ A, W.alloc (.cells #[.int .i64 x0, .slice a1 n1 c1, .int .i64 x2, .int .i64 x3, .string x4, .slice a5 n5 c5] 61) = A := ⟨_, rfl⟩
  have HL0 : Hid (Law W [(W.heap.size, [.int .i64 x0, .slice a1 n1 c1, .int .i64 x2, .int .i64 x3, .string x4, .slice a5 n5 c5])] [F] [] A) := by unfold Hid; rw [← hA]; exact ((Law.start W).add hs).box _ _
  have HA := hide hA
  have HSZ := hide (HS0.out A (HL0.out.fo F (by simp)))
  rw [hv]
  show Calls Try.prog 8 #[.agg #[.int .i64 x0, .slice a1 n1 c1, .int .i64 x2, .int .i64 x3, .string x4, .slice a5 n5 c5], .int .i64 f] W _
  clear hA
  by_cases g9 : (1048576 : Int) < ((F.wt : Nat) : Int)
  · have HB := hide HL0.out.be
    rw [szV_lt g9] at HSZ
    have cc := HL0.out.cell W.heap.size _ (by first | with_reducible exact List.mem_cons_self | with_reducible exact List.mem_cons_of_mem _ List.mem_cons_self | with_reducible exact List.mem_cons_of_mem _ (List.mem_cons_of_mem _ List.mem_cons_self) | with_reducible exact List.mem_cons_of_mem _ (List.mem_cons_of_mem _ (List.mem_cons_of_mem _ List.mem_cons_self)) | with_reducible exact List.mem_cons_of_mem _ (List.mem_cons_of_mem _ (List.mem_cons_of_mem _ (List.mem_cons_of_mem _ List.mem_cons_self))))
    have z0 := cc 0 _ rfl
    have z1 := cc 1 _ rfl
    have z2 := cc 2 _ rfl
    have z3 := cc 3 _ rfl
    have z4 := cc 4 _ rfl
    have z5 := cc 5 _ rfl
    clear cc hv hG hR hAF hAW hAN HL0 hF' hs HFi HFin HS0 g9 hf
    go_enter Try.func8, Try.ntmps8
    go_wp2_with fail
    rw [HA.out]
    refine HSZ.out.mono ?_
    rintro e w1 ⟨rfl, b1⟩
    have HB1 := hide (HB.out.trans (b1.mono HB.out.size))
    clear b1
    go_wp2_with fail
    go_ret
    exact ⟨rfl, HB1.out⟩
  have hwt : F.wt ≤ 1048576 := by omega
  have hge : ¬ szV 1048576 F.wt < 0 := by rw [szV_ge g9]; omega
  have hAW' := hAW hwt
  have hbF := Fit.bounds (M := 8) hEM F _ hf
  have hbA := Fit.bounds (M := 8) hEM AN _ hAF
  have HTo : Hid (∀ V, F.Subs V (fun c => c < V.heap.size) → Calls Try.prog 41 #[.agg #[.int .i64 x0, .slice a1 n1 c1, .int .i64 x2, .int .i64 x3, .string x4, .slice a5 n5 c5]] V fun e w' => ∃ (d1 d5 : Option Addr) (e1 e5 : Nat) (G : Fo), e = .returned (.agg #[.int .i64 x0, .slice d1 n1 e1, .int .i64 x2, .int .i64 x3, .string x4, .slice d5 n5 e5]) ∧ Hid (G.vals = [.int .i64 x0, .slice d1 n1 e1, .int .i64 x2, .int .i64 x3, .string x4, .slice d5 n5 e5] ∧ G.sim F ∧ Own V.heap.size w' G) ∧ Hid (Below V.heap.size V w')) := fun V hV => by
    have h1 := to_C_Scheme F.size F V.heap.size V (Nat.le_refl _) HFi.out (Nat.le_refl _) hwt hV
    rw [hv] at h1
    refine h1.mono ?_
    rintro e w' ⟨G, rfl, g1, g2, g3⟩
    obtain ⟨d1, d5, e1, e5, g4⟩ := hG G g1
    exact ⟨d1, d5, e1, e5, G, by rw [g4], ⟨g4, g1, g3⟩, g2⟩
  have HMo : Hid (∀ V (d1 d5 : Option Addr) (e1 e5 : Nat) (G : Fo) (lo : Nat), Hid (G.vals = [.int .i64 x0, .slice d1 n1 e1, .int .i64 x2, .int .i64 x3, .string x4, .slice d5 n5 e5] ∧ G.sim F ∧ Own lo V G) → Calls Try.prog 40 #[.agg #[.int .i64 x0, .slice d1 n1 e1, .int .i64 x2, .int .i64 x3, .string x4, .slice d5 n5 e5], .int .i64 f] V fun e w' => ∃ (p3 : Option Addr) (q3 : Nat) (R : Fo), e = .returned (.agg #[.int .i64 y0, .int .i64 y1, .string y2, .slice p3 ym3 q3]) ∧ Hid (R.vals = [.int .i64 y0, .int .i64 y1, .string y2, .slice p3 ym3 q3] ∧ R.sim AN ∧ R.Subs w' (fun c => c < w'.heap.size)) ∧ Hid (Below V.heap.size V w')) := fun V d1 d5 e1 e5 G lo h => by
    obtain ⟨g4, g1, g3⟩ := h.out
    have h1 := m_Open G f V.heap.size V (g1.fit HFi.out) (Nat.le_refl _) (by rw [g1.wt]; exact hwt) (g3.subs.mono (fun _ x => x.2))
    rw [g4] at h1
    refine h1.mono ?_
    rintro e w' ⟨R, rfl, r1, r2, r3⟩
    have r5 : R.sim AN := by rw [hAN]; exact r1.trans (oU_sim HFi.out g1)
    obtain ⟨p3, q3, r4⟩ := hR R r5
    exact ⟨p3, q3, R, by rw [r4], ⟨r4, r5, r3⟩, r2⟩
  have HPr : Hid (∀ V (d1 d5 : Option Addr) (e1 e5 : Nat) (G : Fo) (lo : Nat), Hid (G.vals = [.int .i64 x0, .slice d1 n1 e1, .int .i64 x2, .int .i64 x3, .string x4, .slice d5 n5 e5] ∧ G.sim F ∧ Own lo V G) → Calls Try.prog 42 #[.agg #[.int .i64 x0, .slice d1 n1 e1, .int .i64 x2, .int .i64 x3, .string x4, .slice d5 n5 e5], .int .i64 f] V fun e w' => ∃ (p3 : Option Addr) (q3 : Nat) (R : Fo), e = .returned (.agg #[.int .i64 y0, .int .i64 y1, .string y2, .slice p3 ym3 q3]) ∧ Hid (R.vals = [.int .i64 y0, .int .i64 y1, .string y2, .slice p3 ym3 q3] ∧ R.sim AN ∧ Own V.heap.size w' R) ∧ Hid (Below V.heap.size V w')) := fun V d1 d5 e1 e5 G lo h => by
    obtain ⟨g4, g1, g3⟩ := h.out
    have h1 := i_Open G f V.heap.size V (g1.fit HFi.out) (Nat.le_refl _) (by rw [g1.wt]; exact hwt) (g3.subs.mono (fun _ x => x.2))
    rw [g4] at h1
    refine h1.mono ?_
    rintro e w' ⟨R, rfl, r1, r2, r3⟩
    have r5 : R.sim AN := by rw [hAN]; exact r1.trans (oU_sim HFi.out g1)
    obtain ⟨p3, q3, r4⟩ := hR R r5
    exact ⟨p3, q3, R, by rw [r4], ⟨r4, r5, r3⟩, r2⟩
  have HEr : Hid (∀ V (d3 : Option Addr) (e3 : Nat) (p3 : Option Addr) (q3 : Nat) (Q R : Fo), Hid (Q.vals = [.int .i64 y0, .int .i64 y1, .string y2, .slice d3 ym3 e3] ∧ Q.sim AN ∧ Q.Subs V (fun c => c < V.heap.size)) → Hid (R.vals = [.int .i64 y0, .int .i64 y1, .string y2, .slice p3 ym3 q3] ∧ R.sim AN ∧ R.Subs V (fun c => c < V.heap.size)) → Calls Try.prog 13 #[.agg #[.int .i64 y0, .int .i64 y1, .string y2, .slice d3 ym3 e3], .agg #[.int .i64 y0, .int .i64 y1, .string y2, .slice p3 ym3 q3]] V fun e w' => e = .returned (.bool true) ∧ Hid (Below V.heap.size V w')) := fun V d3 e3 p3 q3 Q R h h2 => by
    have h1 := eq_C_Type_all Q.size Q R V.heap.size V (Nat.le_refl _) (h.out.2.1.fit hAF) (Nat.le_refl _) (h2.out.2.1.trans h.out.2.1.symm) h.out.2.2 h2.out.2.2
    rw [h.out.1, h2.out.1] at h1
    exact h1
  have HEa : Hid (∀ V (d1 d5 : Option Addr) (e1 e5 : Nat) (p1 p5 : Option Addr) (q1 q5 : Nat) (Q R : Fo), Hid (Q.vals = [.int .i64 x0, .slice d1 n1 e1, .int .i64 x2, .int .i64 x3, .string x4, .slice d5 n5 e5] ∧ Q.sim F ∧ Q.Subs V (fun c => c < V.heap.size)) → Hid (R.vals = [.int .i64 x0, .slice p1 n1 q1, .int .i64 x2, .int .i64 x3, .string x4, .slice p5 n5 q5] ∧ R.sim F ∧ R.Subs V (fun c => c < V.heap.size)) → Calls Try.prog 34 #[.agg #[.int .i64 x0, .slice d1 n1 e1, .int .i64 x2, .int .i64 x3, .string x4, .slice d5 n5 e5], .agg #[.int .i64 x0, .slice p1 n1 q1, .int .i64 x2, .int .i64 x3, .string x4, .slice p5 n5 q5]] V fun e w' => e = .returned (.bool true) ∧ Hid (Below V.heap.size V w')) := fun V d1 d5 e1 e5 p1 p5 q1 q5 Q R h h2 => by
    have h1 := eq_C_Scheme Q.size Q R V.heap.size V (Nat.le_refl _) (h.out.2.1.fit HFi.out) (Nat.le_refl _) (h2.out.2.1.trans h.out.2.1.symm) h.out.2.2 h2.out.2.2
    rw [h.out.1, h2.out.1] at h1
    exact h1
  obtain ⟨KA, hKA⟩ : ∃ KA : Nat, 1 + F.sct = KA := ⟨_, rfl⟩
  obtain ⟨KR, hKR⟩ : ∃ KR : Nat, 1 + AN.sct = KR := ⟨_, rfl⟩
  have hka : ¬ (KA : Int) < 0 := by omega
  have hkr : ¬ (KR : Int) < 0 := by omega
  have HMa : Hid (∀ V (d1 d5 : Option Addr) (e1 e5 : Nat) (G : Fo) (lo : Nat), G.vals = [.int .i64 x0, .slice d1 n1 e1, .int .i64 x2, .int .i64 x3, .string x4, .slice d5 n5 e5] → G.sim F → Own lo V G → Calls Try.prog 37 #[.agg #[.int .i64 x0, .slice d1 n1 e1, .int .i64 x2, .int .i64 x3, .string x4, .slice d5 n5 e5], .int .i64 1] V fun e w' => e = .returned (.int .i64 (KA : Int)) ∧ Hid (Kept (fun c => c ∉ G.inn) V w')) := fun V d1 d5 e1 e5 G lo g4 g1 g3 => by
    have h1 := mk_C_Scheme (G.size + 1) G 1 V (Nat.lt_succ_self _) (g1.fit HFi.out) (by omega) (by rw [g1.sct]; omega) (g3.subs.mono (fun _ x => x.2)) g3.nodup g3.live
    rw [g4, g1.sct, hKA] at h1
    exact h1.mono (fun e w' h => ⟨h.1, h.2.2.1⟩)
  have HMr : Hid (∀ V (d3 : Option Addr) (e3 : Nat) (G : Fo) (lo : Nat), Hid (G.vals = [.int .i64 y0, .int .i64 y1, .string y2, .slice d3 ym3 e3] ∧ G.sim AN ∧ Own lo V G) → Calls Try.prog 19 #[.agg #[.int .i64 y0, .int .i64 y1, .string y2, .slice d3 ym3 e3], .int .i64 1] V fun e w' => e = .returned (.int .i64 (KR : Int)) ∧ Hid ((G.mks 1).Subs w' (fun c => c < w'.heap.size)) ∧ Hid (Kept (fun c => c ∉ G.inn) V w')) := fun V d3 e3 G lo h => by
    obtain ⟨g4, g1, g3⟩ := h.out
    have h1 := mk_C_Type (G.size + 1) G 1 V (Nat.lt_succ_self _) (g1.fit hAF) (by omega) (by rw [g1.sct]; omega) (g3.subs.mono (fun _ x => x.2)) g3.nodup g3.live
    rw [g4, g1.sct, hKR] at h1
    exact h1.mono (fun e w' h => ⟨h.1, h.2.1.mono (fun c hc => Nat.lt_of_lt_of_le hc h.2.2.1.size), h.2.2.1⟩)
  have HHr : Hid (∀ V (d3 : Option Addr) (e3 : Nat) (G : Fo), G.vals = [.int .i64 y0, .int .i64 y1, .string y2, .slice d3 ym3 e3] → G.sim AN → (G.mks 1).Subs V (fun c => c < V.heap.size) → Calls Try.prog 28 #[.agg #[.int .i64 y0, .int .i64 y1, .string y2, .slice d3 ym3 e3], .int .i64 1] V fun e w' => e = .returned (.int .i64 (KR : Int)) ∧ Hid (Below V.heap.size V w')) := fun V d3 e3 G g4 g1 g3 => by
    have h1 := hd_C_Type (G.size + 1) G V.heap.size 1 V (Nat.lt_succ_self _) (g1.fit hAF) (Nat.le_refl _) (by omega) (by rw [g1.sct]; omega) g3
    rw [g4, g1.sct, hKR] at h1
    exact h1
  generalize szV 1048576 F.wt = SZ at HSZ hge HS0
  have cc := HL0.out.cell W.heap.size _ (by first | with_reducible exact List.mem_cons_self | with_reducible exact List.mem_cons_of_mem _ List.mem_cons_self | with_reducible exact List.mem_cons_of_mem _ (List.mem_cons_of_mem _ List.mem_cons_self) | with_reducible exact List.mem_cons_of_mem _ (List.mem_cons_of_mem _ (List.mem_cons_of_mem _ List.mem_cons_self)) | with_reducible exact List.mem_cons_of_mem _ (List.mem_cons_of_mem _ (List.mem_cons_of_mem _ (List.mem_cons_of_mem _ List.mem_cons_self))))
  have z0 := cc 0 _ rfl
  have z1 := cc 1 _ rfl
  have z2 := cc 2 _ rfl
  have z3 := cc 3 _ rfl
  have z4 := cc 4 _ rfl
  have z5 := cc 5 _ rfl
  clear cc hv hG hR hAF hAW hAW' hAN hF' hs HFi HS0 hf hbF hbA hwt  g9 hKA hKR
  go_enter Try.func8, Try.ntmps8
  go_wp2_with fail
  rw [HA.out]
  clear HA
  refine HSZ.out.mono ?_
  rintro e w1 ⟨rfl, b1⟩
  have HL1 := hide (HL0.out.below b1)
  clear b1 HSZ HL0 z0 z1 z2 z3 z4 z5
  have cc := HL1.out.cell W.heap.size _ (by first | with_reducible exact List.mem_cons_self | with_reducible exact List.mem_cons_of_mem _ List.mem_cons_self | with_reducible exact List.mem_cons_of_mem _ (List.mem_cons_of_mem _ List.mem_cons_self) | with_reducible exact List.mem_cons_of_mem _ (List.mem_cons_of_mem _ (List.mem_cons_of_mem _ List.mem_cons_self)) | with_reducible exact List.mem_cons_of_mem _ (List.mem_cons_of_mem _ (List.mem_cons_of_mem _ (List.mem_cons_of_mem _ List.mem_cons_self))))
  have z0 := cc 0 _ rfl
  have z1 := cc 1 _ rfl
  have z2 := cc 2 _ rfl
  have z3 := cc 3 _ rfl
  have z4 := cc 4 _ rfl
  have z5 := cc 5 _ rfl
  clear cc
  go_wp2_with fail
  refine (HTo.out w1 (HL1.out.fo F (by simp))).mono ?_
  rintro e w2 ⟨da1, da5, ea1, ea5, G1, rfl, g1, b2⟩
  have HL2 := hide (HL1.out.below b2.out)
  have HM1 := hide (HMo.out w2 da1 da5 ea1 ea5 G1 _ g1)
  clear HL1 b2 g1 HMo z0 z1 z2 z3 z4 z5
  go_wp2_with fail
  refine HM1.out.mono ?_
  rintro e w3 ⟨pa3, qa3, R0, rfl, r0, b3⟩
  obtain ⟨V3, hV3⟩ : ∃ V3, w3.alloc (.cells #[.int .i64 y0, .int .i64 y1, .string y2, .slice pa3 ym3 qa3] 29) = V3 := ⟨_, rfl⟩
  have HL3 : Hid (Law W [(w3.heap.size, [.int .i64 y0, .int .i64 y1, .string y2, .slice pa3 ym3 qa3]), (W.heap.size, [.int .i64 x0, .slice a1 n1 c1, .int .i64 x2, .int .i64 x3, .string x4, .slice a5 n5 c5])] [R0, F] [] V3) := by unfold Hid; rw [← hV3]; exact ((HL2.out.below b3.out).add r0.out.2.2).box _ _
  have HR0 : Hid (R0.vals = [.int .i64 y0, .int .i64 y1, .string y2, .slice pa3 ym3 qa3] ∧ R0.sim AN ∧ ∀ c ∈ R0.inn, c < w3.heap.size) := ⟨r0.out.1, r0.out.2.1, r0.out.2.2.inn_of⟩
  have HZ3 : Hid (V3.heap.size = w3.heap.size + 1 ∧ W.heap.size < w3.heap.size) := ⟨by rw [← hV3]; simp, (HL2.out.below b3.out).lt W.heap.size _ (by first | with_reducible exact List.mem_cons_self | with_reducible exact List.mem_cons_of_mem _ List.mem_cons_self | with_reducible exact List.mem_cons_of_mem _ (List.mem_cons_of_mem _ List.mem_cons_self) | with_reducible exact List.mem_cons_of_mem _ (List.mem_cons_of_mem _ (List.mem_cons_of_mem _ List.mem_cons_self)) | with_reducible exact List.mem_cons_of_mem _ (List.mem_cons_of_mem _ (List.mem_cons_of_mem _ (List.mem_cons_of_mem _ List.mem_cons_self))))⟩
  have HV3 := hide hV3
  clear HM1 HL2 r0 b3 hV3
  go_upto_region 6 with fail
  rw [HV3.out]
  clear HV3
  have cc := HL3.out.cell W.heap.size _ (by first | with_reducible exact List.mem_cons_self | with_reducible exact List.mem_cons_of_mem _ List.mem_cons_self | with_reducible exact List.mem_cons_of_mem _ (List.mem_cons_of_mem _ List.mem_cons_self) | with_reducible exact List.mem_cons_of_mem _ (List.mem_cons_of_mem _ (List.mem_cons_of_mem _ List.mem_cons_self)) | with_reducible exact List.mem_cons_of_mem _ (List.mem_cons_of_mem _ (List.mem_cons_of_mem _ (List.mem_cons_of_mem _ List.mem_cons_self))))
  have z0 := cc 0 _ rfl
  have z1 := cc 1 _ rfl
  have z2 := cc 2 _ rfl
  have z3 := cc 3 _ rfl
  have z4 := cc 4 _ rfl
  have z5 := cc 5 _ rfl
  clear cc
  go_wp2_with fail
  refine (HTo.out V3 (HL3.out.fo F (by simp))).mono ?_
  rintro e w4 ⟨db1, db5, eb1, eb5, G2, rfl, g2, b4⟩
  obtain ⟨V4, hV4⟩ : ∃ V4, w4.alloc (.cells #[.int .i64 x0, .slice db1 n1 eb1, .int .i64 x2, .int .i64 x3, .string x4, .slice db5 n5 eb5] 51) = V4 := ⟨_, rfl⟩
  have HL4 : Hid (Law W [(w4.heap.size, [.int .i64 x0, .slice db1 n1 eb1, .int .i64 x2, .int .i64 x3, .string x4, .slice db5 n5 eb5]), (w3.heap.size, [.int .i64 y0, .int .i64 y1, .string y2, .slice pa3 ym3 qa3]), (W.heap.size, [.int .i64 x0, .slice a1 n1 c1, .int .i64 x2, .int .i64 x3, .string x4, .slice a5 n5 c5])] [G2, R0, F] [(V3.heap.size, G2)] V4) := by unfold Hid; rw [← hV4]; exact ((HL3.out.below b4.out).adds g2.out.2.2).box _ _
  have HG2 : Hid (G2.vals = [.int .i64 x0, .slice db1 n1 eb1, .int .i64 x2, .int .i64 x3, .string x4, .slice db5 n5 eb5] ∧ G2.sim F ∧ ∀ c ∈ G2.inn, V3.heap.size ≤ c ∧ c < w4.heap.size) := ⟨g2.out.1, g2.out.2.1, g2.out.2.2.subs.inn_of⟩
  have HZ4 : Hid (V4.heap.size = w4.heap.size + 1 ∧ V3.heap.size ≤ w4.heap.size) := ⟨by rw [← hV4]; simp, b4.out.size⟩
  have HV4 := hide hV4
  clear HL3 g2 b4 hV4 z0 z1 z2 z3 z4 z5
  go_upto_region 7 with fail
  rw [HV4.out]
  clear HV4
  have cc := HL4.out.cell w4.heap.size _ (by first | with_reducible exact List.mem_cons_self | with_reducible exact List.mem_cons_of_mem _ List.mem_cons_self | with_reducible exact List.mem_cons_of_mem _ (List.mem_cons_of_mem _ List.mem_cons_self) | with_reducible exact List.mem_cons_of_mem _ (List.mem_cons_of_mem _ (List.mem_cons_of_mem _ List.mem_cons_self)) | with_reducible exact List.mem_cons_of_mem _ (List.mem_cons_of_mem _ (List.mem_cons_of_mem _ (List.mem_cons_of_mem _ List.mem_cons_self))))
  have z0 := cc 0 _ rfl
  have z1 := cc 1 _ rfl
  have z2 := cc 2 _ rfl
  have z3 := cc 3 _ rfl
  have z4 := cc 4 _ rfl
  have z5 := cc 5 _ rfl
  clear cc
  have HP1 := hide (HPr.out V4 db1 db5 eb1 eb5 G2 _ ⟨HG2.out.1, HG2.out.2.1, HL4.out.ow (_, G2) (by first | with_reducible exact List.mem_cons_self | with_reducible exact List.mem_cons_of_mem _ List.mem_cons_self | with_reducible exact List.mem_cons_of_mem _ (List.mem_cons_of_mem _ List.mem_cons_self) | with_reducible exact List.mem_cons_of_mem _ (List.mem_cons_of_mem _ (List.mem_cons_of_mem _ List.mem_cons_self)) | with_reducible exact List.mem_cons_of_mem _ (List.mem_cons_of_mem _ (List.mem_cons_of_mem _ (List.mem_cons_of_mem _ List.mem_cons_self))))⟩)
  go_wp2_with fail
  refine HP1.out.mono ?_
  rintro e w5 ⟨pb3, qb3, R1, rfl, r1, b5⟩
  obtain ⟨V5, hV5⟩ : ∃ V5, w5.alloc (.cells #[.int .i64 y0, .int .i64 y1, .string y2, .slice pb3 ym3 qb3] 29) = V5 := ⟨_, rfl⟩
  have HL5 : Hid (Law W [(w5.heap.size, [.int .i64 y0, .int .i64 y1, .string y2, .slice pb3 ym3 qb3]), (w4.heap.size, [.int .i64 x0, .slice db1 n1 eb1, .int .i64 x2, .int .i64 x3, .string x4, .slice db5 n5 eb5]), (w3.heap.size, [.int .i64 y0, .int .i64 y1, .string y2, .slice pa3 ym3 qa3]), (W.heap.size, [.int .i64 x0, .slice a1 n1 c1, .int .i64 x2, .int .i64 x3, .string x4, .slice a5 n5 c5])] [R1, G2, R0, F] [(V4.heap.size, R1), (V3.heap.size, G2)] V5) := by unfold Hid; rw [← hV5]; exact ((HL4.out.below b5.out).adds r1.out.2.2).box _ _
  have HR1 : Hid (R1.vals = [.int .i64 y0, .int .i64 y1, .string y2, .slice pb3 ym3 qb3] ∧ R1.sim AN ∧ ∀ c ∈ R1.inn, V4.heap.size ≤ c ∧ c < w5.heap.size) := ⟨r1.out.1, r1.out.2.1, r1.out.2.2.subs.inn_of⟩
  have HZ5 : Hid (V5.heap.size = w5.heap.size + 1 ∧ V4.heap.size ≤ w5.heap.size) := ⟨by rw [← hV5]; simp, b5.out.size⟩
  have HV5 := hide hV5
  clear HP1 HL4 r1 b5 hV5 z0 z1 z2 z3 z4 z5
  go_upto_region 8 with fail
  rw [HV5.out]
  clear HV5
  have cc := HL5.out.cell w5.heap.size _ (by first | with_reducible exact List.mem_cons_self | with_reducible exact List.mem_cons_of_mem _ List.mem_cons_self | with_reducible exact List.mem_cons_of_mem _ (List.mem_cons_of_mem _ List.mem_cons_self) | with_reducible exact List.mem_cons_of_mem _ (List.mem_cons_of_mem _ (List.mem_cons_of_mem _ List.mem_cons_self)) | with_reducible exact List.mem_cons_of_mem _ (List.mem_cons_of_mem _ (List.mem_cons_of_mem _ (List.mem_cons_of_mem _ List.mem_cons_self))))
  have z0 := cc 0 _ rfl
  have z1 := cc 1 _ rfl
  have z2 := cc 2 _ rfl
  have z3 := cc 3 _ rfl
  clear cc
  have cc := HL5.out.cell w3.heap.size _ (by first | with_reducible exact List.mem_cons_self | with_reducible exact List.mem_cons_of_mem _ List.mem_cons_self | with_reducible exact List.mem_cons_of_mem _ (List.mem_cons_of_mem _ List.mem_cons_self) | with_reducible exact List.mem_cons_of_mem _ (List.mem_cons_of_mem _ (List.mem_cons_of_mem _ List.mem_cons_self)) | with_reducible exact List.mem_cons_of_mem _ (List.mem_cons_of_mem _ (List.mem_cons_of_mem _ (List.mem_cons_of_mem _ List.mem_cons_self))))
  have u0 := cc 0 _ rfl
  have u1 := cc 1 _ rfl
  have u2 := cc 2 _ rfl
  have u3 := cc 3 _ rfl
  clear cc
  have HE1 := hide (HEr.out V5 pb3 qb3 pa3 qa3 R1 R0 ⟨HR1.out.1, HR1.out.2.1, HL5.out.fo R1 (by simp)⟩ ⟨HR0.out.1, HR0.out.2.1, HL5.out.fo R0 (by simp)⟩)
  go_wp2_with fail
  refine HE1.out.mono ?_
  rintro e w6 ⟨rfl, b6⟩
  have HL6 := hide (HL5.out.below b6.out)
  clear HE1 HL5 b6 z0 u0 z1 u1 z2 u2 z3 u3
  go_upto_region 10 with fail
  have cc := HL6.out.cell W.heap.size _ (by first | with_reducible exact List.mem_cons_self | with_reducible exact List.mem_cons_of_mem _ List.mem_cons_self | with_reducible exact List.mem_cons_of_mem _ (List.mem_cons_of_mem _ List.mem_cons_self) | with_reducible exact List.mem_cons_of_mem _ (List.mem_cons_of_mem _ (List.mem_cons_of_mem _ List.mem_cons_self)) | with_reducible exact List.mem_cons_of_mem _ (List.mem_cons_of_mem _ (List.mem_cons_of_mem _ (List.mem_cons_of_mem _ List.mem_cons_self))))
  have z0 := cc 0 _ rfl
  have z1 := cc 1 _ rfl
  have z2 := cc 2 _ rfl
  have z3 := cc 3 _ rfl
  have z4 := cc 4 _ rfl
  have z5 := cc 5 _ rfl
  clear cc
  have cc := HL6.out.cell w4.heap.size _ (by first | with_reducible exact List.mem_cons_self | with_reducible exact List.mem_cons_of_mem _ List.mem_cons_self | with_reducible exact List.mem_cons_of_mem _ (List.mem_cons_of_mem _ List.mem_cons_self) | with_reducible exact List.mem_cons_of_mem _ (List.mem_cons_of_mem _ (List.mem_cons_of_mem _ List.mem_cons_self)) | with_reducible exact List.mem_cons_of_mem _ (List.mem_cons_of_mem _ (List.mem_cons_of_mem _ (List.mem_cons_of_mem _ List.mem_cons_self))))
  have u0 := cc 0 _ rfl
  have u1 := cc 1 _ rfl
  have u2 := cc 2 _ rfl
  have u3 := cc 3 _ rfl
  have u4 := cc 4 _ rfl
  have u5 := cc 5 _ rfl
  clear cc
  have HSQ : Hid (∀ V, Below w6.heap.size w6 V → V.cell? ⟨W.heap.size, 0, none⟩ = some (.int .i64 x0) ∧ V.cell? ⟨W.heap.size, 1, none⟩ = some (.slice a1 n1 c1) ∧ V.cell? ⟨W.heap.size, 2, none⟩ = some (.int .i64 x2) ∧ V.cell? ⟨W.heap.size, 3, none⟩ = some (.int .i64 x3) ∧ V.cell? ⟨W.heap.size, 4, none⟩ = some (.string x4) ∧ V.cell? ⟨W.heap.size, 5, none⟩ = some (.slice a5 n5 c5) ∧ V.cell? ⟨w4.heap.size, 0, none⟩ = some (.int .i64 x0) ∧ V.cell? ⟨w4.heap.size, 1, none⟩ = some (.slice db1 n1 eb1) ∧ V.cell? ⟨w4.heap.size, 2, none⟩ = some (.int .i64 x2) ∧ V.cell? ⟨w4.heap.size, 3, none⟩ = some (.int .i64 x3) ∧ V.cell? ⟨w4.heap.size, 4, none⟩ = some (.string x4) ∧ V.cell? ⟨w4.heap.size, 5, none⟩ = some (.slice db5 n5 eb5)) := fun V hb => by
    have hl := HL6.out.below hb
    have cz := hl.cell W.heap.size _ (by first | with_reducible exact List.mem_cons_self | with_reducible exact List.mem_cons_of_mem _ List.mem_cons_self | with_reducible exact List.mem_cons_of_mem _ (List.mem_cons_of_mem _ List.mem_cons_self) | with_reducible exact List.mem_cons_of_mem _ (List.mem_cons_of_mem _ (List.mem_cons_of_mem _ List.mem_cons_self)) | with_reducible exact List.mem_cons_of_mem _ (List.mem_cons_of_mem _ (List.mem_cons_of_mem _ (List.mem_cons_of_mem _ List.mem_cons_self))))
    have cu := hl.cell w4.heap.size _ (by first | with_reducible exact List.mem_cons_self | with_reducible exact List.mem_cons_of_mem _ List.mem_cons_self | with_reducible exact List.mem_cons_of_mem _ (List.mem_cons_of_mem _ List.mem_cons_self) | with_reducible exact List.mem_cons_of_mem _ (List.mem_cons_of_mem _ (List.mem_cons_of_mem _ List.mem_cons_self)) | with_reducible exact List.mem_cons_of_mem _ (List.mem_cons_of_mem _ (List.mem_cons_of_mem _ (List.mem_cons_of_mem _ List.mem_cons_self))))
    exact ⟨cz 0 _ rfl, cz 1 _ rfl, cz 2 _ rfl, cz 3 _ rfl, cz 4 _ rfl, cz 5 _ rfl, cu 0 _ rfl, cu 1 _ rfl, cu 2 _ rfl, cu 3 _ rfl, cu 4 _ rfl, cu 5 _ rfl⟩
  have HDR : Hid (Below w6.heap.size w6 w6.drew) := (Below.refl _ _).drew
  have k0' := HSQ.out w6.drew HDR.out
  have HT6 : Hid (Calls Try.prog 41 #[.agg #[.int .i64 x0, .slice a1 n1 c1, .int .i64 x2, .int .i64 x3, .string x4, .slice a5 n5 c5]] w6.drew fun e w' => ∃ (d1 d5 : Option Addr) (e1 e5 : Nat) (G : Fo), e = .returned (.agg #[.int .i64 x0, .slice d1 n1 e1, .int .i64 x2, .int .i64 x3, .string x4, .slice d5 n5 e5]) ∧ Hid (G.vals = [.int .i64 x0, .slice d1 n1 e1, .int .i64 x2, .int .i64 x3, .string x4, .slice d5 n5 e5] ∧ G.sim F ∧ G.Subs w' (fun c => c < w'.heap.size)) ∧ Hid (Below w6.heap.size w6 w')) := (HTo.out w6.drew ((HL6.out.below HDR.out).fo F (by simp))).mono (by
    rintro e w' ⟨d1, d5, e1, e5, G, g1, g2, g3⟩
    exact ⟨d1, d5, e1, e5, G, g1, ⟨g2.out.1, g2.out.2.1, g2.out.2.2.subs.mono (fun _ x => x.2)⟩, HDR.out.trans g3.out⟩)
  have HE6 : Hid (∀ w8 (d1 d5 : Option Addr) (e1 e5 : Nat) (G : Fo), Hid (G.vals = [.int .i64 x0, .slice d1 n1 e1, .int .i64 x2, .int .i64 x3, .string x4, .slice d5 n5 e5] ∧ G.sim F ∧ G.Subs w8 (fun c => c < w8.heap.size)) → Hid (Below w6.heap.size w6 w8) → Calls Try.prog 34 #[.agg #[.int .i64 x0, .slice db1 n1 eb1, .int .i64 x2, .int .i64 x3, .string x4, .slice db5 n5 eb5], .agg #[.int .i64 x0, .slice d1 n1 e1, .int .i64 x2, .int .i64 x3, .string x4, .slice d5 n5 e5]] w8 fun e w' => e = .returned (.bool true) ∧ Hid (Below w6.heap.size w6 w')) := fun w8 d1 d5 e1 e5 G hg hb => (HEa.out w8 db1 db5 eb1 eb5 d1 d5 e1 e5 G2 G ⟨HG2.out.1, HG2.out.2.1, (HL6.out.below hb.out).fo G2 (by simp)⟩ hg).mono (fun e w' h => ⟨h.1, hb.out.trans (h.2.out.mono hb.out.size)⟩)
  go_cut [35] (fun s wx => s = .bool false ∧ Below w6.heap.size w6 wx)
  case first =>
    go_region_held3 (fun V => V.cell? ⟨W.heap.size, 0, none⟩ = some (.int .i64 x0) ∧ V.cell? ⟨W.heap.size, 1, none⟩ = some (.slice a1 n1 c1) ∧ V.cell? ⟨W.heap.size, 2, none⟩ = some (.int .i64 x2) ∧ V.cell? ⟨W.heap.size, 3, none⟩ = some (.int .i64 x3) ∧ V.cell? ⟨W.heap.size, 4, none⟩ = some (.string x4) ∧ V.cell? ⟨W.heap.size, 5, none⟩ = some (.slice a5 n5 c5) ∧ V.cell? ⟨w4.heap.size, 0, none⟩ = some (.int .i64 x0) ∧ V.cell? ⟨w4.heap.size, 1, none⟩ = some (.slice db1 n1 eb1) ∧ V.cell? ⟨w4.heap.size, 2, none⟩ = some (.int .i64 x2) ∧ V.cell? ⟨w4.heap.size, 3, none⟩ = some (.int .i64 x3) ∧ V.cell? ⟨w4.heap.size, 4, none⟩ = some (.string x4) ∧ V.cell? ⟨w4.heap.size, 5, none⟩ = some (.slice db5 n5 eb5))
      (first | with_reducible exact k9' | with_reducible exact k8' | with_reducible exact k0')
      (first
        | (go_at_call 41; refine HT6.out.mono ?_; rintro e w8 ⟨dc1, dc5, ec1, ec5, G3, rfl, g3, b8⟩; have k8' := HSQ.out w8 b8.out)
        | (go_at_call 34; refine (HE6.out w8 dc1 dc5 ec1 ec5 G3 g3 b8).mono ?_; rintro e w9 ⟨rfl, b9⟩; have k9' := HSQ.out w9 b9.out))
    all_goals
      go_wp2_with fail
      go_meet
      case rel => exact ⟨rfl, b9.out⟩
  case rest =>
    obtain ⟨rfl, hcb⟩ := hcut
    rename World => w9
    have HL9 := hide (HL6.out.below hcb)
    clear hcb HL6 HSQ HDR HT6 HE6 k0' z0 u0 z1 u1 z2 u2 z3 u3 z4 u4 z5 u5
    have cc := HL9.out.cell w4.heap.size _ (by first | with_reducible exact List.mem_cons_self | with_reducible exact List.mem_cons_of_mem _ List.mem_cons_self | with_reducible exact List.mem_cons_of_mem _ (List.mem_cons_of_mem _ List.mem_cons_self) | with_reducible exact List.mem_cons_of_mem _ (List.mem_cons_of_mem _ (List.mem_cons_of_mem _ List.mem_cons_self)) | with_reducible exact List.mem_cons_of_mem _ (List.mem_cons_of_mem _ (List.mem_cons_of_mem _ (List.mem_cons_of_mem _ List.mem_cons_self))))
    have z0 := cc 0 _ rfl
    have z1 := cc 1 _ rfl
    have z2 := cc 2 _ rfl
    have z3 := cc 3 _ rfl
    have z4 := cc 4 _ rfl
    have z5 := cc 5 _ rfl
    clear cc
    have HM9 := hide (HMa.out w9 db1 db5 eb1 eb5 G2 _ HG2.out.1 HG2.out.2.1 (HL9.out.ow (_, G2) (by first | with_reducible exact List.mem_cons_self | with_reducible exact List.mem_cons_of_mem _ List.mem_cons_self | with_reducible exact List.mem_cons_of_mem _ (List.mem_cons_of_mem _ List.mem_cons_self) | with_reducible exact List.mem_cons_of_mem _ (List.mem_cons_of_mem _ (List.mem_cons_of_mem _ List.mem_cons_self)) | with_reducible exact List.mem_cons_of_mem _ (List.mem_cons_of_mem _ (List.mem_cons_of_mem _ (List.mem_cons_of_mem _ List.mem_cons_self))))))
    go_wp2_with fail
    refine HM9.out.mono ?_
    rintro e w10 ⟨rfl, k10⟩
    have HLA : Hid (Law W [(w5.heap.size, [.int .i64 y0, .int .i64 y1, .string y2, .slice pb3 ym3 qb3]), (w4.heap.size, [.int .i64 x0, .slice db1 n1 eb1, .int .i64 x2, .int .i64 x3, .string x4, .slice db5 n5 eb5]), (w3.heap.size, [.int .i64 y0, .int .i64 y1, .string y2, .slice pa3 ym3 qa3]), (W.heap.size, [.int .i64 x0, .slice a1 n1 c1, .int .i64 x2, .int .i64 x3, .string x4, .slice a5 n5 c5])] [R1, R0, F] [(V4.heap.size, R1)] w10) := by
      have h2 := HG2.out.2.2
      have h0 := HR0.out.2.2
      have h1 := HR1.out.2.2
      have hF := HFin.out
      have z3 := HZ3.out
      have z4 := HZ4.out
      have z5 := HZ5.out
      refine (HL9.out.drop (fun _ x => x) (by simp) (by simp)).kept k10.out (fun c hc hx => by have := h2 c hx; omega) (allc (fun hx => by have := h2 _ hx; omega) (allc (fun hx => by have := h2 _ hx; omega) (allc (fun hx => by have := h2 _ hx; omega) (all1 (fun hx => by have := h2 _ hx; omega))))) (allc (fun c hc hx => by have := h2 _ hx; have := h1 _ hc; omega) (allc (fun c hc hx => by have := h2 _ hx; have := h0 _ hc; omega) (all1 (fun c hc hx => by have := h2 _ hx; have := hF _ hc; omega)))) (all1 (fun c hc _ hx => by have := h2 _ hx; omega))
    clear HM9 HL9 k10 z0 z1 z2 z3 z4 z5
    go_upto_region 14 with fail
    have cc := HLA.out.cell w5.heap.size _ (by first | with_reducible exact List.mem_cons_self | with_reducible exact List.mem_cons_of_mem _ List.mem_cons_self | with_reducible exact List.mem_cons_of_mem _ (List.mem_cons_of_mem _ List.mem_cons_self) | with_reducible exact List.mem_cons_of_mem _ (List.mem_cons_of_mem _ (List.mem_cons_of_mem _ List.mem_cons_self)) | with_reducible exact List.mem_cons_of_mem _ (List.mem_cons_of_mem _ (List.mem_cons_of_mem _ (List.mem_cons_of_mem _ List.mem_cons_self))))
    have z0 := cc 0 _ rfl
    have z1 := cc 1 _ rfl
    have z2 := cc 2 _ rfl
    have z3 := cc 3 _ rfl
    clear cc
    have cc := HLA.out.cell w3.heap.size _ (by first | with_reducible exact List.mem_cons_self | with_reducible exact List.mem_cons_of_mem _ List.mem_cons_self | with_reducible exact List.mem_cons_of_mem _ (List.mem_cons_of_mem _ List.mem_cons_self) | with_reducible exact List.mem_cons_of_mem _ (List.mem_cons_of_mem _ (List.mem_cons_of_mem _ List.mem_cons_self)) | with_reducible exact List.mem_cons_of_mem _ (List.mem_cons_of_mem _ (List.mem_cons_of_mem _ (List.mem_cons_of_mem _ List.mem_cons_self))))
    have u0 := cc 0 _ rfl
    have u1 := cc 1 _ rfl
    have u2 := cc 2 _ rfl
    have u3 := cc 3 _ rfl
    clear cc
    have HE2 := hide (HEr.out w10 pb3 qb3 pa3 qa3 R1 R0 ⟨HR1.out.1, HR1.out.2.1, HLA.out.fo R1 (by simp)⟩ ⟨HR0.out.1, HR0.out.2.1, HLA.out.fo R0 (by simp)⟩)
    go_wp2_with fail
    refine HE2.out.mono ?_
    rintro e w11 ⟨rfl, b11⟩
    have HLB := hide (HLA.out.below b11.out)
    clear HE2 HLA b11 z0 u0 z1 u1 z2 u2 z3 u3
    have cc := HLB.out.cell w5.heap.size _ (by first | with_reducible exact List.mem_cons_self | with_reducible exact List.mem_cons_of_mem _ List.mem_cons_self | with_reducible exact List.mem_cons_of_mem _ (List.mem_cons_of_mem _ List.mem_cons_self) | with_reducible exact List.mem_cons_of_mem _ (List.mem_cons_of_mem _ (List.mem_cons_of_mem _ List.mem_cons_self)) | with_reducible exact List.mem_cons_of_mem _ (List.mem_cons_of_mem _ (List.mem_cons_of_mem _ (List.mem_cons_of_mem _ List.mem_cons_self))))
    have z0 := cc 0 _ rfl
    have z1 := cc 1 _ rfl
    have z2 := cc 2 _ rfl
    have z3 := cc 3 _ rfl
    clear cc
    have HMB := hide (HMr.out w11 pb3 qb3 R1 _ ⟨HR1.out.1, HR1.out.2.1, HLB.out.ow (_, R1) (by first | with_reducible exact List.mem_cons_self | with_reducible exact List.mem_cons_of_mem _ List.mem_cons_self | with_reducible exact List.mem_cons_of_mem _ (List.mem_cons_of_mem _ List.mem_cons_self) | with_reducible exact List.mem_cons_of_mem _ (List.mem_cons_of_mem _ (List.mem_cons_of_mem _ List.mem_cons_self)) | with_reducible exact List.mem_cons_of_mem _ (List.mem_cons_of_mem _ (List.mem_cons_of_mem _ (List.mem_cons_of_mem _ List.mem_cons_self))))⟩)
    go_wp2_with fail
    refine HMB.out.mono ?_
    rintro e w12 ⟨rfl, m12, k12⟩
    have HLC : Hid (Law W [(w5.heap.size, [.int .i64 y0, .int .i64 y1, .string y2, .slice pb3 ym3 qb3]), (w4.heap.size, [.int .i64 x0, .slice db1 n1 eb1, .int .i64 x2, .int .i64 x3, .string x4, .slice db5 n5 eb5]), (w3.heap.size, [.int .i64 y0, .int .i64 y1, .string y2, .slice pa3 ym3 qa3]), (W.heap.size, [.int .i64 x0, .slice a1 n1 c1, .int .i64 x2, .int .i64 x3, .string x4, .slice a5 n5 c5])] [R1.mks 1, R0, F] [] w12) := by
      have h0 := HR0.out.2.2
      have h1 := HR1.out.2.2
      have hF := HFin.out
      have z3 := HZ3.out
      have z4 := HZ4.out
      have z5 := HZ5.out
      refine Law.add ((HLB.out.drop (fun _ x => x) (by simp) (fun p hp => absurd hp List.not_mem_nil)).kept k12.out (fun c hc hx => by have := h1 c hx; omega) (allc (fun hx => by have := h1 _ hx; omega) (allc (fun hx => by have := h1 _ hx; omega) (allc (fun hx => by have := h1 _ hx; omega) (all1 (fun hx => by have := h1 _ hx; omega))))) (allc (fun c hc hx => by have := h1 _ hx; have := h0 _ hc; omega) (all1 (fun c hc hx => by have := h1 _ hx; have := hF _ hc; omega))) (fun p hp => absurd hp List.not_mem_nil)) m12.out
    clear HMB HLB m12 k12 z0 z1 z2 z3
    have cc := HLC.out.cell w5.heap.size _ (by first | with_reducible exact List.mem_cons_self | with_reducible exact List.mem_cons_of_mem _ List.mem_cons_self | with_reducible exact List.mem_cons_of_mem _ (List.mem_cons_of_mem _ List.mem_cons_self) | with_reducible exact List.mem_cons_of_mem _ (List.mem_cons_of_mem _ (List.mem_cons_of_mem _ List.mem_cons_self)) | with_reducible exact List.mem_cons_of_mem _ (List.mem_cons_of_mem _ (List.mem_cons_of_mem _ (List.mem_cons_of_mem _ List.mem_cons_self))))
    have z0 := cc 0 _ rfl
    have z1 := cc 1 _ rfl
    have z2 := cc 2 _ rfl
    have z3 := cc 3 _ rfl
    clear cc
    have HHC := hide (HHr.out w12 pb3 qb3 R1 HR1.out.1 HR1.out.2.1 (HLC.out.fo _ (by simp)))
    go_wp2_with fail
    refine HHC.out.mono ?_
    rintro e w13 ⟨rfl, b13⟩
    have HLD := hide (HLC.out.below b13.out)
    clear HHC HLC b13 z0 z1 z2 z3
    have cc := HLD.out.cell W.heap.size _ (by first | with_reducible exact List.mem_cons_self | with_reducible exact List.mem_cons_of_mem _ List.mem_cons_self | with_reducible exact List.mem_cons_of_mem _ (List.mem_cons_of_mem _ List.mem_cons_self) | with_reducible exact List.mem_cons_of_mem _ (List.mem_cons_of_mem _ (List.mem_cons_of_mem _ List.mem_cons_self)) | with_reducible exact List.mem_cons_of_mem _ (List.mem_cons_of_mem _ (List.mem_cons_of_mem _ (List.mem_cons_of_mem _ List.mem_cons_self))))
    have z0 := cc 0 _ rfl
    have z1 := cc 1 _ rfl
    have z2 := cc 2 _ rfl
    have z3 := cc 3 _ rfl
    have z4 := cc 4 _ rfl
    have z5 := cc 5 _ rfl
    clear cc
    go_wp2_with fail
    refine (HTo.out w13 (HLD.out.fo F (by simp))).mono ?_
    rintro e w14 ⟨dd1, dd5, ed1, ed5, G4, rfl, g4, b14⟩
    have HLE := hide (HLD.out.below b14.out)
    have HP4 := hide (HPr.out w14 dd1 dd5 ed1 ed5 G4 _ g4)
    clear HLD g4 b14 z0 z1 z2 z3 z4 z5
    go_wp2_with fail
    refine HP4.out.mono ?_
    rintro e w15 ⟨pd3, qd3, R2, rfl, r2, b15⟩
    obtain ⟨V15, hV15⟩ : ∃ V15, w15.alloc (.cells #[.int .i64 y0, .int .i64 y1, .string y2, .slice pd3 ym3 qd3] 29) = V15 := ⟨_, rfl⟩
    have HLF : Hid (Law W ((w15.heap.size, [.int .i64 y0, .int .i64 y1, .string y2, .slice pd3 ym3 qd3]) :: [(w5.heap.size, [.int .i64 y0, .int .i64 y1, .string y2, .slice pb3 ym3 qb3]), (w4.heap.size, [.int .i64 x0, .slice db1 n1 eb1, .int .i64 x2, .int .i64 x3, .string x4, .slice db5 n5 eb5]), (w3.heap.size, [.int .i64 y0, .int .i64 y1, .string y2, .slice pa3 ym3 qa3]), (W.heap.size, [.int .i64 x0, .slice a1 n1 c1, .int .i64 x2, .int .i64 x3, .string x4, .slice a5 n5 c5])]) [R2, R1.mks 1, R0, F] [] V15) := by unfold Hid; rw [← hV15]; exact ((HLE.out.below b15.out).add (r2.out.2.2.subs.mono (fun _ x => x.2))).box _ _
    have HR2 : Hid (R2.vals = [.int .i64 y0, .int .i64 y1, .string y2, .slice pd3 ym3 qd3] ∧ R2.sim AN) := ⟨r2.out.1, r2.out.2.1⟩
    have HV15 := hide hV15
    clear HP4 HLE r2 b15 hV15
    go_upto_region 25 with fail
    rw [HV15.out]
    clear HV15
    have cc := HLF.out.cell w15.heap.size _ (by first | with_reducible exact List.mem_cons_self | with_reducible exact List.mem_cons_of_mem _ List.mem_cons_self | with_reducible exact List.mem_cons_of_mem _ (List.mem_cons_of_mem _ List.mem_cons_self) | with_reducible exact List.mem_cons_of_mem _ (List.mem_cons_of_mem _ (List.mem_cons_of_mem _ List.mem_cons_self)) | with_reducible exact List.mem_cons_of_mem _ (List.mem_cons_of_mem _ (List.mem_cons_of_mem _ (List.mem_cons_of_mem _ List.mem_cons_self))))
    have z0 := cc 0 _ rfl
    have z1 := cc 1 _ rfl
    have z2 := cc 2 _ rfl
    have z3 := cc 3 _ rfl
    clear cc
    have cc := HLF.out.cell w3.heap.size _ (by first | with_reducible exact List.mem_cons_self | with_reducible exact List.mem_cons_of_mem _ List.mem_cons_self | with_reducible exact List.mem_cons_of_mem _ (List.mem_cons_of_mem _ List.mem_cons_self) | with_reducible exact List.mem_cons_of_mem _ (List.mem_cons_of_mem _ (List.mem_cons_of_mem _ List.mem_cons_self)) | with_reducible exact List.mem_cons_of_mem _ (List.mem_cons_of_mem _ (List.mem_cons_of_mem _ (List.mem_cons_of_mem _ List.mem_cons_self))))
    have u0 := cc 0 _ rfl
    have u1 := cc 1 _ rfl
    have u2 := cc 2 _ rfl
    have u3 := cc 3 _ rfl
    clear cc
    have HE3 := hide (HEr.out V15 pd3 qd3 pa3 qa3 R2 R0 ⟨HR2.out.1, HR2.out.2, HLF.out.fo R2 (by simp)⟩ ⟨HR0.out.1, HR0.out.2.1, HLF.out.fo R0 (by simp)⟩)
    go_wp2_with fail
    refine HE3.out.mono ?_
    rintro e w16 ⟨rfl, b16⟩
    have HLG := hide (HLF.out.below b16.out)
    clear HE3 HLF b16 z0 u0 z1 u1 z2 u2 z3 u3
    have cc := HLG.out.cell w5.heap.size _ (by first | with_reducible exact List.mem_cons_self | with_reducible exact List.mem_cons_of_mem _ List.mem_cons_self | with_reducible exact List.mem_cons_of_mem _ (List.mem_cons_of_mem _ List.mem_cons_self) | with_reducible exact List.mem_cons_of_mem _ (List.mem_cons_of_mem _ (List.mem_cons_of_mem _ List.mem_cons_self)) | with_reducible exact List.mem_cons_of_mem _ (List.mem_cons_of_mem _ (List.mem_cons_of_mem _ (List.mem_cons_of_mem _ List.mem_cons_self))))
    have z0 := cc 0 _ rfl
    have z1 := cc 1 _ rfl
    have z2 := cc 2 _ rfl
    have z3 := cc 3 _ rfl
    clear cc
    have HHG := hide (HHr.out w16 pb3 qb3 R1 HR1.out.1 HR1.out.2.1 (HLG.out.fo _ (by simp)))
    go_wp2_with fail
    refine HHG.out.mono ?_
    rintro e w17 ⟨rfl, b17⟩
    have HLH := hide (HLG.out.below b17.out).be
    clear HHG HLG b17 z0 z1 z2 z3
    go_wp2_with fail
    go_ret
    exact ⟨rfl, HLH.out⟩

end Go.Proofs.Yteminjgoepmppaa.U
