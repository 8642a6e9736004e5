import Derived.Test.YtanjgmmkodlffaaMd
namespace Go.Proofs.Ytanjgmmkodlffaa.U
open Go.RowKit Go.Joins

set_option maxHeartbeats 8000000 in
set_option maxRecDepth 100000 in
/-- The model's MainKind. -/
theorem m_MainKind (F : Fo) (W : World) (hf : Fit E F [.i, .t, .s 2, .s 3]) (hwt : F.wt ≤ 1048576) (hs : F.Subs W (fun c => c < W.heap.size)) :
    Calls Try.prog 12 #[.agg F.vals.toArray] W fun e W' => e = .returned (.int .i64 (mainK F)) ∧ Below W.heap.size W W' := by
  obtain ⟨x0, F0, rfl, -, hf⟩ := fit_i hf
  obtain ⟨x1, F1, rfl, -, hf⟩ := fit_t hf
  obtain ⟨a, n, cap, T, F2, rfl, hT, hf⟩ := fit_s hf
  obtain ⟨a3, n3, c3, K3, F3, rfl, -, hf⟩ := fit_s hf
  obtain rfl := fit_nil hf
  show Calls Try.prog 12 #[.agg #[.int .i64 x0, .string x1, .slice a n cap, .slice a3 n3 c3]] W fun e W' => e = .returned (.int .i64 (mainT T)) ∧ Below W.heap.size W W'
  have hsT : T.Sub W (fun c => c < W.heap.size) a n cap := hs.1
  have hmx : n ≤ 9223372036854775807 := by have h2 := hsT.1; have h3 := hsT.2.1; simp only [maxLen] at h3; omega
  have HWT : Hid (T.wt ≤ 1048576) := by unfold Hid; simp only [Fo.wt] at hwt; omega
  have HR0 := hide (Rd.start hT hsT)
  have HS1 : Hid (∀ a1 c1 a2 c2, hasM (ty4 3 0 sList a1 1 c1 (ty4 3 0 sChar a2 0 c2 .nil)) T = hasM textT T) := fun a1 c1 a2 c2 => hasM_sim (text_sim _ _ _ _) _ (Nat.le_refl _) hT (Fo.sim.refl _)
  have HS2 : Hid (∀ (A B : Fo) (a1 : Option Addr) (c1 : Nat), A.sim textT → B.sim textT → hasM (ty4 3 0 sArrow a1 2 c1 (A.app B)) T = hasM funT T) := fun A B a1 c1 hA hB => hasM_sim (fun_sim hA hB _ _) _ (Nat.le_refl _) hT (Fo.sim.refl _)
  obtain ⟨V0, hV0⟩ : ∃ V, W.alloc (.cells #[.int .i64 x0, .string x1, .slice a n cap, .slice a3 n3 c3] 41) = V := ⟨_, rfl⟩
  have b0 : Below W.heap.size W V0 := by rw [← hV0]; exact below_alloc1 _ _
  have HB0 := hide b0
  have HQ0 : Hid (Bx V0 W.heap.size [.int .i64 x0, .string x1, .slice a n cap, .slice a3 n3 c3]) := by unfold Hid; rw [← hV0]; exact Bx.new _ _ _
  have HV0 := hide hV0
  clear hV0 b0 hf hT hsT hwt hs
  go_enter Try.func12, Try.ntmps12
  go_upto_region 1 with fail
  rw [HV0.out]
  clear HV0
  go_wp2_with fail
  go_loopw [3] (fun s3 wr => ∃ k : Nat, s3 = .int .i64 k ∧ Hid (k = 1 ∨ k = 2 ∧ hasM textT T = false ∨ k = 3 ∧ hasM textT T = false ∧ hasM funT T = false) ∧ Hid (Kept (fun _ => True) V0 wr)) (fun s3 _ => 3 - (intOf s3).toNat)
  case atStart => exact ⟨1, rfl, .inl rfl, Kept.refl _ _⟩
  case round =>
    obtain ⟨k, rfl, hk, hK0⟩ := hrel
    rcases hk.out with rfl | ⟨rfl, h1⟩ | ⟨rfl, h1, h2⟩
    · clear hk
      go_wp2_with fail
      refine (m_str wr).mono ?_
      rintro e w1 ⟨a1, c1, rfl, b1, a2, c2, s1⟩
      obtain ⟨V3, hV3⟩ : ∃ V, w1.alloc (.cells #[.int .i64 3, .int .i64 0, .string sList, .slice a1 1 c1] 25) = V := ⟨_, rfl⟩
      have k13 : Kept (fun _ => True) w1 V3 := by rw [← hV3]; exact Kept.alloc _ _ _
      obtain ⟨WF, hWF⟩ : ∃ WF : Fo, WF = (ty4 3 0 sList a1 1 c1 (ty4 3 0 sChar a2 0 c2 .nil)) := ⟨_, rfl⟩
      have HWV : Hid (WF.vals.toArray = #[.int .i64 3, .int .i64 0, .string sList, .slice a1 1 c1]) := by unfold Hid; rw [hWF]; rfl
      have HWF : Hid (Fit E WF (E 1) ∧ WF.wt ≤ 1048576 ∧ WF.Subs V3 (fun c => c < V3.heap.size)) := by
        unfold Hid
        rw [hWF]
        have := k13.size
        exact ⟨txt_fit _ _ _ _, by rw [txt_wt]; omega, (s1.kept k13 (fun c hc => ⟨trivial, hc.2⟩)).mono (fun c hc => by omega)⟩
      have HQ4 : Hid (Bx V3 w1.heap.size [.int .i64 3, .int .i64 0, .string sList, .slice a1 1 c1]) := by unfold Hid; rw [← hV3]; exact Bx.new _ _ _
      have HK03 : Hid (Kept (fun _ => True) V0 V3) := (hK0.out.trans (kt b1)).trans k13
      have HMS : Hid (hasM WF T = hasM textT T) := by unfold Hid; rw [hWF]; exact HS1.out _ _ _ _
      have HFD : Hid (hasM WF T = true → mainT T = 1) := fun h => by rw [HMS.out] at h; unfold mainT; rw [h]; rfl
      have HBE : Hid (Below W.heap.size W V0) := HB0
      have HNX : Hid (∀ wr : World, hasM WF T = false → Kept (fun _ => True) V3 wr → ∃ k : Nat, (Value.int .i64 (2 : Int)) = .int .i64 k ∧ Hid (k = 1 ∨ k = 2 ∧ hasM textT T = false ∨ k = 3 ∧ hasM textT T = false ∧ hasM funT T = false) ∧ Hid (Kept (fun _ => True) V0 wr)) := fun wr h hk => ⟨2, rfl, .inr (.inl ⟨rfl, HMS.out ▸ h⟩), HK03.out.trans hk⟩
      have HQ1 := hide (HQ0.out.kept HK03.out trivial)
      have HZ3 : Hid (W.heap.size ≤ V3.heap.size) := Nat.le_trans HB0.out.size HK03.out.size
      have HR3 := hide ((HR0.out.below HB0.out (Nat.le_refl _)).kept HK03.out HB0.out.size (fun _ _ => trivial))
      have HV3 := hide hV3
      clear hV3 k13 hWF b1 s1 hK0
      go_upto_region 7 with fail
      rw [HV3.out]
      clear HV3
      go_wp2_with fail
      go_loopw [5] (fun s5 wr => ∃ (i : Nat) (r : Fo), s5 = .int .i64 i ∧ i ≤ n ∧ Hid (hasM WF r = hasM WF T) ∧ Hid (r.wt ≤ 1048576) ∧ Hid (Rd E (E 2) n W.heap.size a i r V3) ∧ Hid (Kept (fun _ => True) V3 wr)) (fun s5 _ => n - (intOf s5).toNat)
      case atStart => exact ⟨0, T, rfl, Nat.zero_le _, rfl, HWT, HR3, Kept.refl _ _⟩
      case round =>
        obtain ⟨i, r, rfl, hin, hfd, hrw, hR, hK⟩ := hrel
        have q1 := HQ1.out.kept hK.out trivial
        have q4 := HQ4.out.kept hK.out trivial
        have b2 : wr.cell? ⟨W.heap.size, 2, none⟩ = some (.slice a n cap) := q1.cel 2 _ rfl
        by_cases hi : i < n
        · obtain ⟨x, rr, b, o, rfl, hx, rfl, hb, hc, hxs, hR1⟩ := hR.out.next hi (by decide)
          have HR1 := hide hR1
          have hii : (i : Int) < n := by omega
          have hw := hrw.out
          rw [Fo.app_wt] at hw
          have hfe := hfd.out
          have hzz := HZ3.out
          replace hc := hc.kept hK.out (by omega) trivial
          replace hxs := hxs.kept hK.out (fun c hc => ⟨trivial, by omega⟩)
          replace hx : Fit E x [.t, .i, .s 0, .i, .i, .t, .s 1] := hx
          obtain ⟨x0', F0, rfl, -, hx⟩ := fit_t hx
          obtain ⟨x1', F1, rfl, -, hx⟩ := fit_i hx
          obtain ⟨p2, m2, e2, P, F2, rfl, -, hx⟩ := fit_s hx
          have hX : Fit E F2 (E 1) := hx
          obtain ⟨x3, F3, rfl, -, hx⟩ := fit_i hx
          obtain ⟨x4, F4, rfl, -, hx⟩ := fit_i hx
          obtain ⟨x5, F5, rfl, -, hx⟩ := fit_t hx
          obtain ⟨p6, m6, e6, K6, F6, rfl, -, hx⟩ := fit_s hx
          obtain rfl := fit_nil hx
          have hXs : (ty4 x3 x4 x5 p6 m6 e6 K6).Subs wr (fun c => c < W.heap.size) := hxs.2
          simp only [Fo.app, hasM] at hfe
          obtain ⟨wb, hwb⟩ : ∃ V, wr.alloc (.cells #[.int .i64 x1', .slice p2 m2 e2, .int .i64 x3, .int .i64 x4, .string x5, .slice p6 m6 e6] 27) = V := ⟨_, rfl⟩
          have kb : Kept (fun _ => True) wr wb := by rw [← hwb]; exact Kept.alloc _ _ _
          have qb : Bx wb wr.heap.size [.int .i64 x1', .slice p2 m2 e2, .int .i64 x3, .int .i64 x4, .string x5, .slice p6 m6 e6] := by rw [← hwb]; exact Bx.new _ _ _
          have hzr := hK.out.size
          have y1 : wr.cell? ⟨b, o + i * 7 + 1, none⟩ = some (.int .i64 x1') := hc 1 _ rfl
          have y2 : wr.cell? ⟨b, o + i * 7 + 2, none⟩ = some (.slice p2 m2 e2) := hc 2 _ rfl
          have y3 : wr.cell? ⟨b, o + i * 7 + 3, none⟩ = some (.int .i64 x3) := hc 3 _ rfl
          have y4 : wr.cell? ⟨b, o + i * 7 + 4, none⟩ = some (.int .i64 x4) := hc 4 _ rfl
          have y5 : wr.cell? ⟨b, o + i * 7 + 5, none⟩ = some (.string x5) := hc 5 _ rfl
          have y6 : wr.cell? ⟨b, o + i * 7 + 6, none⟩ = some (.slice p6 m6 e6) := hc 6 _ rfl
          have hcb := hc.kept kb (by omega) trivial
          have y0 : wb.cell? ⟨b, o + i * 7, none⟩ = some (.string x0') := hcb 0 _ rfl
          have c2 : wb.cell? ⟨W.heap.size, 2, none⟩ = some (.slice (some ⟨b, o, none⟩) n cap) := (q1.kept kb trivial).cel 2 _ rfl
          have g1 := qb.cel 1 _ rfl
          have g2 := qb.cel 2 _ rfl
          have g3 := qb.cel 3 _ rfl
          have g4 := qb.cel 4 _ rfl
          have g5 := qb.cel 5 _ rfl
          have w0 := (q4.kept kb trivial).cel 0 _ rfl
          have w1' := (q4.kept kb trivial).cel 1 _ rfl
          have w2' := (q4.kept kb trivial).cel 2 _ rfl
          have w3' := (q4.kept kb trivial).cel 3 _ rfl
          have hwX : (ty4 x3 x4 x5 p6 m6 e6 K6).wt ≤ 1048576 := by
            simp only [Fo.wt] at hw
            simp only [ty4, Fo.wt]
            omega
          have k3b : Kept (fun _ => True) V3 wb := hK.out.trans kb
          have hzb := kb.size
          have hcal := m_SameType (ty4 x3 x4 x5 p6 m6 e6 K6) WF wb hX HWF.out.1 hwX HWF.out.2.1 ((hXs.kept kb (fun c hc => ⟨trivial, by omega⟩)).mono (fun c hc => by omega)) ((HWF.out.2.2.kept k3b (fun c hc => ⟨trivial, hc⟩)).mono (fun c hc => by have := k3b.size; omega))
          rw [HWV.out] at hcal
          replace hcal : Calls Try.prog 17 #[.agg #[.int .i64 x3, .int .i64 x4, .string x5, .slice p6 m6 e6], .agg #[.int .i64 3, .int .i64 0, .string sList, .slice a1 1 c1]] wb _ := hcal
          have HC := hide hcal
          have HW2 : Hid (rr.wt ≤ 1048576) := by unfold Hid; omega
          have HK3B := hide k3b
          have HWB := hide hwb
          have hq0 : ∀ q : Bool, sameU (ty4 x3 x4 x5 p6 m6 e6 K6) WF = q → ((decide (x0' = sMain) && decide (m2 = 0) && q) || hasM WF rr) = hasM WF T := fun q e => by rw [← e]; exact hfe
          clear hc hcb hx hzz hxs hw hX hwX hR hR1 hrw hfd hXs hwb kb qb hzr k3b hzb hcal hfe q1 q4
          by_cases h1 : x0' = sMain
          · have h1' : x0' = ⟨#[77, 97, 105, 110, 46, 109, 97, 105, 110]⟩ := h1
            by_cases h2 : m2 = 0
            · obtain ⟨qq, hqq⟩ : ∃ qq, sameU (ty4 x3 x4 x5 p6 m6 e6 K6) WF = qq := ⟨_, rfl⟩
              have HFE := hide (hq0 qq hqq)
              rw [hqq] at HC
              subst h1' h2
              clear h1 hqq hq0
              go_upto_region 11 with fail
              rw [HWB.out]
              clear HWB
              go_wp2_with fail
              refine HC.out.mono ?_
              rintro e w9 ⟨rfl, b9⟩
              have HK9 : Hid (Kept (fun _ => True) V3 w9) := HK3B.out.trans (kt b9)
              clear b9
              cases qq with
              | true =>
                have HFT : Hid (hasM WF T = true) := by unfold Hid; rw [← HFE.out]; simp [sMain]
                go_wp2_with fail
                go_ret
                exact ⟨by rw [HFD.out HFT.out]; rfl, Below.kept HBE.out (HK03.out.trans HK9.out) (fun _ _ => trivial) (Nat.le_refl _)⟩
              | false =>
                have HFT : Hid (hasM WF rr = hasM WF T) := by unfold Hid; rw [← HFE.out]; simp
                go_wp2_with fail
                go_roundw
                case rel => exact ⟨i + 1, rr, by go_num, by omega, HFT, HW2, HR1, HK9⟩
                case measure => simp [intOf]; omega
            · have h2' : ((m2 : Int) == 0) = false := beq_eq_false_iff_ne.2 (by omega)
              have HFT : Hid (hasM WF rr = hasM WF T) := by unfold Hid; rw [← hq0 _ rfl]; simp [h2]
              subst h1'
              clear h1 h2 hq0 HC
              go_upto_region 11 with fail
              rw [HWB.out]
              clear HWB
              go_wp2_with fail
              go_roundw
              case rel => exact ⟨i + 1, rr, by go_num, by omega, HFT, HW2, HR1, HK3B⟩
              case measure => simp [intOf]; omega
          · have h1' : (x0'.toList == [77, 97, 105, 110, 46, 109, 97, 105, 110]) = false := by
              have h := list_ne h1
              rwa [sMain_list] at h
            have HFT : Hid (hasM WF rr = hasM WF T) := by unfold Hid; rw [← hq0 _ rfl]; simp [h1]
            clear h1 hq0 HC
            go_upto_region 11 with fail
            rw [HWB.out]
            clear HWB
            go_wp2_with fail
            go_roundw
            case rel => exact ⟨i + 1, rr, by go_num, by omega, HFT, HW2, HR1, HK3B⟩
            case measure => simp [intOf]; omega
        · obtain ⟨rfl, rfl⟩ := hR.out.done hi
          have HFT : Hid (hasM WF T = false) := by unfold Hid; rw [← hfd.out]; rfl
          have HKE := hide hK.out
          clear hR hfd hrw q1 q4
          go_wp2_with fail
          go_roundw
          case rel => exact HNX.out _ HFT.out HKE.out
          case measure => simp [intOf]

    · have H1 := hide h1
      clear hk h1
      go_wp2_with fail
      refine (m_str wr).mono ?_
      rintro e w1 ⟨a1, c1, rfl, bb1, -⟩
      obtain ⟨V1, hV1⟩ : ∃ V, w1.alloc (.cells #[.int .i64 3, .int .i64 0, .string sList, .slice a1 1 c1] 25) = V := ⟨_, rfl⟩
      have HKA : Hid (Kept (fun _ => True) V0 V1) := by unfold Hid; rw [← hV1]; exact (hK0.out.trans (kt bb1)).trans (Kept.alloc _ _ _)
      have HQA : Hid (Bx V1 w1.heap.size [.int .i64 3, .int .i64 0, .string sList, .slice a1 1 c1]) := by unfold Hid; rw [← hV1]; exact Bx.new _ _ _
      have HZA : Hid (V1.heap.size = w1.heap.size + 1 ∧ V0.heap.size ≤ w1.heap.size) := ⟨by rw [← hV1]; simp, Nat.le_trans hK0.out.size bb1.size⟩
      have HVA := hide hV1
      clear hV1 bb1 hK0
      go_upto_region 6 with fail
      rw [HVA.out]
      clear HVA
      go_wp2_with fail
      refine (m_str V1).mono ?_
      rintro e w2 ⟨b1, d1, rfl, bb2, b2, d2, s2⟩
      have HB2 := hide bb2
      have HS2' := hide s2
      clear bb2 s2
      go_wp2_with fail
      refine (m_str w2).mono ?_
      rintro e w3 ⟨e1, f1, rfl, bb3, e2, f2, s3⟩
      have hs2 : (ty4 3 0 sList b1 1 d1 (ty4 3 0 sChar b2 0 d2 .nil)).Subs w3 (fun c => V1.heap.size ≤ c ∧ c < w3.heap.size) := (HS2'.out.below bb3 (fun c hc => hc.2)).mono (fun c hc => ⟨hc.1, Nat.lt_of_lt_of_le hc.2 bb3.size⟩)
      have hs3 : (ty4 3 0 sList e1 1 f1 (ty4 3 0 sChar e2 0 f2 .nil)).Subs w3 (fun c => V1.heap.size ≤ c ∧ c < w3.heap.size) := s3.mono (fun c hc => ⟨Nat.le_trans HB2.out.size hc.1, hc.2⟩)
      have HC := hide (m_fun 3 0 sList b1 1 d1 (ty4 3 0 sChar b2 0 d2 .nil) 3 0 sList e1 1 f1 (ty4 3 0 sChar e2 0 f2 .nil) w3 (fun c => V1.heap.size ≤ c ∧ c < w3.heap.size) (fun c h => h.2) hs2 hs3)
      have HK3 : Hid (Kept (fun _ => True) V1 w3) := (kt HB2.out).trans (kt bb3)
      clear s3 bb3 hs2 hs3 HS2'
      go_wp2_with fail
      refine HC.out.mono ?_
      rintro e w4 ⟨ga, gc, rfl, bb4, s4⟩
      have q := (HQA.out.kept HK3.out trivial).below bb4
      have m0 := q.cel 0 _ rfl
      have m1 := q.cel 1 _ rfl
      have m2 := q.cel 2 _ rfl
      have m3 := q.cel 3 _ rfl
      have l0 := q.live 0
      have l1 := q.live 1
      have l2 := q.live 2
      have l3 := q.live 3
      obtain ⟨V3, hV3⟩ : ∃ V, (((w4.setCell ⟨w1.heap.size, 0, none⟩ (.int .i64 3)).setCell ⟨w1.heap.size, 1, none⟩ (.int .i64 0)).setCell ⟨w1.heap.size, 2, none⟩ (.string sArrow)).setCell ⟨w1.heap.size, 3, none⟩ (.slice ga 2 gc) = V := ⟨_, rfl⟩
      have k43 : Kept (fun c => c ≠ w1.heap.size) w4 V3 := by
        rw [← hV3]
        exact ((((Kept.refl _ _).set (by simp)).set (by simp)).set (by simp)).set (by simp)
      have HQ4 : Hid (Bx V3 w1.heap.size [.int .i64 3, .int .i64 0, .string sArrow, .slice ga 2 gc]) := by
        unfold Hid
        rw [← hV3]
        exact (((q.put 0 (.int .i64 3) (by simp)).put 1 (.int .i64 0) (by simp)).put 2 (.string sArrow) (by simp)).put 3 (.slice ga 2 gc) (by simp)
      have hza := HZA.out
      have z3 := HK3.out.size
      have z4 := bb4.size
      have z43 := k43.size
      obtain ⟨WF, hWF⟩ : ∃ WF : Fo, WF = (ty4 3 0 sArrow ga 2 gc ((ty4 3 0 sList b1 1 d1 (ty4 3 0 sChar b2 0 d2 .nil)).app (ty4 3 0 sList e1 1 f1 (ty4 3 0 sChar e2 0 f2 .nil)))) := ⟨_, rfl⟩
      have HWV : Hid (WF.vals.toArray = #[.int .i64 3, .int .i64 0, .string sArrow, .slice ga 2 gc]) := by unfold Hid; rw [hWF]; rfl
      have HWF : Hid (Fit E WF (E 1) ∧ WF.wt ≤ 1048576 ∧ WF.Subs V3 (fun c => c < V3.heap.size)) := by
        unfold Hid
        rw [hWF]
        have s5 : (ty4 3 0 sArrow ga 2 gc ((ty4 3 0 sList b1 1 d1 (ty4 3 0 sChar b2 0 d2 .nil)).app (ty4 3 0 sList e1 1 f1 (ty4 3 0 sChar e2 0 f2 .nil)))).Subs w4 (fun c => V1.heap.size ≤ c ∧ c < w4.heap.size) := s4.mono (fun c hc => by rcases hc with h | h <;> omega)
        refine ⟨⟨by decide, by decide, by decide, (txt_fit _ _ _ _).app (txt_fit _ _ _ _), trivial⟩, ?_, (s5.kept k43 (fun c hc => ⟨by omega, hc.2⟩)).mono (fun c hc => by omega)⟩
        have h1 : (ty4 3 0 sArrow ga 2 gc ((ty4 3 0 sList b1 1 d1 (ty4 3 0 sChar b2 0 d2 .nil)).app (ty4 3 0 sList e1 1 f1 (ty4 3 0 sChar e2 0 f2 .nil)))).wt = 2 + 2 + ((ty4 3 0 sList b1 1 d1 (ty4 3 0 sChar b2 0 d2 .nil)).wt + (ty4 3 0 sList e1 1 f1 (ty4 3 0 sChar e2 0 f2 .nil)).wt) := by
          show textSize (.int .i64 3) + (textSize (.int .i64 0) + (textSize (.string sArrow) + (2 + ((ty4 3 0 sList b1 1 d1 (ty4 3 0 sChar b2 0 d2 .nil)).app (ty4 3 0 sList e1 1 f1 (ty4 3 0 sChar e2 0 f2 .nil))).wt + 0))) = _
          rw [Fo.app_wt]
          have e3 : textSize (.int .i64 3) = 0 := rfl
          have e4 : textSize (.int .i64 0) = 0 := rfl
          have e5 : textSize (.string sArrow) = 2 := by simp [textSize, sArrow]; decide
          omega
        rw [h1, txt_wt, txt_wt]
        omega
      have HK03 : Hid (Kept (fun _ => True) V0 V3) := ((((HKA.out.trans HK3.out).trans (kt bb4)).mono (T := fun c => c < V0.heap.size) (fun _ _ _ => trivial)).trans (k43.mono (fun c _ hc => by omega))).mono (fun c hc _ => hc)
      have HMS : Hid (hasM WF T = hasM funT T) := by unfold Hid; rw [hWF]; exact HS2.out _ _ _ _ (text_sim _ _ _ _) (text_sim _ _ _ _)
      have HFD : Hid (hasM WF T = true → mainT T = 2) := fun h => by rw [HMS.out] at h; unfold mainT; rw [H1.out, h]; rfl
      have HBE : Hid (Below W.heap.size W V0) := HB0
      have HNX : Hid (∀ wr : World, hasM WF T = false → Kept (fun _ => True) V3 wr → ∃ k : Nat, (Value.int .i64 (3 : Int)) = .int .i64 k ∧ Hid (k = 1 ∨ k = 2 ∧ hasM textT T = false ∨ k = 3 ∧ hasM textT T = false ∧ hasM funT T = false) ∧ Hid (Kept (fun _ => True) V0 wr)) := fun wr h hk => ⟨3, rfl, .inr (.inr ⟨rfl, H1.out, HMS.out ▸ h⟩), HK03.out.trans hk⟩
      have HQ1 := hide (HQ0.out.kept HK03.out trivial)
      have HZ3 : Hid (W.heap.size ≤ V3.heap.size) := Nat.le_trans HB0.out.size HK03.out.size
      have HR3 := hide ((HR0.out.below HB0.out (Nat.le_refl _)).kept HK03.out HB0.out.size (fun _ _ => trivial))
      have HV3 := hide hV3
      clear hV3 k43 hWF bb4 s4 q HC hza z3 z4 z43
      go_upto_region 7 with fail
      rw [HV3.out]
      clear HV3 m0 m1 m2 m3 l0 l1 l2 l3
      go_wp2_with fail
      go_loopw [5] (fun s5 wr => ∃ (i : Nat) (r : Fo), s5 = .int .i64 i ∧ i ≤ n ∧ Hid (hasM WF r = hasM WF T) ∧ Hid (r.wt ≤ 1048576) ∧ Hid (Rd E (E 2) n W.heap.size a i r V3) ∧ Hid (Kept (fun _ => True) V3 wr)) (fun s5 _ => n - (intOf s5).toNat)
      case atStart => exact ⟨0, T, rfl, Nat.zero_le _, rfl, HWT, HR3, Kept.refl _ _⟩
      case round =>
        obtain ⟨i, r, rfl, hin, hfd, hrw, hR, hK⟩ := hrel
        have q1 := HQ1.out.kept hK.out trivial
        have q4 := HQ4.out.kept hK.out trivial
        have b2 : wr.cell? ⟨W.heap.size, 2, none⟩ = some (.slice a n cap) := q1.cel 2 _ rfl
        by_cases hi : i < n
        · obtain ⟨x, rr, b, o, rfl, hx, rfl, hb, hc, hxs, hR1⟩ := hR.out.next hi (by decide)
          have HR1 := hide hR1
          have hii : (i : Int) < n := by omega
          have hw := hrw.out
          rw [Fo.app_wt] at hw
          have hfe := hfd.out
          have hzz := HZ3.out
          replace hc := hc.kept hK.out (by omega) trivial
          replace hxs := hxs.kept hK.out (fun c hc => ⟨trivial, by omega⟩)
          replace hx : Fit E x [.t, .i, .s 0, .i, .i, .t, .s 1] := hx
          obtain ⟨x0', F0, rfl, -, hx⟩ := fit_t hx
          obtain ⟨x1', F1, rfl, -, hx⟩ := fit_i hx
          obtain ⟨p2, m2, e2, P, F2, rfl, -, hx⟩ := fit_s hx
          have hX : Fit E F2 (E 1) := hx
          obtain ⟨x3, F3, rfl, -, hx⟩ := fit_i hx
          obtain ⟨x4, F4, rfl, -, hx⟩ := fit_i hx
          obtain ⟨x5, F5, rfl, -, hx⟩ := fit_t hx
          obtain ⟨p6, m6, e6, K6, F6, rfl, -, hx⟩ := fit_s hx
          obtain rfl := fit_nil hx
          have hXs : (ty4 x3 x4 x5 p6 m6 e6 K6).Subs wr (fun c => c < W.heap.size) := hxs.2
          simp only [Fo.app, hasM] at hfe
          obtain ⟨wb, hwb⟩ : ∃ V, wr.alloc (.cells #[.int .i64 x1', .slice p2 m2 e2, .int .i64 x3, .int .i64 x4, .string x5, .slice p6 m6 e6] 27) = V := ⟨_, rfl⟩
          have kb : Kept (fun _ => True) wr wb := by rw [← hwb]; exact Kept.alloc _ _ _
          have qb : Bx wb wr.heap.size [.int .i64 x1', .slice p2 m2 e2, .int .i64 x3, .int .i64 x4, .string x5, .slice p6 m6 e6] := by rw [← hwb]; exact Bx.new _ _ _
          have hzr := hK.out.size
          have y1 : wr.cell? ⟨b, o + i * 7 + 1, none⟩ = some (.int .i64 x1') := hc 1 _ rfl
          have y2 : wr.cell? ⟨b, o + i * 7 + 2, none⟩ = some (.slice p2 m2 e2) := hc 2 _ rfl
          have y3 : wr.cell? ⟨b, o + i * 7 + 3, none⟩ = some (.int .i64 x3) := hc 3 _ rfl
          have y4 : wr.cell? ⟨b, o + i * 7 + 4, none⟩ = some (.int .i64 x4) := hc 4 _ rfl
          have y5 : wr.cell? ⟨b, o + i * 7 + 5, none⟩ = some (.string x5) := hc 5 _ rfl
          have y6 : wr.cell? ⟨b, o + i * 7 + 6, none⟩ = some (.slice p6 m6 e6) := hc 6 _ rfl
          have hcb := hc.kept kb (by omega) trivial
          have y0 : wb.cell? ⟨b, o + i * 7, none⟩ = some (.string x0') := hcb 0 _ rfl
          have c2 : wb.cell? ⟨W.heap.size, 2, none⟩ = some (.slice (some ⟨b, o, none⟩) n cap) := (q1.kept kb trivial).cel 2 _ rfl
          have g1 := qb.cel 1 _ rfl
          have g2 := qb.cel 2 _ rfl
          have g3 := qb.cel 3 _ rfl
          have g4 := qb.cel 4 _ rfl
          have g5 := qb.cel 5 _ rfl
          have w0 := (q4.kept kb trivial).cel 0 _ rfl
          have w1' := (q4.kept kb trivial).cel 1 _ rfl
          have w2' := (q4.kept kb trivial).cel 2 _ rfl
          have w3' := (q4.kept kb trivial).cel 3 _ rfl
          have hwX : (ty4 x3 x4 x5 p6 m6 e6 K6).wt ≤ 1048576 := by
            simp only [Fo.wt] at hw
            simp only [ty4, Fo.wt]
            omega
          have k3b : Kept (fun _ => True) V3 wb := hK.out.trans kb
          have hzb := kb.size
          have hcal := m_SameType (ty4 x3 x4 x5 p6 m6 e6 K6) WF wb hX HWF.out.1 hwX HWF.out.2.1 ((hXs.kept kb (fun c hc => ⟨trivial, by omega⟩)).mono (fun c hc => by omega)) ((HWF.out.2.2.kept k3b (fun c hc => ⟨trivial, hc⟩)).mono (fun c hc => by have := k3b.size; omega))
          rw [HWV.out] at hcal
          replace hcal : Calls Try.prog 17 #[.agg #[.int .i64 x3, .int .i64 x4, .string x5, .slice p6 m6 e6], .agg #[.int .i64 3, .int .i64 0, .string sArrow, .slice ga 2 gc]] wb _ := hcal
          have HC := hide hcal
          have HW2 : Hid (rr.wt ≤ 1048576) := by unfold Hid; omega
          have HK3B := hide k3b
          have HWB := hide hwb
          have hq0 : ∀ q : Bool, sameU (ty4 x3 x4 x5 p6 m6 e6 K6) WF = q → ((decide (x0' = sMain) && decide (m2 = 0) && q) || hasM WF rr) = hasM WF T := fun q e => by rw [← e]; exact hfe
          clear hc hcb hx hzz hxs hw hX hwX hR hR1 hrw hfd hXs hwb kb qb hzr k3b hzb hcal hfe q1 q4
          by_cases h1 : x0' = sMain
          · have h1' : x0' = ⟨#[77, 97, 105, 110, 46, 109, 97, 105, 110]⟩ := h1
            by_cases h2 : m2 = 0
            · obtain ⟨qq, hqq⟩ : ∃ qq, sameU (ty4 x3 x4 x5 p6 m6 e6 K6) WF = qq := ⟨_, rfl⟩
              have HFE := hide (hq0 qq hqq)
              rw [hqq] at HC
              subst h1' h2
              clear h1 hqq hq0
              go_upto_region 11 with fail
              rw [HWB.out]
              clear HWB
              go_wp2_with fail
              refine HC.out.mono ?_
              rintro e w9 ⟨rfl, b9⟩
              have HK9 : Hid (Kept (fun _ => True) V3 w9) := HK3B.out.trans (kt b9)
              clear b9
              cases qq with
              | true =>
                have HFT : Hid (hasM WF T = true) := by unfold Hid; rw [← HFE.out]; simp [sMain]
                go_wp2_with fail
                go_ret
                exact ⟨by rw [HFD.out HFT.out]; rfl, Below.kept HBE.out (HK03.out.trans HK9.out) (fun _ _ => trivial) (Nat.le_refl _)⟩
              | false =>
                have HFT : Hid (hasM WF rr = hasM WF T) := by unfold Hid; rw [← HFE.out]; simp
                go_wp2_with fail
                go_roundw
                case rel => exact ⟨i + 1, rr, by go_num, by omega, HFT, HW2, HR1, HK9⟩
                case measure => simp [intOf]; omega
            · have h2' : ((m2 : Int) == 0) = false := beq_eq_false_iff_ne.2 (by omega)
              have HFT : Hid (hasM WF rr = hasM WF T) := by unfold Hid; rw [← hq0 _ rfl]; simp [h2]
              subst h1'
              clear h1 h2 hq0 HC
              go_upto_region 11 with fail
              rw [HWB.out]
              clear HWB
              go_wp2_with fail
              go_roundw
              case rel => exact ⟨i + 1, rr, by go_num, by omega, HFT, HW2, HR1, HK3B⟩
              case measure => simp [intOf]; omega
          · have h1' : (x0'.toList == [77, 97, 105, 110, 46, 109, 97, 105, 110]) = false := by
              have h := list_ne h1
              rwa [sMain_list] at h
            have HFT : Hid (hasM WF rr = hasM WF T) := by unfold Hid; rw [← hq0 _ rfl]; simp [h1]
            clear h1 hq0 HC
            go_upto_region 11 with fail
            rw [HWB.out]
            clear HWB
            go_wp2_with fail
            go_roundw
            case rel => exact ⟨i + 1, rr, by go_num, by omega, HFT, HW2, HR1, HK3B⟩
            case measure => simp [intOf]; omega
        · obtain ⟨rfl, rfl⟩ := hR.out.done hi
          have HFT : Hid (hasM WF T = false) := by unfold Hid; rw [← hfd.out]; rfl
          have HKE := hide hK.out
          clear hR hfd hrw q1 q4
          go_wp2_with fail
          go_roundw
          case rel => exact HNX.out _ HFT.out HKE.out
          case measure => simp [intOf]

    · have HA : Hid (mainT T = 0) := by unfold Hid mainT; rw [h1, h2]; rfl
      have HBE : Hid (Below W.heap.size W wr) := Below.kept HB0.out hK0.out (fun _ _ => trivial) (Nat.le_refl _)
      clear hk h1 h2 hK0
      go_wp2_with fail
      go_ret
      exact ⟨by rw [HA.out]; rfl, HBE.out⟩

end Go.Proofs.Ytanjgmmkodlffaa.U
