import Derived.Test.YtfgmgbkiebeeoaaXl
import Derived.Test.YtfgmgbkiebeeoaaJI
import Derived.Test.YtfgmgbkiebeeoaaXr
namespace Go.Proofs.Ytfgmgbkiebeeoaa
open Go.RowKit Go.Joins Go.MapKept

set_option maxHeartbeats 8000000 in
set_option maxRecDepth 100000 in
theorem i_ground2 {W : World} {rb rc rr : Nat} {F H : Fo} (h : RT2 W rb rc F H) (c0 : W.cell? ⟨rr, 0, none⟩ = some (.slice (some ⟨rb, 0, none⟩) 1 1)) (c1 : W.cell? ⟨rr, 1, none⟩ = some (.slice (some ⟨rc, 0, none⟩) 1 1)) : Calls Try.prog 20 #[.slice (some ⟨rr, 0, none⟩) 2 2] W fun e W' => ∃ G, e = .returned (.pointer (some ⟨G, 0, none⟩)) ∧ Hid (GE2 W W' rb rc F H G) := by
  obtain ⟨A3, A7, hr, z3, e7, hw⟩ := wb_ex W
  have hmk : (Instr.makeMap 74 none).run Try.prog (W.alloc (.cells #[.int .i64 0, .int .i64 0] 80)) = .ok (.map (some (W.heap.size + 1))) ((W.alloc (.cells #[.int .i64 0, .int .i64 0] 80)).alloc (.map #[] 0)) := by
    have h0 : (Instr.makeMap 74 none).run Try.prog (W.alloc (.cells #[.int .i64 0, .int .i64 0] 80)) = .ok (.map (some (W.alloc (.cells #[.int .i64 0, .int .i64 0] 80)).heap.size)) ((W.alloc (.cells #[.int .i64 0, .int .i64 0] 80)).alloc (.map #[] 0)) := run_makeMap ..
    simpa using h0
  have HW := hide hw
  have HE7 := hide e7
  have HH := hide h
  have HZ3 := hide z3
  clear hw e7 h z3
  go_enter Try.func20, Try.ntmps20
  go_upto_region 4 with fail
  rw [HZ3.out]
  have e8 : (((A3.alloc (.cells #[.map none, .slice none 0 0, .slice none 0 0, .slice none 0 0, .map none, .slice none 0 0, .slice none 0 0, .slice none 0 0, .slice none 0 0, .slice (some ⟨W.heap.size, 0, none⟩) 1 1, .map (some (W.heap.size + 1))] 76)).alloc (.cells #[.slice none 0 0] 65)).alloc (.cells #[.func (.func 35) #[] #[.pointer (some ⟨W.heap.size + 2 + 1, 0, none⟩)]] 97)) = A7 := by rw [HE7.out]; rfl
  rw [e8]
  clear e8 HE7 hr hmk
  obtain ⟨G, hG⟩ : ∃ G, W.heap.size + 2 = G := ⟨_, rfl⟩
  obtain ⟨wb, hwb⟩ : ∃ wb, W.heap.size + 2 + 1 = wb := ⟨_, rfl⟩
  obtain ⟨fb, hfb⟩ : ∃ fb, W.heap.size + 2 + 1 + 1 = fb := ⟨_, rfl⟩
  obtain ⟨M0, hM0⟩ : ∃ M0, W.heap.size + 1 = M0 := ⟨_, rfl⟩
  obtain ⟨L0, hL0⟩ : ∃ L0, W.heap.size = L0 := ⟨_, rfl⟩
  have HB : Hid (WB W A7 G wb fb M0) := by subst hG hwb hfb hM0; exact HW.out
  rw [hfb, hwb, hG, hM0, hL0]
  clear HW HZ3 hG hwb hfb hM0 hL0
  obtain ⟨O, hO, hO2, ho, ho2, hs, hs2, gx⟩ := HH.out.start HB.out
  have tc := HH.out.tc
  have c0' : A7.cell? ⟨rr, 0, none⟩ = some (.slice (some ⟨rb, 0, none⟩) 1 1) := (HB.out.kp.cell (p := ⟨rr, 0, none⟩) (block_lt_of_cell c0)).trans c0
  have HC1 : Hid (∀ V, Kept (fun d => d < W.heap.size + 5 ∧ d ≠ G ∧ d ≠ wb) A7 V → V.cell? ⟨rr, 1, none⟩ = some (.slice (some ⟨rc, 0, none⟩) 1 1)) := fun V kV => by
    have hl : rr < W.heap.size := block_lt_of_cell c1
    have e1 := HB.out.eG
    have e2 := HB.out.ew
    exact (kV.cell (p := ⟨rr, 1, none⟩) (by have := HB.out.sz; show rr < _; omega) ⟨by show rr < _; omega, by show rr ≠ _; omega, by show rr ≠ _; omega⟩).trans ((HB.out.kp.cell (p := ⟨rr, 1, none⟩) hl).trans c1)
  clear c1
  obtain ⟨lo, hlo⟩ : ∃ lo, W.heap.size + 5 = lo := ⟨_, rfl⟩
  rw [hlo] at hs hs2 gx HC1
  obtain ⟨RG, hRG⟩ : ∃ RG, (fun j => A7.cell? ⟨G, j, none⟩) = RG := ⟨_, rfl⟩
  rw [hRG] at gx
  have HRG := hide hRG
  obtain ⟨tot, htot⟩ : ∃ tot, tcK F + tcK H = tot := ⟨_, rfl⟩
  have ht : tot ≤ 4000000 := by omega
  rw [htot] at gx
  have HAK : Hid (∀ V, Kept (fun _ => True) A7 V → Calls Try.prog 36 #[.pointer (some ⟨G, 0, none⟩), .slice (some ⟨rb, 0, none⟩) 1 1, wfn wb] V fun e V' => ∃ v, e = .returned v ∧ ∃ KK AA KR AR Qd, GX O RG A7 (SB A7 lo G wb) lo G wb fb V' KK AA KR AR Qd [] ((blk (some ⟨rc, 0, none⟩) H.len ++ H.inn) ++ []) (tcK H + 0) tot ∧ (∃ i : Nat, KK[i]? = some (rb, 1) ∧ KR[i]? = some F)) := fun V kV => by
    have g2 := gw_kept gx kV
    refine (add_kids (c := tcK H + 0) (tot := tot) (n := 1) (cap := 1) (a := some ⟨rb, 0, none⟩) (F := F) g2 HH.out.ff hs ho ht).mono ?_
    rintro e V' ⟨rfl, K2, R2, Q2, g1, g3, -⟩
    obtain ⟨i, b, e1, e2, e3⟩ := g3 (by decide)
    have eb : rb = b := by injection e1 with e1; injection e1
    rw [← eb] at e2
    exact ⟨_, rfl, _, _, _, _, _, g1, i, e2, e3⟩
  have HAK2 : Hid (∀ V KK AA KR AR Qd, GX O RG A7 (SB A7 lo G wb) lo G wb fb V KK AA KR AR Qd [] ((blk (some ⟨rc, 0, none⟩) H.len ++ H.inn) ++ []) (tcK H + 0) tot → (∃ i : Nat, KK[i]? = some (rb, 1) ∧ KR[i]? = some F) → Calls Try.prog 36 #[.pointer (some ⟨G, 0, none⟩), .slice (some ⟨rc, 0, none⟩) 1 1, wfn wb] V fun e V' => ∃ v, e = .returned v ∧ ∃ KK AA KR AR Qd, GX O RG A7 (SB A7 lo G wb) lo G wb fb V' KK AA KR AR Qd [] [] 0 tot ∧ (∃ i : Nat, KK[i]? = some (rb, 1) ∧ KR[i]? = some F) ∧ (∃ i : Nat, KK[i]? = some (rc, 1) ∧ KR[i]? = some H)) := fun V KK AA KR AR Qd g2 hrb => by
    refine (add_kids (c := 0) (tot := tot) (n := 1) (cap := 1) (a := some ⟨rc, 0, none⟩) (F := H) g2 HH.out.fg hs2 ho2 ht).mono ?_
    rintro e V' ⟨rfl, K2, R2, Q2, g1, g3, -⟩
    obtain ⟨i, b, e1, e2, e3⟩ := g3 (by decide)
    have eb : rc = b := by injection e1 with e1; injection e1
    rw [← eb] at e2
    obtain ⟨j, r1, r2⟩ := hrb
    exact ⟨_, rfl, _, _, _, _, _, g1, ⟨j, get_app r1, get_app r2⟩, i, e2, e3⟩
  have f0 : A7.cell? ⟨fb, 0, none⟩ = some (wfn wb) := HB.out.bf.cel 0 _ rfl
  have f0' : A7.drew.cell? ⟨fb, 0, none⟩ = some (wfn wb) := f0
  have HTT := hide htot
  clear gx hs ho hs2 ho2 hRG htot tc
  go_upto_region 5 with fail
  go_loopw [7, 25] (fun _ s25 wr => (s25 = .int .i64 0 ∧ wr = A7) ∨ (s25 = .int .i64 1 ∧ Hid (∃ KK AA KR AR Qd, GX O RG A7 (SB A7 lo G wb) lo G wb fb wr KK AA KR AR Qd [] ((blk (some ⟨rc, 0, none⟩) H.len ++ H.inn) ++ []) (tcK H + 0) tot ∧ (∃ i : Nat, KK[i]? = some (rb, 1) ∧ KR[i]? = some F))) ∨ (s25 = .int .i64 2 ∧ Hid (∃ KK AA KR AR Qd, GX O RG A7 (SB A7 lo G wb) lo G wb fb wr KK AA KR AR Qd [] [] 0 tot ∧ (∃ i : Nat, KK[i]? = some (rb, 1) ∧ KR[i]? = some F) ∧ (∃ i : Nat, KK[i]? = some (rc, 1) ∧ KR[i]? = some H)))) (fun _ s25 _ => 2 - (intOf s25).toNat)
  case atStart => exact .inl ⟨rfl, rfl⟩
  case round =>
    rcases hrel with ⟨rfl, rfl⟩ | ⟨rfl, hgx⟩ | ⟨rfl, hgx⟩
    · go_upto_region 7 with fail
      go_region_law (first
        | (refine step_call (by rfl) 36 #[.pointer (some ⟨G, 0, none⟩), .slice (some ⟨rb, 0, none⟩) 1 1, wfn wb] (by simp [go_sem]) _ (HAK.out _ (Kept.drew _ _)) ?_; rintro v5 W5 h5; have G5 := hide h5; clear h5)
        | fail)
      all_goals
        go_wp2_with fail
        go_roundw
        case rel => exact .inr (.inl ⟨by go_num, G5⟩)
        case measure => simp [intOf]
    · obtain ⟨KK1, AA1, KR1, AR1, Qd1, gx1, rf1⟩ := hgx.out
      have r1c := HC1.out wr gx1.2.2
      have f1 := gx1.fbc
      have f1' : wr.drew.cell? ⟨fb, 0, none⟩ = some (wfn wb) := f1
      have H2 := hide (HAK2.out wr.drew _ _ _ _ _ (gw_kept gx1 (Kept.drew _ _)) rf1)
      clear gx1 rf1 hgx f0 f0' c0'
      go_upto_region 7 with fail
      go_region_law (first
        | (refine step_call (by rfl) 36 #[.pointer (some ⟨G, 0, none⟩), .slice (some ⟨rc, 0, none⟩) 1 1, wfn wb] (by simp [go_sem]) _ H2.out ?_; rintro v5 W5 h5; have G5 := hide h5; clear h5)
        | fail)
      all_goals
        go_wp2_with fail
        go_roundw
        case rel => exact .inr (.inr ⟨by go_num, G5⟩)
        case measure => simp [intOf]
    · obtain ⟨KK0, AA0, KR0, AR0, Qd0, gx0, rf0, rf1⟩ := hgx.out
      have GX0 := hide gx0
      have RF0 := hide rf0
      have RF1 := hide rf1
      have HC0 := hide c0'
      have HRL : Hid (rr < W.heap.size) := block_lt_of_cell c0
      clear hgx gx0 rf0 rf1 HAK HAK2 f0 f0' c0 c0'
      go_upto_region 9 with fail
      go_loopg [8] ((Qd0.map (fun d => tcK d.x)).sum) (fun g _ wx => ∃ Qd KK AA KR AR, Hid (g = (Qd.map (fun d : Nd => tcK d.x)).sum) ∧ Hid (GX O RG A7 (SB A7 lo G wb) lo G wb fb wx KK AA KR AR Qd [] [] 0 tot) ∧ Hid (∃ i : Nat, KK[i]? = some (rb, 1) ∧ KR[i]? = some F) ∧ Hid (∃ i : Nat, KK[i]? = some (rc, 1) ∧ KR[i]? = some H))
      case atStart => exact ⟨Qd0, KK0, AA0, KR0, AR0, rfl, GX0, RF0, RF1⟩
      case round =>
        obtain ⟨Qd, KK, AA, KR, AR, hg, hgx, hrf, hrf2⟩ := hrel
        clear GX0 RF0 RF1
        rcases List.eq_nil_or_concat Qd with rfl | ⟨Q0, d, e0⟩
        · obtain ⟨wa, wc, p1⟩ := hgx.out.wbc
          have gi := hgx.out.2.1
          have GI0 := hide gi
          have BD := hide (gi.bdd ht)
          have H39 : Hid (Calls Try.prog 39 #[.pointer (some ⟨G, 0, none⟩)] wr fun r V1 => (∃ v, r = .returned v) ∧ ∃ mk sk ma sa tk, S1 O A7 V1 lo G wb KK AA mk sk ma sa tk) := settle1 (by rw [HRG.out]; exact hgx.out) ht ⟨_, HB.out.bg.cel 2 _ rfl⟩
          clear gi hgx
          go_upto_region 14 with fail
          go_upto_region 15 with (go_at_call 39; refine H39.out.mono ?_; rintro e V1 ⟨⟨v1, rfl⟩, mk, sk, ma, sa, tk, s1⟩)
          have H40 : Hid (Calls Try.prog 40 #[.pointer (some ⟨G, 4, none⟩)] V1 fun r V2 => (∃ v, r = .returned v) ∧ ∃ ta, PN O V2 W.heap.size (W.heap.size + 5) G KK AA mk sk ma sa tk ta [(0, 0)] (.slice (some ⟨W.heap.size, 0, none⟩) 1 1) M0 (.slice none 0 0) 0 [] ∧ Kept (fun d => d < W.heap.size + 5 ∧ d ≠ G ∧ d ≠ wb) A7 V2) := settle2 HB.out (by rw [hlo]; exact GI0.out) ht (by rw [hlo]; exact s1)
          clear s1 H39
          go_upto_region 16 with (go_at_call 40; refine H40.out.mono ?_; rintro e V2 ⟨⟨v2, rfl⟩, ta, pn2, kp2⟩)
          have eG := HB.out.eG
          have ew := HB.out.ew
          have c0r : V2.cell? ⟨rr, 0, none⟩ = some (.slice (some ⟨rb, 0, none⟩) 1 1) := (kp2.cell (p := ⟨rr, 0, none⟩) (by have := HRL.out; have := HB.out.sz; show rr < _; omega) ⟨by have := HRL.out; show rr < _; omega, by have := HRL.out; show rr ≠ _; omega, by have := HRL.out; show rr ≠ _; omega⟩).trans HC0.out
          obtain ⟨ND, hND⟩ : ∃ ND, ndK O KK KR ++ ndA O AA AR = ND := ⟨_, rfl⟩
          have H23 : Hid (Calls Try.prog 23 #[.pointer (some ⟨G, 0, none⟩), .slice (some ⟨rb, 0, none⟩) 1 1] V2 fun e V3 => (∃ v, e = .returned v) ∧ ∃ LS lv, NP O W V3 (W.heap.size + 5) G M0 KK AA mk sk ma sa tk ta ND 0 LS lv (.slice none 0 0) [] ∧ LS.length ≤ 2 ∧ ∃ (i : Nat) (x : Nat × Nat), LS[i]? = some x ∧ KX O KK (some ⟨rb, 0, none⟩) 1 x) := by
            obtain ⟨i0, r1, r2⟩ := hrf.out
            refine (pn2.kid BD.out (a := some ⟨rb, 0, none⟩) (m := 1) (cap := 1) (.inr ⟨i0, rb, by rw [hO], r1, by decide⟩) (by simp)).mono ?_
            rintro e V3 ⟨v, rfl, i, L2, lv', x, -, q, kx⟩
            obtain ⟨n1, n2⟩ := NP.start (ND := ND) HB.out pn2 kp2 q kx
            exact ⟨⟨v, rfl⟩, _, _, n1, by have : L2.length ≤ 1 := (by rcases q.new with e | e <;> simp [e]); rw [List.length_append]; simp; omega, n2⟩
          have H23b : Hid (∀ V3 LS lv, NP O W V3 (W.heap.size + 5) G M0 KK AA mk sk ma sa tk ta ND 0 LS lv (.slice none 0 0) [] → LS.length ≤ 2 → (∃ (i : Nat) (x : Nat × Nat), LS[i]? = some x ∧ KX O KK (some ⟨rb, 0, none⟩) 1 x) → V3.cell? ⟨rr, 1, none⟩ = some (.slice (some ⟨rc, 0, none⟩) 1 1) ∧ Calls Try.prog 23 #[.pointer (some ⟨G, 0, none⟩), .slice (some ⟨rc, 0, none⟩) 1 1] V3 fun e V4 => (∃ v, e = .returned v) ∧ ∃ LS lv, NP O W V4 (W.heap.size + 5) G M0 KK AA mk sk ma sa tk ta ND 0 LS lv (.slice none 0 0) [] ∧ (∃ (i : Nat) (x : Nat × Nat), LS[i]? = some x ∧ KX O KK (some ⟨rb, 0, none⟩) 1 x) ∧ ∃ (i : Nat) (x : Nat × Nat), LS[i]? = some x ∧ KX O KK (some ⟨rc, 0, none⟩) 1 x) := fun V3 LS lv np hl hrb => by
            obtain ⟨i0, r1, r2⟩ := hrf2.out
            refine ⟨(np.be.cell (p := ⟨rr, 1, none⟩) HRL.out).trans ((HB.out.kp.cell (p := ⟨rr, 1, none⟩) HRL.out).symm.trans (HC1.out A7 (Kept.refl _ _))), ?_⟩
            refine (np.pn.kid BD.out (a := some ⟨rc, 0, none⟩) (m := 1) (cap := 1) (.inr ⟨i0, rc, by rw [hO2], r1, by decide⟩) (by omega)).mono ?_
            rintro e V4 ⟨v, rfl, i, L2, lv', x, -, q, kx⟩
            obtain ⟨n1, n2⟩ := np.list (by omega) q kx
            obtain ⟨j, y, j1, j2⟩ := hrb
            exact ⟨⟨v, rfl⟩, _, _, n1, ⟨j, y, get_app j1, j2⟩, i, x, n2, kx⟩
          have HND := hide hND
          have HO := hide hO
          have HO2 := hide hO2
          have HLO : Hid (lo = W.heap.size + 5) := hlo.symm
          clear pn2 kp2 H40 eG ew hND hO hO2 hlo p1
          go_upto_region 17 with fail
          go_loopw [10, 78] (fun _ s78 wx => (s78 = .int .i64 0 ∧ wx = V2) ∨ (s78 = .int .i64 1 ∧ Hid (∃ LS lv, NP O W wx (W.heap.size + 5) G M0 KK AA mk sk ma sa tk ta ND 0 LS lv (.slice none 0 0) [] ∧ LS.length ≤ 2 ∧ (∃ (i : Nat) (x : Nat × Nat), LS[i]? = some x ∧ KX O KK (some ⟨rb, 0, none⟩) 1 x))) ∨ (s78 = .int .i64 2 ∧ Hid (∃ LS lv, NP O W wx (W.heap.size + 5) G M0 KK AA mk sk ma sa tk ta ND 0 LS lv (.slice none 0 0) [] ∧ (∃ (i : Nat) (x : Nat × Nat), LS[i]? = some x ∧ KX O KK (some ⟨rb, 0, none⟩) 1 x) ∧ (∃ (i : Nat) (x : Nat × Nat), LS[i]? = some x ∧ KX O KK (some ⟨rc, 0, none⟩) 1 x)))) (fun _ s78 _ => 2 - (intOf s78).toNat)
          case atStart => exact .inl ⟨rfl, rfl⟩
          case round =>
            rcases hrel with ⟨rfl, rfl⟩ | ⟨rfl, hnp⟩ | ⟨rfl, hnp⟩
            · go_wp2_with (go_at_call 23; refine H23.out.mono ?_; rintro e V3 ⟨⟨v3, rfl⟩, hn3⟩; have N3 := hide hn3; clear hn3)
              go_roundw
              case rel => exact .inr (.inl ⟨by go_num, N3⟩)
              case measure => simp [intOf]
            · obtain ⟨LS1, lv1, np1, l1, x1⟩ := hnp.out
              obtain ⟨r1c, cc1⟩ := H23b.out wr LS1 lv1 np1 l1 x1
              have CC1 := hide cc1
              clear np1 l1 x1 cc1 hnp c0r
              go_wp2_with (go_at_call 23; refine CC1.out.mono ?_; rintro e V3 ⟨⟨v3, rfl⟩, hn3⟩; have N3 := hide hn3; clear hn3)
              go_roundw
              case rel => exact .inr (.inr ⟨by go_num, N3⟩)
              case measure => simp [intOf]
            · clear H23 H23b c0r
              have nq0 : NQ2 O W lo G M0 KK AA mk sk ma sa tk ta (ndK O KK KR ++ ndA O AA AR) rb rc 0 wr := by
                obtain ⟨LS, lv, n1, n2, n3⟩ := hnp.out
                rw [HND.out, HLO.out]
                exact ⟨LS, lv, _, _, n1, n2, n3⟩
              obtain ⟨C, hC⟩ : ∃ C, K.off KK KK.length = C := ⟨_, rfl⟩
              obtain ⟨D, hD⟩ : ∃ D, A.off AA AA.length = D := ⟨_, rfl⟩
              have c2 := nq0.c2.1
              rw [hC] at c2
              have NQ0 := hide nq0
              have HCE := hide hC
              have HDE := hide hD
              have hCb : C ≤ 5000000 := by rw [← hC]; exact BD.out.ok
              have hDb : D ≤ 5000000 := by rw [← hD]; exact BD.out.oa
              clear nq0 hnp hC hD
              go_upto_region 22 with fail
              go_loopw [12, 92] (fun _ s92 wx => ∃ k : Nat, s92 = .int .i64 (k : Int) ∧ k ≤ C ∧ Hid (NQ2 O W lo G M0 KK AA mk sk ma sa tk ta (ndK O KK KR ++ ndA O AA AR) rb rc k wx)) (fun _ s92 _ => C - (intOf s92).toNat)
              case atStart => exact ⟨0, rfl, Nat.zero_le _, NQ0⟩
              case round =>
                obtain ⟨k, rfl, hkC, hnq⟩ := hrel
                by_cases hk : k < C
                · have hki : (k : Int) < (C : Int) := by omega
                  obtain ⟨bb, oo, cb, cc⟩ := hnq.out.kid GI0.out HB.out.kp HLO.out ht (by rw [HCE.out]; exact hk)
                  have CC := hide cc
                  clear cc hnq
                  go_wp2_with (go_at_call 41; refine CC.out.mono ?_; rintro e V4 ⟨⟨v4, rfl⟩, hn4⟩; have N4 := hide hn4; clear hn4)
                  go_roundw
                  case rel => exact ⟨k + 1, by go_num, by omega, N4⟩
                  case measure => simp [intOf]; omega
                · have hki : ¬ (k : Int) < (C : Int) := by omega
                  have ekC : k = C := by omega
                  have nqC := hnq.out
                  have c6 := nqC.c2.2
                  rw [HDE.out] at c6
                  rw [ekC] at nqC
                  have NQC := hide nqC
                  clear nqC hnq ekC
                  go_upto_region 27 with fail
                  go_loopw [14, 106] (fun _ s106 wx => ∃ k : Nat, s106 = .int .i64 (k : Int) ∧ k ≤ D ∧ Hid (NQ2 O W lo G M0 KK AA mk sk ma sa tk ta (ndK O KK KR ++ ndA O AA AR) rb rc (C + k) wx)) (fun _ s106 _ => D - (intOf s106).toNat)
                  case atStart => exact ⟨0, rfl, Nat.zero_le _, NQC⟩
                  case round =>
                    obtain ⟨k, rfl, hkD, hnq⟩ := hrel
                    by_cases hk : k < D
                    · have hki : (k : Int) < (D : Int) := by omega
                      have hal := NQ2.alt (k := k) (by rw [HCE.out]; exact hnq.out) GI0.out HB.out.kp HLO.out ht (by rw [HDE.out]; exact hk)
                      rw [HCE.out] at hal
                      obtain ⟨bb, oo, cb, cc⟩ := hal
                      have CC := hide cc
                      clear cc hnq
                      go_wp2_with (go_at_call 41; refine CC.out.mono ?_; rintro e V4 ⟨⟨v4, rfl⟩, hn4⟩; have N4 := hide hn4; clear hn4)
                      go_roundw
                      case rel => exact ⟨k + 1, by go_num, by omega, N4⟩
                      case measure => simp [intOf]; omega
                    · have hki : ¬ (k : Int) < (D : Int) := by omega
                      have ekD : k = D := by omega
                      have GEE : Hid (GE2 W wr rb rc F H G) := by
                        have nqD := hnq.out
                        rw [ekD, ← HCE.out, ← HDE.out] at nqD
                        exact nqD.fin (by rw [HTT.out]; exact GI0.out) hrf.out hrf2.out HO.out HO2.out HB.out.kp HLO.out
                      clear hnq ekD
                      go_wp2_with fail
                      go_ret
                      exact ⟨G, rfl, GEE⟩
        · rw [List.concat_eq_append] at e0
          subst e0
          obtain ⟨r, cap, p1, p2, p3, p4, g6, o1, o2, o3, ocel⟩ := hgx.out.take
          obtain ⟨n0, hn0⟩ : ∃ n0, Q0.length = n0 := ⟨_, rfl⟩
          rw [hn0] at p1 p3 p4 g6
          obtain ⟨m, hm⟩ : ∃ m, n0 + 1 = m := ⟨_, rfl⟩
          rw [hm] at p1 p4
          have hmi : (m : Int) - 1 = (n0 : Int) := by omega
          have hm0 : (0 : Int) < (m : Int) := by omega
          have hnm : (n0 : Int) < (m : Int) := by omega
          have hnc : n0 ≤ cap := by omega
          have hnc2 : (n0 : Int) ≤ (cap : Int) := by omega
          have hmb : m ≤ 4000001 := by
            have := (hgx.out.2.1).bound.2.1
            rw [List.length_append] at this
            simp only [List.length_cons, List.length_nil] at this
            omega
          obtain ⟨V1, hV1⟩ : ∃ V1, wr.setCell ⟨wb, 0, none⟩ (.slice (some ⟨r, 0, none⟩) n0 cap) = V1 := ⟨_, rfl⟩
          rw [hV1] at g6
          obtain ⟨k, nm, mn, la, ln, lc, lk, na, nn, nc, nk, ka, kn, kc, kk, aa, an, ac, ak, hx, -, -, -, -, hf5, hf6⟩ := core_open o1.fit
          have HKC : Hid (∀ V, Kept (fun d => d < lo ∧ d ≠ G ∧ d ≠ wb) A7 V → V.cell? ⟨d.b, d.o + 5, none⟩ = some (.slice ka kn kc) ∧ V.cell? ⟨d.b, d.o + 6, none⟩ = some (.slice aa an ac)) := fun V kV => by
            have := ocel V kV
            rw [hx] at this
            exact ⟨this 5 _ rfl, this 6 _ rfl⟩
          have H36 : Hid (∀ V, Kept (fun _ => True) V1 V → Calls Try.prog 36 #[.pointer (some ⟨G, 0, none⟩), .slice ka kn kc, wfn wb] V fun e V' => ∃ v, e = .returned v ∧ (∃ K2 R2 Q2, GX O RG A7 (SB A7 lo G wb) lo G wb fb V' (KK ++ K2) AA (KR ++ R2) AR (Q0 ++ Q2) [d] ((blk aa ak.len ++ ak.inn) ++ []) (tcA ak + 0) tot ∧ (0 < kn → ∃ i b : Nat, ka = some ⟨b, O b, none⟩ ∧ (KK ++ K2)[i]? = some (b, kn) ∧ (KR ++ R2)[i]? = some kk) ∧ (Q2.map (fun d => tcK d.x)).sum = tcK kk)) := fun V kV => by
            refine ((gw_kept g6 kV).kids hx hf5 o1.subs o2 ht).mono ?_
            rintro e V' ⟨rfl, hq⟩
            exact ⟨_, rfl, hq⟩
          have H37 : Hid (∀ V KK' KR' Q', GX O RG A7 (SB A7 lo G wb) lo G wb fb V KK' AA KR' AR Q' [d] ((blk aa ak.len ++ ak.inn) ++ []) (tcA ak + 0) tot → (0 < kn → ∃ i b : Nat, ka = some ⟨b, O b, none⟩ ∧ KK'[i]? = some (b, kn) ∧ KR'[i]? = some kk) → Calls Try.prog 37 #[.pointer (some ⟨G, 4, none⟩), .slice aa an ac, afn fb] V fun e V' => ∃ v, e = .returned v ∧ (∃ AA' AR' Q2, GX O RG A7 (SB A7 lo G wb) lo G wb fb V' KK' AA' KR' AR' (Q' ++ Q2) [] [] 0 tot ∧ (Q2.map (fun d => tcK d.x)).sum = tcA ak)) := fun V KK' KR' Q' g7 hd7 => by
            refine (g7.alts hx hf6 o1.subs o2 ht hd7).mono ?_
            rintro e V' ⟨rfl, hq⟩
            exact ⟨_, rfl, hq⟩
          have HSM : Hid (tcK d.x = 1 + tcK kk + tcA ak) := by unfold Hid; rw [hx, tcK_nd, tcK_nil]; omega
          have HV1 := hide hV1
          have G6 := hide g6
          obtain ⟨a5, -⟩ := HKC.out V1 g6.2.2
          have a5' : V1.drew.cell? ⟨d.b, d.o + 5, none⟩ = some (.slice ka kn kc) := a5
          have af := g6.fbc
          have af' : V1.drew.cell? ⟨fb, 0, none⟩ = some (wfn wb) := af
          clear g6 hV1 o1 o2 o3 ocel hx hf5 hf6 hgx hm hn0
          go_upto_region 12 with fail
          rw [HV1.out]
          go_region_law (first
            | (refine step_call (by rfl) 36 #[.pointer (some ⟨G, 0, none⟩), .slice ka kn kc, wfn wb] (by simp [go_sem]) _ (H36.out _ (Kept.drew _ _)) ?_; rintro v5 W5 h5; have G5 := hide h5; clear h5)
            | fail)
          all_goals
            obtain ⟨K2, R2, Q2, g7, hd7, hs7⟩ := G5.out
            obtain ⟨-, b6⟩ := HKC.out W5 g7.2.2
            have b6' : W5.drew.cell? ⟨d.b, d.o + 6, none⟩ = some (.slice aa an ac) := b6
            have H38 := hide (H37.out W5.drew _ _ _ (gw_kept g7 (Kept.drew _ _)) hd7)
            have HS7 := hide hs7
            clear g7 hd7 hs7 G5
            go_upto_region 13 with fail
            go_region_law (first
              | (refine step_call (by rfl) 37 #[.pointer (some ⟨G, 4, none⟩), .slice aa an ac, afn fb] (by simp [go_sem, afn]) _ H38.out ?_; rintro v6 W6 h6; have G6' := hide h6; clear h6)
              | fail)
            all_goals
              go_wp2_with fail
              obtain ⟨AA', AR', Q3, g8, hs8⟩ := G6'.out
              go_roundg (((Q0 ++ Q2 ++ Q3).map (fun d : Nd => tcK d.x)).sum)
              case measure =>
                have h1 := HSM.out
                have h2 := HS7.out
                rw [hg.out]
                simp only [List.map_append, List.sum_append, List.map_cons, List.map_nil, List.sum_cons, List.sum_nil, h2, hs8, h1]
                omega
              case rel =>
                refine ⟨Q0 ++ Q2 ++ Q3, _, _, _, _, rfl, g8, ?_, ?_⟩
                · obtain ⟨i, r1, r2⟩ := hrf.out
                  exact ⟨i, get_app r1, get_app r2⟩
                · obtain ⟨i, r1, r2⟩ := hrf2.out
                  exact ⟨i, get_app r1, get_app r2⟩

end Go.Proofs.Ytfgmgbkiebeeoaa

namespace Go.Proofs.Ytfgmgbkiebeeoaa
open Go.RowKit Go.Joins

/-- Not more terms than the weight and the row. -/
theorem tc_wt : ∀ (m : Nat) (F : Fo) (n : Nat), F.size ≤ m → (Fit E F (rep (E 3) n) → tcK F ≤ n + F.wt) ∧ (Fit E F (rep (E 2) n) → tcA F ≤ n + F.wt) := by
  intro m
  induction m with
  | zero =>
    intro F n h
    cases F with
    | nil => rw [tcK_nil, tcA_nil]; exact ⟨fun _ => Nat.zero_le _, fun _ => Nat.zero_le _⟩
    | v x r => simp only [Fo.size] at h; omega
    | s a n c ks r => simp only [Fo.size] at h; omega
  | succ m ih =>
    intro F n h
    cases n with
    | zero => exact ⟨fun hf => by rw [fit_nil hf, tcK_nil]; exact Nat.zero_le _, fun hf => by rw [fit_nil hf, tcA_nil]; exact Nat.zero_le _⟩
    | succ n =>
      refine ⟨fun hf => ?_, fun hf => ?_⟩
      · obtain ⟨x, q, rfl, hx, hq, hl⟩ := Fit.split (fs := E 3) (gs := rep (E 3) n) hf
        obtain ⟨k, nm, mn, la, ln, lc, lk, na, nn, nc, nk, ka, kn, kc, kk, aa, an, ac, ak, rfl, -, -, h3, h4, h5, h6⟩ := core_open hx
        simp only [Fo.app, Fo.size] at h
        have i1 := (ih kk kn (by omega)).1 h5
        have i2 := (ih ak an (by omega)).2 h6
        have i3 := (ih q n (by omega)).1 hq
        simp only [Fo.app, Fo.wt]
        rw [tcK_nd]
        omega
      · obtain ⟨x, q, rfl, hx, hq, hl⟩ := Fit.split (fs := E 2) (gs := rep (E 2) n) hf
        obtain ⟨con, ca, cn, cc, ck, y, rfl, -, -, hy⟩ := alt_open hx
        obtain ⟨k, nm, mn, la, ln, lc, lk, na, nn, nc, nk, ka, kn, kc, kk, aa, an, ac, ak, rfl, -, -, h3, h4, h5, h6⟩ := core_open hy
        simp only [Fo.app, Fo.size] at h
        have i1 := (ih kk kn (by omega)).1 h5
        have i2 := (ih ak an (by omega)).2 h6
        have i3 := (ih q n (by omega)).2 hq
        simp only [Fo.app, Fo.wt]
        rw [tcA_nd]
        omega

/-- The ground is measured, and the root found on it. -/
theorem GE.size {W Wg : World} {rb G : Nat} {F : Fo} (h : GE W Wg rb F G) (ht : tcK F ≤ 4000000) : ∃ (g : Gr) (nb lsb cn cm : Nat), MG g Wg G nb lsb cn cm ∧ ∀ V lb, Below Wg.heap.size Wg V → Wg.heap.size ≤ lb → (∀ l, l < g.nl → V.cell? ⟨lb, l, none⟩ = some (.int .i64 (g.sL l))) → Calls Try.prog 23 #[.pointer (some ⟨G, 0, none⟩), .slice (some ⟨rb, 0, none⟩) 1 1] V fun e V' => ∃ i : Nat, e = .returned (.int .i64 (i : Int)) ∧ i < g.nl ∧ V'.cell? ⟨lb, i, none⟩ = some (.int .i64 (tcK F : Int)) ∧ Below W.heap.size W V' := by
  obtain ⟨O, A7, lo, wb, M0, KK, AA, KR, AR, mk, sk, ma, sa, tk, ta, LS, lv, nv, PQ, gi, np, ⟨i0, r1, r2⟩, ⟨j0, x0, q1, q2⟩, hO⟩ := h
  have hb := gi.bound.1
  have hne : 1 ≤ (ndK O KK KR ++ ndA O AA AR).length := by
    have h1 := gi.numK
    have h2 := K.off_lt r1 (List.getElem?_eq_some_iff.1 r1).1
    rw [List.length_append]
    dsimp only at h2
    omega
  obtain ⟨nb, lsb, cn, cm, mg⟩ := np.mg gi ht hne
  have hll := np.ll
  refine ⟨_, nb, lsb, cn, cm, mg, fun V lb bV hlb hc => ?_⟩
  have kV : Kept (fun _ => True) Wg V := Kept.of_below bV (fun b hb _ => hb)
  have pn := np.pn.keep kV
  refine (pn.kid (gi.bdd ht) (a := some ⟨rb, 0, none⟩) (m := 1) (cap := 1) (.inr ⟨i0, rb, by rw [hO], r1, by decide⟩) (by omega)).mono ?_
  rintro e V' ⟨v, rfl, i, L2, lv', x, rfl, q, kx⟩
  have hx : x = (K.off KK i0, 1) ∧ x0 = (K.off KK i0, 1) := by
    have hh : ∀ y, KX O KK (some ⟨rb, 0, none⟩) 1 y → y = (K.off KK i0, 1) := fun y hy => by
      rcases hy with ⟨e, -⟩ | ⟨k, b, e1, e2, -, rfl⟩
      · cases e
      · have eb : rb = b := by injection e1 with e1; injection e1
        have := fst_inj (gi.bdd ht).nk e2 r1 eb.symm
        rw [this]
    exact ⟨hh _ kx, hh _ q2⟩
  have hL2 : L2 = [] := by
    rcases q.new with e | e
    · exact e
    · have hn := q.ln.nd
      rw [e] at hn
      have hd := (List.nodup_append.1 hn).2.2
      exact absurd rfl (hd x (by rw [hx.1, ← hx.2]; exact List.mem_of_getElem? q1) x (List.mem_singleton.2 rfl))
  have hat := q.at_
  rw [hL2, List.append_nil] at hat
  have hi : i < LS.length := (List.getElem?_eq_some_iff.1 hat).1
  have hcl := hc i hi
  have hg1 : G < Wg.heap.size := block_lt_of_cell np.pn.c8
  have hg2 : M0 < Wg.heap.size := by
    obtain ⟨es, c, h1, -⟩ := np.pn.z.ln.mp
    exact (Array.getElem?_eq_some_iff.1 h1).1
  have hl1 : lb < V.heap.size := block_lt_of_cell hcl
  have hg3 : lv.ownBlock ≠ some lb := fun e => by have := (World.ownsRow.lt np.pn.z.ln.ow lb e).2; omega
  have hhg := np.hg
  refine ⟨i, rfl, hi, ?_, ?_⟩
  · rw [q.kept.cell (p := ⟨lb, i, none⟩) hl1 ⟨by show lb ≠ G; omega, hg3, by show lb ≠ M0; omega⟩, hcl, sL_at hat, hx.1]
    have := gi.sumK LS PQ r1 r2
    dsimp only at this ⊢
    rw [this]
  · have b2 : Below W.heap.size W V := np.be.trans (bV.mono np.be.size)
    refine Below.kept b2 q.kept (fun c hc => ?_) (Nat.le_refl _)
    exact ⟨by omega, fun e => by have := (World.ownsRow.lt np.pn.z.ln.ow c e).1; omega, by omega⟩
end Go.Proofs.Ytfgmgbkiebeeoaa

namespace Go.Proofs.Ytfgmgbkiebeeoaa
open Go.RowKit Go.Joins

theorem info85' : (Try.prog.info? 85).map (fun i => (i.zero, i.size, i.bytes)) = some (some (.agg #[.pointer none]), 1, 16) := by kernel_rfl
theorem run_make85 (n : Nat) (hn : n ≤ 10000000) (w : World) :
    (Instr.makeSlice 62 (.int .i64 (n : Int)) (.int .i64 (n : Int))).run Try.prog w = .ok (.slice (some ⟨w.heap.size, 0, none⟩) n n) (w.alloc (.cells (madeCells #[.pointer none] n) 85)) := by
  obtain ⟨i, hi, hzz⟩ := Option.map_eq_some_iff.1 info85'
  simp only [Prod.mk.injEq] at hzz
  obtain ⟨hz, hs, hb⟩ := hzz
  have hr := run_make (P := Try.prog) w 62 85 i _ Try.underlying62 hi hz .i64 .i64 n n (by omega) (Int.le_refl _) (by rw [hb]; omega) (by omega)
  simp only [Int.toNat_natCast, hs, Nat.mul_one] at hr
  exact hr

/-- A row of members that stand for themselves. -/
structure MR (V : World) (b n : Nat) : Prop where
  cel : ∀ a, a < n → V.cell? ⟨b, a, none⟩ = some (.pointer none)
  blk : ∃ cs, V.heap[b]? = some (.cells cs 85)

theorem MR.new (w : World) (n : Nat) : MR (w.alloc (.cells (madeCells #[.pointer none] n) 85)) w.heap.size n := by
  have h := heap_new w (.cells (madeCells #[.pointer none] n) 85)
  refine ⟨fun a ha => ?_, _, h⟩
  have e : (madeCells #[Value.pointer none] n).toList = List.replicate n (.pointer none) := toList_madeCells_one _ _
  have e2 : (madeCells #[Value.pointer none] n)[a]? = some (.pointer none) := by
    rw [← Array.getElem?_toList, e, List.getElem?_replicate, if_pos ha]
  simp only [World.cell?, h]
  simpa using e2
theorem MR.kept {V V' : World} {b n : Nat} {S : Nat → Prop} (h : MR V b n) (k : Kept S V V') (hb : S b) : MR V' b n := by
  obtain ⟨cs, hc⟩ := h.blk
  have hl : b < V.heap.size := (Array.getElem?_eq_some_iff.1 hc).1
  exact ⟨fun a ha => (k.cell (p := ⟨b, a, none⟩) hl hb).trans (h.cel a ha), cs, (k.block b hl hb).trans hc⟩
theorem MR.lt {V : World} {b n : Nat} (h : MR V b n) : b < V.heap.size := by
  obtain ⟨cs, hc⟩ := h.blk
  exact (Array.getElem?_eq_some_iff.1 hc).1

/-- The ground, whatever becomes of the row of lists. -/
def GN (O : Nat → Nat) (W : World) (lo G M0 : Nat) (KK AA : List (Nat × Nat)) (mk sk ma sa : Value) (tk ta : Nat) (ND : List Nd) (LS : List (Nat × Nat)) (nv : Value) (PQ : List (Nat × Nat)) (Zg Z : Nat) (V : World) : Prop :=
  ∃ lv, NP O W V lo G M0 KK AA mk sk ma sa tk ta ND ND.length LS lv nv PQ ∧ ∀ c, lv.ownBlock = some c → c < Zg ∨ Z ≤ c

section
variable {O : Nat → Nat} {W A7 V V' : World} {lo G wb M0 : Nat} {KK AA : List (Nat × Nat)} {KR AR : List Fo} {mk sk ma sa : Value} {tk ta tot : Nat} {LS : List (Nat × Nat)} {nv : Value} {PQ : List (Nat × Nat)} {Zg Z : Nat} {ND : List Nd}

theorem GN.keep (h : GN O W lo G M0 KK AA mk sk ma sa tk ta ND LS nv PQ Zg Z V) (k : Kept (fun _ => True) V V') : GN O W lo G M0 KK AA mk sk ma sa tk ta ND LS nv PQ Zg Z V' := by
  obtain ⟨lv, np, hc⟩ := h
  exact ⟨lv, ⟨np.pn.keep k, np.le, np.pq, np.rel, np.so, np.ll, Below.kept np.be k (fun _ _ => trivial) (Nat.le_refl _), np.hg⟩, hc⟩

theorem GN.kid (h : GN O W lo G M0 KK AA mk sk ma sa tk ta ND LS nv PQ Zg Z V) (gi : GI O A7 (SB A7 lo G wb) KK AA KR AR [] [] [] 0 tot) (ht : tot ≤ 4000000) (hND : ND.length ≤ 4000000) (hZ : Z ≤ V.heap.size) (hG : G < Zg ∧ M0 < Zg) {r k : Nat} (r1 : KK[k]? = some (r, 1)) (hO : O r = 0) (hin : ∃ (i : Nat) (x : Nat × Nat), LS[i]? = some x ∧ KX O KK (some ⟨r, 0, none⟩) 1 x) :
    Calls Try.prog 23 #[.pointer (some ⟨G, 0, none⟩), .slice (some ⟨r, 0, none⟩) 1 1] V fun e V' => ∃ i : Nat, e = .returned (.int .i64 (i : Int)) ∧ LS[i]? = some (K.off KK k, 1) ∧ GN O W lo G M0 KK AA mk sk ma sa tk ta ND LS nv PQ Zg Z V' ∧ Kept (fun c => Zg ≤ c ∧ c < Z ∨ c < W.heap.size) V V' := by
  obtain ⟨lv, np, hc⟩ := h
  have hll := np.ll
  refine (np.pn.kid (gi.bdd ht) (a := some ⟨r, 0, none⟩) (m := 1) (cap := 1) (.inr ⟨k, r, by rw [hO], r1, by decide⟩) (by omega)).mono ?_
  rintro e V' ⟨v, rfl, i, L2, lv', x, rfl, q, kx⟩
  obtain ⟨j0, x0, q1, q2⟩ := hin
  have hx : x = (K.off KK k, 1) ∧ x0 = (K.off KK k, 1) := by
    have hh : ∀ y, KX O KK (some ⟨r, 0, none⟩) 1 y → y = (K.off KK k, 1) := fun y hy => by
      rcases hy with ⟨e, -⟩ | ⟨k', b, e1, e2, -, rfl⟩
      · cases e
      · have eb : r = b := by injection e1 with e1; injection e1
        have := fst_inj (gi.bdd ht).nk e2 r1 eb.symm
        rw [this]
    exact ⟨hh _ kx, hh _ q2⟩
  have hL2 : L2 = [] := by
    rcases q.new with e | e
    · exact e
    · have hn := q.ln.nd
      rw [e] at hn
      have hd := (List.nodup_append.1 hn).2.2
      exact absurd rfl (hd x (by rw [hx.1, ← hx.2]; exact List.mem_of_getElem? q1) x (List.mem_singleton.2 rfl))
  subst hL2
  have hat := q.at_
  have hpn := np.pn.list q
  rw [List.append_nil] at hat hpn
  have hhg := np.hg
  refine ⟨i, rfl, by rw [hat, hx.1], ⟨lv', ⟨hpn, np.le, np.pq, np.rel, np.so, np.ll, ?_, np.hg⟩, fun c hc' => ?_⟩, q.kept.mono (fun c _ hcc => ?_)⟩
  · exact Below.kept np.be q.kept (fun c hc => ⟨by omega, fun e => by have := (World.ownsRow.lt np.pn.z.ln.ow c e).1; omega, by omega⟩) (Nat.le_refl _)
  · rcases q.blk with e | ⟨d, e, hd⟩
    · rw [e] at hc'
      exact hc c hc'
    · rw [e] at hc'
      have : d = c := Option.some.inj hc'
      exact .inr (by omega)
  · refine ⟨?_, fun e => ?_, ?_⟩
    · rcases hcc with h1 | h1 <;> omega
    · have h2 := (World.ownsRow.lt np.pn.z.ln.ow c e).1
      have h3 := hc c e
      rcases hcc with h1 | h1 <;> omega
    · rcases hcc with h1 | h1 <;> omega
end

/-- Two boxes in either order. -/
def TwoB (w wx : World) (p q : Nat) (A B : List Value) : Prop := Bx wx p A ∧ Bx wx q B ∧ Kept (fun _ => True) w wx ∧ w.heap.size ≤ p ∧ w.heap.size ≤ q ∧ p ≠ q

theorem two_b1 (w : World) (A B : List Value) (t u : TypeId) : TwoB w ((w.alloc (.cells A.toArray t)).alloc (.cells B.toArray u)).drew w.heap.size (w.heap.size + 1) A B := by
  obtain ⟨h1, h2, h3⟩ := two_box w A B t u
  exact ⟨h1, h2, h3, Nat.le_refl _, by omega, by omega⟩
theorem two_b2 (w : World) (A B : List Value) (t u : TypeId) : TwoB w ((w.alloc (.cells B.toArray u)).alloc (.cells A.toArray t)).drew (w.heap.size + 1) w.heap.size A B := by
  obtain ⟨h1, h2, h3⟩ := two_box w B A u t
  exact ⟨h2, h1, h3, by omega, Nat.le_refl _, by omega⟩

end Go.Proofs.Ytfgmgbkiebeeoaa

namespace Go.Proofs.Ytfgmgbkiebeeoaa
open Go.RowKit Go.Joins

/-- Where the walk begins. -/
def SS (X : Gx) (A3 : World) (rc : Nat) (F H : Fo) (G Tb Ub i j : Nat) (V2 : World) : Prop :=
  ∃ (nb nc lsb cm kc ac tk ta : Nat) (p0 : Pe), p0.x = i ∧ p0.y = j ∧ p0.al = false ∧ p0.r = F ∧ p0.r' = H ∧ SC X V2 A3.heap.size V2.heap.size G nb nc lsb cm kc ac tk ta Tb Ub ∧
    SV X V2 V2.heap.size Tb Ub (V2.alloc (.cells #[.int .i64 (i : Int), .int .i64 (j : Int)] 77)) (fun _ => True) (fun _ => True) [p0] (.slice (some ⟨V2.heap.size, 0, none⟩) 1 1) ∧
    PI X V2 (fun c => c < A3.heap.size) (rc :: H.inn) [p0] [] [] (fun _ => True) (fun _ => True) ∧ Below A3.heap.size A3 V2

theorem ownsRow_lit (w : World) (B : Nat) (hB : B ≤ w.heap.size) (x y : Int) : (w.alloc (.cells #[.int .i64 x, .int .i64 y] 77)).ownsRow B 77 2 (.slice (some ⟨w.heap.size, 0, none⟩) 1 1) 1 [.int .i64 x, .int .i64 y] :=
  ⟨rfl, .inr ⟨w.heap.size, 1, #[.int .i64 x, .int .i64 y], rfl, hB, heap_new _ _, Nat.le_refl _, by decide, rfl, rfl⟩⟩

theorem GE2.start {A3 Wg : World} {rb rc G : Nat} {F H : Fo} (hr : RT2 A3 rb rc F H) (hge : GE2 A3 Wg rb rc F H G) :
    ∃ (X : Gx) (nb nc lsb cm : Nat), X.Ok ∧ Wg.cell? ⟨G, 8, none⟩ = some (.slice (some ⟨nb, 0, none⟩) X.ND.length nc) ∧ Wg.cell? ⟨G, 9, none⟩ = some (.slice (some ⟨lsb, 0, none⟩) X.LS.length cm) ∧
      ∀ (w3 : World) (Tb Ub : Nat), Kept (fun _ => True) Wg w3 → MR w3 Tb X.ND.length → MR w3 Ub X.LS.length → Wg.heap.size ≤ Tb → Wg.heap.size ≤ Ub → Tb ≠ Ub →
        Calls Try.prog 23 #[.pointer (some ⟨G, 0, none⟩), .slice (some ⟨rb, 0, none⟩) 1 1] w3 fun e V1 => ∃ i : Nat, e = .returned (.int .i64 (i : Int)) ∧
          Hid (Calls Try.prog 23 #[.pointer (some ⟨G, 0, none⟩), .slice (some ⟨rc, 0, none⟩) 1 1] V1 fun e V2 => ∃ j : Nat, e = .returned (.int .i64 (j : Int)) ∧ Hid (SS X A3 rc F H G Tb Ub i j V2)) := by
  obtain ⟨O, A7, lo, wb, M0, KK, AA, KR, AR, mk, sk, ma, sa, tk, ta, LS, lv, nv, PQ, gi, np, ⟨i0, r1, r2⟩, ⟨j0, s1, s2⟩, hx, hy, hO, hO2, hk7, hlo⟩ := hge
  have ht := hr.tc
  have hb := gi.bound.1
  have hne : 0 < (ndK O KK KR ++ ndA O AA AR).length := by
    have h1 := gi.numK
    have h2 := K.off_lt r1 (List.getElem?_eq_some_iff.1 r1).1
    rw [List.length_append]
    dsimp only at h2
    omega
  obtain ⟨nb, nc, lsb, cm, at0, en, el⟩ := Gx.mk_at (KR := KR) (AR := AR) np hne
  refine ⟨⟨O, KK, AA, KR, AR, LS, PQ⟩, nb, nc, lsb, cm, Gx.mk_ok np gi ht, at0.n8, at0.n9, fun w3 Tb Ub k3 mT mU hT hU hTU => ?_⟩
  have hG1 : G < Wg.heap.size := block_lt_of_cell np.pn.c8
  have hM1 : M0 < Wg.heap.size := by
    obtain ⟨es, c, h1, -⟩ := np.pn.z.ln.mp
    exact (Array.getElem?_eq_some_iff.1 h1).1
  have hnb := (World.ownsRow.lt np.pn.ow nb en).2
  have hta := np.pn.z.tA.lt
  have gn0 : GN O A3 lo G M0 KK AA mk sk ma sa tk ta (ndK O KK KR ++ ndA O AA AR) LS nv PQ Wg.heap.size w3.heap.size Wg := ⟨lv, np, fun c hc => .inl (World.ownsRow.lt np.pn.z.ln.ow c hc).2⟩
  have hbe := np.be
  have hND : (ndK O KK KR ++ ndA O AA AR).length ≤ 4000000 := by omega
  have lT := mT.lt
  have lU := mU.lt
  refine ((gn0.keep k3).kid gi ht hND (Nat.le_refl _) ⟨hG1, hM1⟩ r1 hO hx).mono ?_
  rintro e V1 ⟨i, rfl, li, gn1, k1⟩
  refine ⟨i, rfl, ?_⟩
  refine (gn1.kid gi ht hND k1.size ⟨hG1, hM1⟩ s1 hO2 hy).mono ?_
  rintro e V2 ⟨j, rfl, lj, gn2, k2⟩
  refine ⟨j, rfl, ?_⟩
  obtain ⟨lv2, np2, hc2⟩ := gn2
  obtain ⟨nb2, nc2, lsb2, cm2, at2, en2, el2⟩ := Gx.mk_at (KR := KR) (AR := AR) np2 hne
  have enb : nb2 = nb := Option.some.inj (en2.symm.trans en)
  subst enb
  have hls := (World.ownsRow.lt np2.pn.z.ln.ow lsb2 el2).2
  have hls2 := hc2 lsb2 el2
  have z1 := k1.size
  have z2 := k2.size
  have z3 := k3.size
  have z0 := hbe.size
  have k12 := k1.trans k2
  have hF : 0 < F.len := by rw [one_len hr.ff]; decide
  have hH : 0 < H.len := by rw [one_len hr.fg]; decide
  have hbe2 := np2.be
  have hnd : ((rb :: F.inn) ++ (rc :: H.inn)).Nodup := by
    have := hr.nd
    simp only [two, Fo.inn, List.append_nil] at this
    rw [blk_pos hF, blk_pos hH] at this
    exact this
  obtain ⟨b, o, e1, q1, q2, q3⟩ := hr.sub.1.2.2 hF
  cases e1
  obtain ⟨b', o', e1', q1', q2', q3'⟩ := hr.sub.2.1.2.2 hH
  cases e1'
  have hS : ∀ c, c < A3.heap.size → c < A3.heap.size := fun _ h => h
  have kal : Kept (fun _ => True) V2 (V2.alloc (.cells #[.int .i64 (i : Int), .int .i64 (j : Int)] 77)) := Kept.alloc _ _ _
  refine ⟨nb2, nc2, lsb2, cm2, _, _, tk, ta, ⟨i, j, false, i0, rb, j0, rc, 1, F, H⟩, rfl, rfl, rfl, rfl, rfl, ⟨Gx.mk_ok np2 gi ht, at2, ⟨hTU, by omega, by omega, by omega, by omega, by omega, by omega, by omega, by omega⟩, ⟨by omega, by omega, by omega, by omega, by omega, by omega⟩, ⟨by omega, by omega⟩, Nat.le_refl _⟩, ⟨kal.mono (fun _ _ _ => trivial), fun a ha _ => ?_, ?_, fun a ha _ => ?_, ?_, ?_, by simp⟩, ⟨fun p hp => ?_, ?_, ?_, fun _ _ _ _ => trivial, fun _ _ _ _ _ _ _ _ _ => trivial, trivial⟩, hbe2⟩
  · exact ((mT.kept k12 (.inl ⟨hT, lT⟩)).kept kal trivial).cel a ha
  · exact ((mT.kept k12 (.inl ⟨hT, lT⟩)).kept kal trivial).blk
  · exact ((mU.kept k12 (.inl ⟨hU, lU⟩)).kept kal trivial).cel a ha
  · exact ((mU.kept k12 (.inl ⟨hU, lU⟩)).kept kal trivial).blk
  · exact ownsRow_lit V2 _ (Nat.le_refl _) _ _
  · rw [List.mem_singleton.1 hp]
    refine ⟨⟨r1, r2⟩, ⟨s1, s2⟩, li, lj, ⟨?_, ?_, q1⟩, ⟨?_, ?_, q1'⟩, List.mem_cons_self, fun c hc => List.mem_cons_of_mem _ hc⟩
    · show Cel V2 F.vals rb (O rb)
      rw [hO]
      exact q2.below hbe2 q1
    · exact q3.below hbe2 (fun c hc => hc)
    · show Cel V2 H.vals rc (O rc)
      rw [hO2]
      exact q2'.below hbe2 q1'
    · exact q3'.below hbe2 (fun c hc => hc)
  · have := (List.nodup_append.1 hnd).1
    simpa [qtb, Pe.tb] using this
  · intro c hc hc2
    have hd := (List.nodup_append.1 hnd).2.2
    exact hd c (by simpa [qtb, Pe.tb] using hc) c hc2 rfl

end Go.Proofs.Ytfgmgbkiebeeoaa

namespace Go.Proofs.Ytfgmgbkiebeeoaa
open Go.RowKit Go.Joins

/-- What is left of the lists below a term: both, the second, none. -/
def cbN (x : Fo) (t : List Nat) : Nat → List Nat
  | 0 => ib (kA x) (kF x) ++ (ib (aA x) (aF x) ++ t)
  | 1 => ib (aA x) (aF x) ++ t
  | _ => t
def RN (x x' : Fo) (R : Prop) : Nat → Prop
  | 0 => (kF x').sim (kF x) ∧ (aF x').sim (aF x) ∧ R
  | 1 => (aF x').sim (aF x) ∧ R
  | _ => R
def cN (x : Fo) (c : Nat) : Nat → Nat
  | 0 => tcB false (kF x) + (tcB true (aF x) + c)
  | 1 => tcB true (aF x) + c
  | _ => c
def sel : Nat → Nat × Nat → Nat
  | 0, p => p.1
  | _, p => p.2

theorem ib_sub {x : Fo} (hx : Fit E x (E 3)) : (∀ c ∈ ib (kA x) (kF x), c ∈ x.inn) ∧ ∀ c ∈ ib (aA x) (aF x), c ∈ x.inn := by
  obtain ⟨k, nm, mn, la, ln, lc, lk, na, nn, nc, nk, ka, kn, kc, kk, aa, an, ac, ak, rfl, -⟩ := core_open hx
  simp only [Fo.inn, kA, kF, aA, aF, ib]
  exact ⟨fun c hc => List.mem_append.2 (.inr (List.mem_append.2 (.inr (List.mem_append.2 (.inl hc))))), fun c hc => List.mem_append.2 (.inr (List.mem_append.2 (.inr (List.mem_append.2 (.inr (List.mem_append.2 (.inl hc)))))))⟩

theorem bdy_inn {al : Bool} {y : Fo} (h : Fit E y (fdl al)) : ∀ c ∈ (bdy al y).inn, c ∈ y.inn := by
  cases al with
  | false => exact fun c hc => hc
  | true =>
    obtain ⟨con, ca, cn, cc, ck, x, rfl, -, -, hx⟩ := alt_open h
    exact fun c hc => List.mem_append.2 (.inr hc)

section
variable {X : Gx} {W0 : World} {n0 lo G nb nc lsb cm kc ac tk ta Tb Ub : Nat} {BR : List Nat} {D : Prop} {M : Nat} {p : Pe} {bs : List (Nat × List Value)} {V V' : World} {Q : List Pe} {qv : Value} {R : Prop} {c : Nat} {tn un : Nat → Prop}

theorem LI.atStep (sc : SC X W0 n0 lo G nb nc lsb cm kc ac tk ta Tb Ub) {at_ : Nat} (hat : at_ < 2) {x x' : Fo} {t : List Nat} (h : LI X W0 n0 lo Tb Ub BR D M p bs V Q Q qv (cbN x t at_) (RN x x' R at_) (cN x c at_) tn un) {pp pp' : Nat × Nat} (L1 : X.Li false (kA x) (kN x) (kF x) pp.1) (L2 : X.Li true (aA x) (aN x) (aF x) pp.2) (L1' : X.Li false (kA x') (kN x') (kF x') pp'.1) (L2' : X.Li true (aA x') (aN x') (aF x') pp'.2) (hf : Fit E x (E 3)) (hf' : Fit E x' (E 3)) (hk : kN x' = kN x ∧ aN x' = aN x) {b o b' o' : Nat} (rm : RM W0 (fun c => c < n0) b o x) (rm' : RM W0 (fun c => c < n0) b' o' x') (hbr : ∀ c ∈ x'.inn, c ∈ BR) :
    (sel at_ pp < X.LS.length ∧ sel at_ pp' < X.LS.length) ∧ ((sel at_ pp = 0 ∧ sel at_ pp' = 0 ∧ (Calls Try.prog 29 #[.pointer (some ⟨Ub, 0, none⟩), .pointer (some ⟨Ub, 0, none⟩)] V fun e V' => e = .returned (.bool false) ∧ V' = V) ∧ LI X W0 n0 lo Tb Ub BR D M p bs V Q Q qv (cbN x t (at_ + 1)) (RN x x' R (at_ + 1)) (cN x c (at_ + 1)) tn un) ∨
    (∃ pe : Pe, pe.x = sel at_ pp ∧ pe.y = sel at_ pp' ∧ Calls Try.prog 29 #[.pointer (some ⟨Ub, sel at_ pp, none⟩), .pointer (some ⟨Ub, sel at_ pp', none⟩)] V fun e V' => e = .returned (.bool true) ∧ ∃ un', LI X W0 n0 lo Tb Ub BR D M p bs V' Q (Q ++ [pe]) qv (cbN x t (at_ + 1)) (RN x x' R (at_ + 1)) (cN x c (at_ + 1)) tn un')) := by
  obtain ⟨g1, g2, g3, g4⟩ := rm.kids hf
  obtain ⟨g1', g2', g3', g4'⟩ := rm'.kids hf'
  obtain ⟨s1, s2⟩ := ib_sub hf'
  rw [hk.1] at L1' g1' g3'
  rw [hk.2] at L2' g2' g4'
  match at_, hat, h with
  | 0, _, h => exact h.list (al := false) sc L1 L1' g3 g3' g1 g1' (fun c hc => hbr c (s1 c hc))
  | 1, _, h => exact h.list (al := true) sc L2 L2' g4 g4' g2 g2' (fun c hc => hbr c (s2 c hc))
end

end Go.Proofs.Ytfgmgbkiebeeoaa
