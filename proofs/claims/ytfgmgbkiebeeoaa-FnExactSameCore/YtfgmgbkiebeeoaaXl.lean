import Derived.Test.YtfgmgbkiebeeoaaJG
import Derived.Laws.EntriesVeiled
namespace Go.Proofs.Ytfgmgbkiebeeoaa
open Go.RowKit Go.Joins Go.MapKept

theorem LM.putS {w : World} {M : Nat} (h : LM w M []) (x : Nat × Nat) : ∃ w', (Instr.mapUpdate 74 (.map (some M)) (lk x) (.int .i64 0)).run Try.prog w = .ok () w' ∧ LM w' M [x] ∧ w.grownBy w' (some M) ∧ w'.heap.size = w.heap.size := by
  obtain ⟨es, c, h1, h2⟩ := h
  have hf := find_lkey (w := w) x es.toList [] 0 h2
  rw [(find_lists (w := w) x es.toList [] 0 0 h2).1 (by simp)] at hf
  refine ⟨ChangeMaps.setBlock w M (.map (es.push { key := lk x, val := .int .i64 0, born := c }) (c + 1)), ?_, ?_, ?_, by simp [ChangeMaps.setBlock]⟩
  · unfold Instr.mapUpdate
    simp [run_underlying Try.underlying74, MapKept.run_getObj_map h1, check_lk, hf, MapKept.run_setObj_map _ h1, Result.andThen, ChangeMaps.setBlock]
  · refine ⟨_, _, ChangeMaps.heap_setBlock_same h1 _, ?_⟩
    simp [h2, numd]
  · exact ⟨rfl, rfl, rfl, by simp [ChangeMaps.setBlock], fun i _ hi => ChangeMaps.heap_setBlock_other h1 _ (fun e => hi (by rw [e]))⟩

theorem GX.fbc {O : Nat → Nat} {RG : Nat → Option Value} {W0 : World} {S : Nat → Prop} {lo G wb fb : Nat} {V : World} {KK AA : List (Nat × Nat)} {KR AR : List Fo} {Qd X : List Nd} {R : List Nat} {c tot : Nat} (h : GX O RG W0 S lo G wb fb V KK AA KR AR Qd X R c tot) : V.cell? ⟨fb, 0, none⟩ = some (wfn wb) := by
  obtain ⟨⟨mk, sk, ma, sa, wv, st⟩, -⟩ := h
  exact st.f.cel 0 _ rfl

theorem GX.wbc {O : Nat → Nat} {RG : Nat → Option Value} {W0 : World} {S : Nat → Prop} {lo G wb fb : Nat} {V : World} {KK AA : List (Nat × Nat)} {KR AR : List Fo} {X : List Nd} {R : List Nat} {c tot : Nat} (h : GX O RG W0 S lo G wb fb V KK AA KR AR [] X R c tot) : ∃ a cap, V.cell? ⟨wb, 0, none⟩ = some (.slice a 0 cap) := by
  obtain ⟨⟨mk, sk, ma, sa, wv, st⟩, -⟩ := h
  obtain ⟨a, cap, e⟩ := ownsRow_slice st.q
  have e' : wv = .slice a 0 cap := e
  exact ⟨a, cap, by rw [← e']; exact st.w.cel 0 _ rfl⟩

/-- The world in which the walk begins, made. -/
theorem wb_ex (W : World) : ∃ A3 A7, (Instr.mapUpdate 74 (.map (some (W.heap.size + 1))) (.agg #[.int .i64 0, .int .i64 0]) (.int .i64 0)).run Try.prog ((W.alloc (.cells #[.int .i64 0, .int .i64 0] 80)).alloc (.map #[] 0)) = .ok () A3 ∧ A3.heap.size = W.heap.size + 2 ∧
    A7 = (((A3.alloc (.cells #[.map none, .slice none 0 0, .slice none 0 0, .slice none 0 0, .map none, .slice none 0 0, .slice none 0 0, .slice none 0 0, .slice none 0 0, .slice (some ⟨W.heap.size, 0, none⟩) 1 1, .map (some (W.heap.size + 1))] 76)).alloc (.cells #[.slice none 0 0] 65)).alloc (.cells #[wfn (W.heap.size + 3)] 97)) ∧ WB W A7 (W.heap.size + 2) (W.heap.size + 3) (W.heap.size + 4) (W.heap.size + 1) := by
  obtain ⟨A2, hA2⟩ : ∃ A2, (W.alloc (.cells #[.int .i64 0, .int .i64 0] 80)).alloc (.map #[] 0) = A2 := ⟨_, rfl⟩
  have z2 : A2.heap.size = W.heap.size + 2 := by rw [← hA2]; simp
  have lm2 : LM A2 (W.heap.size + 1) [] := by
    rw [← hA2]
    refine ⟨#[], 0, ?_, rfl⟩
    have := (MapKept.heap_alloc (W.alloc (.cells #[.int .i64 0, .int .i64 0] 80)) (.map #[] 0)).1
    simpa using this
  have kb2 : Below W.heap.size W A2 := by
    rw [← hA2]
    exact (below_alloc1 _ _).trans ((below_alloc1 _ _).mono (by simp))
  have bl2 : A2.heap[W.heap.size]? = some (.cells #[.int .i64 0, .int .i64 0] 80) := by
    rw [← hA2]
    have k := Kept.alloc (fun _ => True) (W.alloc (.cells #[.int .i64 0, .int .i64 0] 80)) (.map #[] 0)
    rw [k.block W.heap.size (by simp) trivial]
    exact heap_new _ _
  obtain ⟨A3, hr, lm3, g3, z3⟩ := lm2.putS (0, 0)
  rw [z2] at z3
  have k3 : Kept (fun c => c ≠ W.heap.size + 1) A2 A3 := Kept.grown g3 (fun c hc hx => hx (Option.some.inj hc).symm)
  have kb3 : Below W.heap.size W A3 := Below.kept kb2 k3 (fun c hc => by show c ≠ _; omega) (Nat.le_refl _)
  have bl3 : A3.heap[W.heap.size]? = some (.cells #[.int .i64 0, .int .i64 0] 80) := (k3.block _ (by omega) (by show W.heap.size ≠ _; omega)).trans bl2
  obtain ⟨A4, hA4⟩ : ∃ A4, A3.alloc (.cells #[.map none, .slice none 0 0, .slice none 0 0, .slice none 0 0, .map none, .slice none 0 0, .slice none 0 0, .slice none 0 0, .slice none 0 0, .slice (some ⟨W.heap.size, 0, none⟩) 1 1, .map (some (W.heap.size + 1))] 76) = A4 := ⟨_, rfl⟩
  have k4 : Kept (fun _ => True) A3 A4 := by rw [← hA4]; exact Kept.alloc _ _ _
  have z4 : A4.heap.size = W.heap.size + 3 := by rw [← hA4]; simp [z3]
  have b4 : Bx A4 (W.heap.size + 2) [.map none, .slice none 0 0, .slice none 0 0, .slice none 0 0, .map none, .slice none 0 0, .slice none 0 0, .slice none 0 0, .slice none 0 0, .slice (some ⟨W.heap.size, 0, none⟩) 1 1, .map (some (W.heap.size + 1))] := by rw [← hA4, ← z3]; exact Bx.new _ _ _
  obtain ⟨A5, hA5⟩ : ∃ A5, A4.alloc (.cells #[.slice none 0 0] 65) = A5 := ⟨_, rfl⟩
  have k5 : Kept (fun _ => True) A4 A5 := by rw [← hA5]; exact Kept.alloc _ _ _
  have z5 : A5.heap.size = W.heap.size + 4 := by rw [← hA5]; simp [z4]
  have b5 : Bx A5 (W.heap.size + 3) [.slice none 0 0] := by rw [← hA5, ← z4]; exact Bx.new _ _ _
  obtain ⟨A6, hA6⟩ : ∃ A6, A5.alloc (.cells #[wfn (W.heap.size + 3)] 97) = A6 := ⟨_, rfl⟩
  have k6 : Kept (fun _ => True) A5 A6 := by rw [← hA6]; exact Kept.alloc _ _ _
  have z6 : A6.heap.size = W.heap.size + 5 := by rw [← hA6]; simp [z5]
  have b6 : Bx A6 (W.heap.size + 4) [wfn (W.heap.size + 3)] := by rw [← hA6, ← z5]; exact Bx.new _ _ _
  have kk := (k4.trans k5).trans k6
  refine ⟨A3, A6, by rw [hA2]; exact hr, z3, by rw [hA4, hA5, hA6], Below.kept kb3 kk (fun _ _ => trivial) (Nat.le_refl _), z6, rfl, rfl, rfl, rfl, (b4.kept k5 trivial).kept k6 trivial, b5.kept k6 trivial, b6, lm3.kept kk trivial, (kk.block _ (by omega) trivial).trans bl3⟩

set_option maxHeartbeats 8000000 in
set_option maxRecDepth 100000 in
theorem i_ground {W : World} {rb rr : Nat} {F : Fo} (h : RT W rb F) (c0 : W.cell? ⟨rr, 0, none⟩ = some (.slice (some ⟨rb, 0, none⟩) 1 1)) : Calls Try.prog 20 #[.slice (some ⟨rr, 0, none⟩) 1 1] W fun e W' => ∃ G, e = .returned (.pointer (some ⟨G, 0, none⟩)) ∧ Hid (GE W W' rb F G) := by
  obtain ⟨A3, A7, hr, z3, e7, hw⟩ := wb_ex W
  have hmk : (Instr.makeMap 74 none).run Try.prog (W.alloc (.cells #[.int .i64 0, .int .i64 0] 80)) = .ok (.map (some (W.heap.size + 1))) ((W.alloc (.cells #[.int .i64 0, .int .i64 0] 80)).alloc (.map #[] 0)) := by
    have h0 : (Instr.makeMap 74 none).run Try.prog (W.alloc (.cells #[.int .i64 0, .int .i64 0] 80)) = .ok (.map (some (W.alloc (.cells #[.int .i64 0, .int .i64 0] 80)).heap.size)) ((W.alloc (.cells #[.int .i64 0, .int .i64 0] 80)).alloc (.map #[] 0)) := run_makeMap ..
    simpa using h0
  have HW := hide hw
  have HE7 := hide e7
  have HH := hide h
  have HZ3 := hide z3
  clear hw e7 h z3
  go_enter Try.func20, Try.ntmps20
  go_upto_region 4 with fail
  rw [HZ3.out]
  have e8 : (((A3.alloc (.cells #[.map none, .slice none 0 0, .slice none 0 0, .slice none 0 0, .map none, .slice none 0 0, .slice none 0 0, .slice none 0 0, .slice none 0 0, .slice (some ⟨W.heap.size, 0, none⟩) 1 1, .map (some (W.heap.size + 1))] 76)).alloc (.cells #[.slice none 0 0] 65)).alloc (.cells #[.func (.func 35) #[] #[.pointer (some ⟨W.heap.size + 2 + 1, 0, none⟩)]] 97)) = A7 := by rw [HE7.out]; rfl
  rw [e8]
  clear e8 HE7 hr hmk
  obtain ⟨G, hG⟩ : ∃ G, W.heap.size + 2 = G := ⟨_, rfl⟩
  obtain ⟨wb, hwb⟩ : ∃ wb, W.heap.size + 2 + 1 = wb := ⟨_, rfl⟩
  obtain ⟨fb, hfb⟩ : ∃ fb, W.heap.size + 2 + 1 + 1 = fb := ⟨_, rfl⟩
  obtain ⟨M0, hM0⟩ : ∃ M0, W.heap.size + 1 = M0 := ⟨_, rfl⟩
  obtain ⟨L0, hL0⟩ : ∃ L0, W.heap.size = L0 := ⟨_, rfl⟩
  have HB : Hid (WB W A7 G wb fb M0) := by subst hG hwb hfb hM0; exact HW.out
  rw [hfb, hwb, hG, hM0, hL0]
  clear HW HZ3 hG hwb hfb hM0 hL0
  obtain ⟨O, hO, ho, hs, gx⟩ := HH.out.start HB.out
  have tc := HH.out.tc
  have c0' : A7.cell? ⟨rr, 0, none⟩ = some (.slice (some ⟨rb, 0, none⟩) 1 1) := (HB.out.kp.cell (p := ⟨rr, 0, none⟩) (block_lt_of_cell c0)).trans c0
  obtain ⟨lo, hlo⟩ : ∃ lo, W.heap.size + 5 = lo := ⟨_, rfl⟩
  rw [hlo] at hs gx
  obtain ⟨RG, hRG⟩ : ∃ RG, (fun j => A7.cell? ⟨G, j, none⟩) = RG := ⟨_, rfl⟩
  rw [hRG] at gx
  have HRG := hide hRG
  obtain ⟨tot, htot⟩ : ∃ tot, tcK F = tot := ⟨_, rfl⟩
  have ht : tot ≤ 4000000 := by omega
  have HAK : Hid (∀ V, Kept (fun _ => True) A7 V → Calls Try.prog 36 #[.pointer (some ⟨G, 0, none⟩), .slice (some ⟨rb, 0, none⟩) 1 1, wfn wb] V fun e V' => ∃ v, e = .returned v ∧ ∃ KK AA KR AR Qd, GX O RG A7 (SB A7 lo G wb) lo G wb fb V' KK AA KR AR Qd [] [] 0 tot ∧ (∃ i : Nat, KK[i]? = some (rb, 1) ∧ KR[i]? = some F)) := fun V kV => by
    have g2 := gw_kept gx kV
    rw [htot] at g2
    refine (add_kids (R := []) (c := 0) (tot := tot) (n := 1) (cap := 1) (a := some ⟨rb, 0, none⟩) (F := F) (by rw [htot]; exact g2) HH.out.fit hs ho ht).mono ?_
    rintro e V' ⟨rfl, K2, R2, Q2, g1, g3, -⟩
    obtain ⟨i, b, e1, e2, e3⟩ := g3 (by decide)
    have eb : rb = b := by injection e1 with e1; injection e1
    rw [← eb] at e2
    exact ⟨_, rfl, _, _, _, _, _, g1, i, e2, e3⟩
  have f0 : A7.cell? ⟨fb, 0, none⟩ = some (wfn wb) := HB.out.bf.cel 0 _ rfl
  have f0' : A7.drew.cell? ⟨fb, 0, none⟩ = some (wfn wb) := f0
  have HTT := hide htot
  clear gx hs ho hRG htot tc
  go_upto_region 5 with fail
  go_loopw [7, 25] (fun _ s25 wr => (s25 = .int .i64 0 ∧ wr = A7) ∨ (s25 = .int .i64 1 ∧ Hid (∃ KK AA KR AR Qd, GX O RG A7 (SB A7 lo G wb) lo G wb fb wr KK AA KR AR Qd [] [] 0 tot ∧ (∃ i : Nat, KK[i]? = some (rb, 1) ∧ KR[i]? = some F)))) (fun _ s25 _ => 1 - (intOf s25).toNat)
  case atStart => exact .inl ⟨rfl, rfl⟩
  case round =>
    rcases hrel with ⟨rfl, rfl⟩ | ⟨rfl, hgx⟩
    · go_upto_region 7 with fail
      go_region_law (first
        | (refine step_call (by rfl) 36 #[.pointer (some ⟨G, 0, none⟩), .slice (some ⟨rb, 0, none⟩) 1 1, wfn wb] (by simp [go_sem]) _ (HAK.out _ (Kept.drew _ _)) ?_; rintro v5 W5 h5; have G5 := hide h5; clear h5)
        | fail)
      all_goals
        go_wp2_with fail
        go_roundw
        case rel => exact .inr ⟨by go_num, G5⟩
        case measure => simp [intOf]
    · obtain ⟨KK0, AA0, KR0, AR0, Qd0, gx0, rf0⟩ := hgx.out
      have GX0 := hide gx0
      have RF0 := hide rf0
      have HC0 := hide c0'
      have HRL : Hid (rr < W.heap.size) := block_lt_of_cell c0
      clear hgx gx0 rf0 HAK f0 f0' c0 c0'
      go_upto_region 9 with fail
      go_loopg [8] ((Qd0.map (fun d => tcK d.x)).sum) (fun g _ wx => ∃ Qd KK AA KR AR, Hid (g = (Qd.map (fun d : Nd => tcK d.x)).sum) ∧ Hid (GX O RG A7 (SB A7 lo G wb) lo G wb fb wx KK AA KR AR Qd [] [] 0 tot) ∧ Hid (∃ i : Nat, KK[i]? = some (rb, 1) ∧ KR[i]? = some F))
      case atStart => exact ⟨Qd0, KK0, AA0, KR0, AR0, rfl, GX0, RF0⟩
      case round =>
        obtain ⟨Qd, KK, AA, KR, AR, hg, hgx, hrf⟩ := hrel
        clear GX0 RF0
        rcases List.eq_nil_or_concat Qd with rfl | ⟨Q0, d, e0⟩
        · obtain ⟨wa, wc, p1⟩ := hgx.out.wbc
          have gi := hgx.out.2.1
          have GI0 := hide gi
          have BD := hide (gi.bdd ht)
          have H39 : Hid (Calls Try.prog 39 #[.pointer (some ⟨G, 0, none⟩)] wr fun r V1 => (∃ v, r = .returned v) ∧ ∃ mk sk ma sa tk, S1 O A7 V1 lo G wb KK AA mk sk ma sa tk) := settle1 (by rw [HRG.out]; exact hgx.out) ht ⟨_, HB.out.bg.cel 2 _ rfl⟩
          clear gi hgx
          go_upto_region 14 with fail
          go_upto_region 15 with (go_at_call 39; refine H39.out.mono ?_; rintro e V1 ⟨⟨v1, rfl⟩, mk, sk, ma, sa, tk, s1⟩)
          have H40 : Hid (Calls Try.prog 40 #[.pointer (some ⟨G, 4, none⟩)] V1 fun r V2 => (∃ v, r = .returned v) ∧ ∃ ta, PN O V2 W.heap.size (W.heap.size + 5) G KK AA mk sk ma sa tk ta [(0, 0)] (.slice (some ⟨W.heap.size, 0, none⟩) 1 1) M0 (.slice none 0 0) 0 [] ∧ Kept (fun d => d < W.heap.size + 5 ∧ d ≠ G ∧ d ≠ wb) A7 V2) := settle2 HB.out (by rw [hlo]; exact GI0.out) ht (by rw [hlo]; exact s1)
          clear s1 H39
          go_upto_region 16 with (go_at_call 40; refine H40.out.mono ?_; rintro e V2 ⟨⟨v2, rfl⟩, ta, pn2, kp2⟩)
          have eG := HB.out.eG
          have ew := HB.out.ew
          have c0r : V2.cell? ⟨rr, 0, none⟩ = some (.slice (some ⟨rb, 0, none⟩) 1 1) := (kp2.cell (p := ⟨rr, 0, none⟩) (by have := HRL.out; have := HB.out.sz; show rr < _; omega) ⟨by have := HRL.out; show rr < _; omega, by have := HRL.out; show rr ≠ _; omega, by have := HRL.out; show rr ≠ _; omega⟩).trans HC0.out
          obtain ⟨ND, hND⟩ : ∃ ND, ndK O KK KR ++ ndA O AA AR = ND := ⟨_, rfl⟩
          have H23 : Hid (Calls Try.prog 23 #[.pointer (some ⟨G, 0, none⟩), .slice (some ⟨rb, 0, none⟩) 1 1] V2 fun e V3 => (∃ v, e = .returned v) ∧ ∃ LS lv, NP O W V3 (W.heap.size + 5) G M0 KK AA mk sk ma sa tk ta ND 0 LS lv (.slice none 0 0) [] ∧ ∃ (i : Nat) (x : Nat × Nat), LS[i]? = some x ∧ KX O KK (some ⟨rb, 0, none⟩) 1 x) := by
            obtain ⟨i0, r1, r2⟩ := hrf.out
            refine (pn2.kid BD.out (a := some ⟨rb, 0, none⟩) (m := 1) (cap := 1) (.inr ⟨i0, rb, by rw [hO], r1, by decide⟩) (by simp)).mono ?_
            rintro e V3 ⟨v, rfl, i, L2, lv', x, -, q, kx⟩
            obtain ⟨n1, n2⟩ := NP.start (ND := ND) HB.out pn2 kp2 q kx
            exact ⟨⟨v, rfl⟩, _, _, n1, n2⟩
          have HND := hide hND
          have HO := hide hO
          have HLO : Hid (lo = W.heap.size + 5) := hlo.symm
          clear pn2 kp2 H40 eG ew hND hO hlo p1
          go_upto_region 17 with fail
          go_loopw [10, 78] (fun _ s78 wx => (s78 = .int .i64 0 ∧ wx = V2) ∨ (s78 = .int .i64 1 ∧ Hid (∃ LS lv, NP O W wx (W.heap.size + 5) G M0 KK AA mk sk ma sa tk ta ND 0 LS lv (.slice none 0 0) [] ∧ ∃ (i : Nat) (x : Nat × Nat), LS[i]? = some x ∧ KX O KK (some ⟨rb, 0, none⟩) 1 x))) (fun _ s78 _ => 1 - (intOf s78).toNat)
          case atStart => exact .inl ⟨rfl, rfl⟩
          case round =>
            rcases hrel with ⟨rfl, rfl⟩ | ⟨rfl, hnp⟩
            · go_wp2_with (go_at_call 23; refine H23.out.mono ?_; rintro e V3 ⟨⟨v3, rfl⟩, hn3⟩; have N3 := hide hn3; clear hn3)
              go_roundw
              case rel => exact .inr ⟨by go_num, N3⟩
              case measure => simp [intOf]
            · clear H23 c0r
              have nq0 : NQ O W lo G M0 KK AA mk sk ma sa tk ta (ndK O KK KR ++ ndA O AA AR) rb 0 wr := by
                obtain ⟨LS, lv, n1, n2⟩ := hnp.out
                rw [HND.out, HLO.out]
                exact ⟨LS, lv, _, _, n1, n2⟩
              obtain ⟨C, hC⟩ : ∃ C, K.off KK KK.length = C := ⟨_, rfl⟩
              obtain ⟨D, hD⟩ : ∃ D, A.off AA AA.length = D := ⟨_, rfl⟩
              have c2 := nq0.c2.1
              rw [hC] at c2
              have NQ0 := hide nq0
              have HCE := hide hC
              have HDE := hide hD
              have hCb : C ≤ 5000000 := by rw [← hC]; exact BD.out.ok
              have hDb : D ≤ 5000000 := by rw [← hD]; exact BD.out.oa
              clear nq0 hnp hC hD
              go_upto_region 22 with fail
              go_loopw [12, 92] (fun _ s92 wx => ∃ k : Nat, s92 = .int .i64 (k : Int) ∧ k ≤ C ∧ Hid (NQ O W lo G M0 KK AA mk sk ma sa tk ta (ndK O KK KR ++ ndA O AA AR) rb k wx)) (fun _ s92 _ => C - (intOf s92).toNat)
              case atStart => exact ⟨0, rfl, Nat.zero_le _, NQ0⟩
              case round =>
                obtain ⟨k, rfl, hkC, hnq⟩ := hrel
                by_cases hk : k < C
                · have hki : (k : Int) < (C : Int) := by omega
                  obtain ⟨bb, oo, cb, cc⟩ := hnq.out.kid GI0.out HB.out.kp HLO.out ht (by rw [HCE.out]; exact hk)
                  have CC := hide cc
                  clear cc hnq
                  go_wp2_with (go_at_call 41; refine CC.out.mono ?_; rintro e V4 ⟨⟨v4, rfl⟩, hn4⟩; have N4 := hide hn4; clear hn4)
                  go_roundw
                  case rel => exact ⟨k + 1, by go_num, by omega, N4⟩
                  case measure => simp [intOf]; omega
                · have hki : ¬ (k : Int) < (C : Int) := by omega
                  have ekC : k = C := by omega
                  have nqC := hnq.out
                  have c6 := nqC.c2.2
                  rw [HDE.out] at c6
                  rw [ekC] at nqC
                  have NQC := hide nqC
                  clear nqC hnq ekC
                  go_upto_region 27 with fail
                  go_loopw [14, 106] (fun _ s106 wx => ∃ k : Nat, s106 = .int .i64 (k : Int) ∧ k ≤ D ∧ Hid (NQ O W lo G M0 KK AA mk sk ma sa tk ta (ndK O KK KR ++ ndA O AA AR) rb (C + k) wx)) (fun _ s106 _ => D - (intOf s106).toNat)
                  case atStart => exact ⟨0, rfl, Nat.zero_le _, NQC⟩
                  case round =>
                    obtain ⟨k, rfl, hkD, hnq⟩ := hrel
                    by_cases hk : k < D
                    · have hki : (k : Int) < (D : Int) := by omega
                      have hal := NQ.alt (k := k) (by rw [HCE.out]; exact hnq.out) GI0.out HB.out.kp HLO.out ht (by rw [HDE.out]; exact hk)
                      rw [HCE.out] at hal
                      obtain ⟨bb, oo, cb, cc⟩ := hal
                      have CC := hide cc
                      clear cc hnq
                      go_wp2_with (go_at_call 41; refine CC.out.mono ?_; rintro e V4 ⟨⟨v4, rfl⟩, hn4⟩; have N4 := hide hn4; clear hn4)
                      go_roundw
                      case rel => exact ⟨k + 1, by go_num, by omega, N4⟩
                      case measure => simp [intOf]; omega
                    · have hki : ¬ (k : Int) < (D : Int) := by omega
                      have ekD : k = D := by omega
                      have GEE : Hid (GE W wr rb F G) := by
                        have nqD := hnq.out
                        rw [ekD, ← HCE.out, ← HDE.out] at nqD
                        exact nqD.fin (by rw [HTT.out]; exact GI0.out) hrf.out HO.out
                      clear hnq ekD
                      go_wp2_with fail
                      go_ret
                      exact ⟨G, rfl, GEE⟩
        · rw [List.concat_eq_append] at e0
          subst e0
          obtain ⟨r, cap, p1, p2, p3, p4, g6, o1, o2, o3, ocel⟩ := hgx.out.take
          obtain ⟨n0, hn0⟩ : ∃ n0, Q0.length = n0 := ⟨_, rfl⟩
          rw [hn0] at p1 p3 p4 g6
          obtain ⟨m, hm⟩ : ∃ m, n0 + 1 = m := ⟨_, rfl⟩
          rw [hm] at p1 p4
          have hmi : (m : Int) - 1 = (n0 : Int) := by omega
          have hm0 : (0 : Int) < (m : Int) := by omega
          have hnm : (n0 : Int) < (m : Int) := by omega
          have hnc : n0 ≤ cap := by omega
          have hnc2 : (n0 : Int) ≤ (cap : Int) := by omega
          have hmb : m ≤ 4000001 := by
            have := (hgx.out.2.1).bound.2.1
            rw [List.length_append] at this
            simp only [List.length_cons, List.length_nil] at this
            omega
          obtain ⟨V1, hV1⟩ : ∃ V1, wr.setCell ⟨wb, 0, none⟩ (.slice (some ⟨r, 0, none⟩) n0 cap) = V1 := ⟨_, rfl⟩
          rw [hV1] at g6
          obtain ⟨k, nm, mn, la, ln, lc, lk, na, nn, nc, nk, ka, kn, kc, kk, aa, an, ac, ak, hx, -, -, -, -, hf5, hf6⟩ := core_open o1.fit
          have HKC : Hid (∀ V, Kept (fun d => d < lo ∧ d ≠ G ∧ d ≠ wb) A7 V → V.cell? ⟨d.b, d.o + 5, none⟩ = some (.slice ka kn kc) ∧ V.cell? ⟨d.b, d.o + 6, none⟩ = some (.slice aa an ac)) := fun V kV => by
            have := ocel V kV
            rw [hx] at this
            exact ⟨this 5 _ rfl, this 6 _ rfl⟩
          have H36 : Hid (∀ V, Kept (fun _ => True) V1 V → Calls Try.prog 36 #[.pointer (some ⟨G, 0, none⟩), .slice ka kn kc, wfn wb] V fun e V' => ∃ v, e = .returned v ∧ (∃ K2 R2 Q2, GX O RG A7 (SB A7 lo G wb) lo G wb fb V' (KK ++ K2) AA (KR ++ R2) AR (Q0 ++ Q2) [d] ((blk aa ak.len ++ ak.inn) ++ []) (tcA ak + 0) tot ∧ (0 < kn → ∃ i b : Nat, ka = some ⟨b, O b, none⟩ ∧ (KK ++ K2)[i]? = some (b, kn) ∧ (KR ++ R2)[i]? = some kk) ∧ (Q2.map (fun d => tcK d.x)).sum = tcK kk)) := fun V kV => by
            refine ((gw_kept g6 kV).kids hx hf5 o1.subs o2 ht).mono ?_
            rintro e V' ⟨rfl, hq⟩
            exact ⟨_, rfl, hq⟩
          have H37 : Hid (∀ V KK' KR' Q', GX O RG A7 (SB A7 lo G wb) lo G wb fb V KK' AA KR' AR Q' [d] ((blk aa ak.len ++ ak.inn) ++ []) (tcA ak + 0) tot → (0 < kn → ∃ i b : Nat, ka = some ⟨b, O b, none⟩ ∧ KK'[i]? = some (b, kn) ∧ KR'[i]? = some kk) → Calls Try.prog 37 #[.pointer (some ⟨G, 4, none⟩), .slice aa an ac, afn fb] V fun e V' => ∃ v, e = .returned v ∧ (∃ AA' AR' Q2, GX O RG A7 (SB A7 lo G wb) lo G wb fb V' KK' AA' KR' AR' (Q' ++ Q2) [] [] 0 tot ∧ (Q2.map (fun d => tcK d.x)).sum = tcA ak)) := fun V KK' KR' Q' g7 hd7 => by
            refine (g7.alts hx hf6 o1.subs o2 ht hd7).mono ?_
            rintro e V' ⟨rfl, hq⟩
            exact ⟨_, rfl, hq⟩
          have HSM : Hid (tcK d.x = 1 + tcK kk + tcA ak) := by unfold Hid; rw [hx, tcK_nd, tcK_nil]; omega
          have HV1 := hide hV1
          have G6 := hide g6
          obtain ⟨a5, -⟩ := HKC.out V1 g6.2.2
          have a5' : V1.drew.cell? ⟨d.b, d.o + 5, none⟩ = some (.slice ka kn kc) := a5
          have af := g6.fbc
          have af' : V1.drew.cell? ⟨fb, 0, none⟩ = some (wfn wb) := af
          clear g6 hV1 o1 o2 o3 ocel hx hf5 hf6 hgx hm hn0
          go_upto_region 12 with fail
          rw [HV1.out]
          go_region_law (first
            | (refine step_call (by rfl) 36 #[.pointer (some ⟨G, 0, none⟩), .slice ka kn kc, wfn wb] (by simp [go_sem]) _ (H36.out _ (Kept.drew _ _)) ?_; rintro v5 W5 h5; have G5 := hide h5; clear h5)
            | fail)
          all_goals
            obtain ⟨K2, R2, Q2, g7, hd7, hs7⟩ := G5.out
            obtain ⟨-, b6⟩ := HKC.out W5 g7.2.2
            have b6' : W5.drew.cell? ⟨d.b, d.o + 6, none⟩ = some (.slice aa an ac) := b6
            have H38 := hide (H37.out W5.drew _ _ _ (gw_kept g7 (Kept.drew _ _)) hd7)
            have HS7 := hide hs7
            clear g7 hd7 hs7 G5
            go_upto_region 13 with fail
            go_region_law (first
              | (refine step_call (by rfl) 37 #[.pointer (some ⟨G, 4, none⟩), .slice aa an ac, afn fb] (by simp [go_sem, afn]) _ H38.out ?_; rintro v6 W6 h6; have G6' := hide h6; clear h6)
              | fail)
            all_goals
              go_wp2_with fail
              obtain ⟨AA', AR', Q3, g8, hs8⟩ := G6'.out
              go_roundg (((Q0 ++ Q2 ++ Q3).map (fun d : Nd => tcK d.x)).sum)
              case measure =>
                have h1 := HSM.out
                have h2 := HS7.out
                rw [hg.out]
                simp only [List.map_append, List.sum_append, List.map_cons, List.map_nil, List.sum_cons, List.sum_nil, h2, hs8, h1]
                omega
              case rel =>
                refine ⟨Q0 ++ Q2 ++ Q3, _, _, _, _, rfl, g8, ?_⟩
                obtain ⟨i, r1, r2⟩ := hrf.out
                exact ⟨i, by rw [List.getElem?_append_left (List.getElem?_eq_some_iff.1 r1).1]; exact r1, by rw [List.getElem?_append_left (List.getElem?_eq_some_iff.1 r2).1]; exact r2⟩

end Go.Proofs.Ytfgmgbkiebeeoaa
