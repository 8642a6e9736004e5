import Derived.Test.YtfgmgbkiebeeoaaSa
import Derived.Deep.RegionLaw
import Derived.Test.YtfgmgbkiebeeoaaZa
namespace Go.Proofs.Ytfgmgbkiebeeoaa
open Go.RowKit Go.Joins

theorem step_callg {P : Program} {ops : Array Oper} {o : Oper} {a : Act} {w : World} {K : Act → World → Prop} {Q : Exit → Act → World → Prop} {E : Prop} (hw : Region.wanted o (yielded ops a.tmps) = true) (f : FuncId) (args : Array Value) (hrun : (execOp a.eval o).run P w = .ok (.enter f args) w) (post : Value → World → Prop)
    (hc : Calls P f args w fun e w'' => ∃ v, e = .returned v ∧ post v w'') (h : ∀ v w', post v w' → K (a.put o.dst v) w') :
    if Region.wanted o (yielded ops a.tmps) = true then Oper.wp P o a w K Q else E := by
  rw [if_pos hw]
  unfold Oper.wp
  rw [hrun, Oper.upon_enter]
  refine hc.mono fun e w'' hh => ?_
  obtain ⟨v, rfl, hp⟩ := hh
  exact h v w'' hp

/-- What a comparison answers: whether D. -/
def SmP (D : Prop) (W : World) (e : Ending) (W' : World) : Prop := ∃ v : Bool, e = .returned (.bool v) ∧ (v = true ↔ D) ∧ Below W.heap.size W W'

theorem SmP.no {D : Prop} {W W' : World} (h : ¬ D) (b : Below W.heap.size W W') : SmP D W (.returned (.bool false)) W' := ⟨false, rfl, by simp [h], b⟩
theorem SmP.yes {D : Prop} {W W' : World} (h : D) (b : Below W.heap.size W W') : SmP D W (.returned (.bool true)) W' := ⟨true, rfl, by simp [h], b⟩

/-- The model's comparison. -/
def SmC (m : Nat) : Prop := ∀ (F G : Fo) (nb : Nat) (W : World), F.size ≤ m → Fit E F (E 3) → Fit E G (E 3) → nb ≤ W.heap.size → F.Subs W (fun c => c < nb) → G.Subs W (fun c => c < nb) →
  Calls Try.prog 10 #[.agg F.vals.toArray, .agg G.vals.toArray] W (SmP (G.sim F) W)

set_option maxHeartbeats 8000000 in
set_option maxRecDepth 100000 in
theorem sm_step (m : Nat) (ih : SmC m) : SmC (m + 1) := by
  intro F G nb W hm hf hg hnb hs ht
  obtain ⟨k, nm, mn, la, ln, lc, lk, na, nn, nc, nk, ka, kn, kc, kk, aa, an, ac, ak, rfl, -, -, h3, h4, h5, h6⟩ := core_open hf
  obtain ⟨k', nm', mn', la', ln', lc', lk', na', nn', nc', nk', ka', kn', kc', kk', aa', an', ac', ak', rfl, -, -, h3', h4', h5', h6'⟩ := core_open hg
  obtain ⟨hs3, hs4, hs5, hs6, -⟩ := hs
  obtain ⟨ht3, ht4, ht5, ht6, -⟩ := ht
  simp only [Fo.size] at hm
  simp only [Fo.vals]
  obtain ⟨D, hD⟩ : ∃ D : Prop, (Fo.sim (.v (.int .i64 k') (.v (.string nm') (.v (.bool mn') (.s la' ln' lc' lk' (.s na' nn' nc' nk' (.s ka' kn' kc' kk' (.s aa' an' ac' ak' .nil)))))))
    (.v (.int .i64 k) (.v (.string nm) (.v (.bool mn) (.s la ln lc lk (.s na nn nc nk (.s ka kn kc kk (.s aa an ac ak .nil))))))) ) = D := ⟨_, rfl⟩
  rw [hD]
  have HD : Hid (D ↔ (k' = k ∧ nm' = nm ∧ mn' = mn ∧ ln' = ln ∧ lk'.sim lk ∧ nn' = nn ∧ nk'.sim nk ∧ kn' = kn ∧ kk'.sim kk ∧ an' = an ∧ ak'.sim ak)) := by
    unfold Hid
    rw [← hD]
    simp [Fo.sim]
  clear hD
  have hkx : kn ≤ 9223372036854775807 := Nat.le_trans hs5.1 hs5.2.1
  have hkx' : kn' ≤ 9223372036854775807 := Nat.le_trans ht5.1 ht5.2.1
  have hax : an ≤ 9223372036854775807 := Nat.le_trans hs6.1 hs6.2.1
  have hax' : an' ≤ 9223372036854775807 := Nat.le_trans ht6.1 ht6.2.1
  have hlx : ln ≤ 9223372036854775807 := Nat.le_trans hs3.1 hs3.2.1
  have hlx' : ln' ≤ 9223372036854775807 := Nat.le_trans ht3.1 ht3.2.1
  obtain ⟨V0, hV0⟩ : ∃ V, (W.alloc (.cells #[.int .i64 k, .string nm, .bool mn, .slice la ln lc, .slice na nn nc, .slice ka kn kc, .slice aa an ac] 36)).alloc (.cells #[.int .i64 k', .string nm', .bool mn', .slice la' ln' lc', .slice na' nn' nc', .slice ka' kn' kc', .slice aa' an' ac'] 36) = V := ⟨_, rfl⟩
  have b0 : Below W.heap.size W V0 := by rw [← hV0]; exact below_alloc2 _ _ _
  have z0 : V0.heap.size = W.heap.size + 2 := by rw [← hV0]; simp
  have q0 : Bx V0 W.heap.size [.int .i64 k, .string nm, .bool mn, .slice la ln lc, .slice na nn nc, .slice ka kn kc, .slice aa an ac] := by rw [← hV0]; exact (Bx.new _ _ _).below (below_alloc1 _ _)
  have q1 : Bx V0 (W.heap.size + 1) [.int .i64 k', .string nm', .bool mn', .slice la' ln' lc', .slice na' nn' nc', .slice ka' kn' kc', .slice aa' an' ac'] := by
    rw [← hV0]
    have h := Bx.new (W.alloc (.cells #[.int .i64 k, .string nm, .bool mn, .slice la ln lc, .slice na nn nc, .slice ka kn kc, .slice aa an ac] 36)) [.int .i64 k', .string nm', .bool mn', .slice la' ln' lc', .slice na' nn' nc', .slice ka' kn' kc', .slice aa' an' ac'] 36
    simp only [World.size_alloc] at h
    exact h
  have HQ : Hid (∀ V, Below V0.heap.size V0 V → Bx V W.heap.size [.int .i64 k, .string nm, .bool mn, .slice la ln lc, .slice na nn nc, .slice ka kn kc, .slice aa an ac] ∧ Bx V (W.heap.size + 1) [.int .i64 k', .string nm', .bool mn', .slice la' ln' lc', .slice na' nn' nc', .slice ka' kn' kc', .slice aa' an' ac']) := fun V bV => ⟨q0.below bV, q1.below bV⟩
  have HBW : Hid (∀ V, Below V0.heap.size V0 V → Below W.heap.size W V) := fun V k => b0.trans (k.mono b0.size)
  have HCN := hide (sm_28 nk nk' nn nn' nb V0 na na' nc nc' h4 h4' (by omega) ((show Fo.Subs W (fun c => c < nb) (.s na nn nc nk .nil) from ⟨hs4, trivial⟩).below b0 (fun c hc => by have : c < nb := hc; omega)).1 ((show Fo.Subs W (fun c => c < nb) (.s na' nn' nc' nk' .nil) from ⟨ht4, trivial⟩).below b0 (fun c hc => by have : c < nb := hc; omega)).1)
  have HRL := hide ((Rd.start h3 hs3).below b0 hnb)
  have HRL' := hide ((Rd.start h3' ht3).below b0 hnb)
  have HRK := hide ((Rd.start h5 hs5).below b0 hnb)
  have HRK' := hide ((Rd.start h5' ht5).below b0 hnb)
  have HRA := hide ((Rd.start h6 hs6).below b0 hnb)
  have HRA' := hide ((Rd.start h6' ht6).below b0 hnb)
  have HM : Hid (kk.size ≤ m ∧ ak.size ≤ m ∧ nb ≤ V0.heap.size) := ⟨by omega, by omega, by omega⟩
  have a0 := q0.cel 0 _ rfl
  have a1 := q0.cel 1 _ rfl
  have a2 := q0.cel 2 _ rfl
  have a3 := q0.cel 3 _ rfl
  have a4 := q0.cel 4 _ rfl
  have a5 := q0.cel 5 _ rfl
  have a6 := q0.cel 6 _ rfl
  have d0 := q1.cel 0 _ rfl
  have d1 := q1.cel 1 _ rfl
  have d2 := q1.cel 2 _ rfl
  have d3 := q1.cel 3 _ rfl
  have d4 := q1.cel 4 _ rfl
  have d5 := q1.cel 5 _ rfl
  have d6 := q1.cel 6 _ rfl
  have HV0 := hide hV0
  clear hV0 b0 q0 q1 z0 hs3 hs4 hs5 hs6 ht3 ht4 ht5 ht6 hf hg hm h3 h4 h5 h6 h3' h4' h5' h6' hnb
  by_cases hk : k = k'
  · subst hk
    by_cases hn : nm = nm'
    · subst hn
      by_cases hkn : kn = kn'
      · subst hkn
        by_cases han : an = an'
        · subst han
          by_cases hmn : mn = mn'
          · subst hmn
            by_cases hln : ln = ln'
            · subst hln
              have HD2 : Hid (D ↔ ((nn = nn' ∧ nk'.sim nk) ∧ lk'.sim lk ∧ kk'.sim kk ∧ ak'.sim ak)) := by
                refine HD.out.trans ⟨fun h => ⟨⟨h.2.2.2.2.2.1.symm, h.2.2.2.2.2.2.1⟩, h.2.2.2.2.1, h.2.2.2.2.2.2.2.2.1, h.2.2.2.2.2.2.2.2.2.2⟩, fun h => ⟨rfl, rfl, rfl, rfl, h.2.1, h.1.1.symm, h.1.2, rfl, h.2.2.1, rfl, h.2.2.2⟩⟩
              clear HD
              go_enter Try.func10, Try.ntmps10
              go_upto_region 1 with fail
              rw [HV0.out]
              clear HV0
              go_wp2_with fail
              refine HCN.out.mono ?_
              rintro e w1 ⟨v, rfl, hv, b1⟩
              have B1 := hide b1
              obtain ⟨e0, e1⟩ := HQ.out w1 b1
              have f2 := e0.cel 2 _ rfl
              have f3 := e0.cel 3 _ rfl
              have f5 := e0.cel 5 _ rfl
              have f6 := e0.cel 6 _ rfl
              have g2 := e1.cel 2 _ rfl
              have g3 := e1.cel 3 _ rfl
              have g5 := e1.cel 5 _ rfl
              have g6 := e1.cel 6 _ rfl
              clear a0 a1 a2 a3 a4 a5 a6 d0 d1 d2 d3 d4 d5 d6
              cases v with
              | false =>
                have HNS : Hid (¬ D) := fun e => absurd (hv.2 (HD2.out.1 e).1) (by simp)
                clear hv b1 e0 e1
                go_wp2_with fail
                go_ret
                exact SmP.no HNS.out (HBW.out _ B1.out)
              | true =>
                have HD3 : Hid (D ↔ (lk'.sim lk ∧ kk'.sim kk ∧ ak'.sim ak)) := HD2.out.trans ⟨fun h => h.2, fun h => ⟨hv.1 rfl, h⟩⟩
                have HRL1 := hide (HRL.out.below b1 HM.out.2.2)
                have HRL2 := hide (HRL'.out.below b1 HM.out.2.2)
                clear hv b1 e0 e1 HD2 HRL HRL'
                go_upto_region 4 with fail
                clear f2 f3 f5 f6 g2 g3 g5 g6
                go_loopw [5] (fun s5 wr => ∃ (i : Nat) (r q : Fo), s5 = .int .i64 i ∧ i ≤ ln ∧ Hid (D ↔ (q.sim r ∧ kk'.sim kk ∧ ak'.sim ak)) ∧ Hid (Rd E (E 0) ln nb la i r wr) ∧ Hid (Rd E (E 0) ln nb la' i q wr) ∧ Hid (Below V0.heap.size V0 wr)) (fun s5 _ => ln - (intOf s5).toNat)
                case atStart => exact ⟨0, lk, lk', rfl, Nat.zero_le _, HD3, HRL1, HRL2, B1⟩
                case round =>
                  clear HD3 HRL1 HRL2 B1
                  obtain ⟨i, r, q, rfl, hin, hrq, hR, hR', hB⟩ := hrel
                  obtain ⟨e0, e1⟩ := HQ.out wr hB.out
                  have f3 := e0.cel 3 _ rfl
                  have g3 := e1.cel 3 _ rfl
                  obtain ⟨e0d, e1d⟩ := HQ.out wr.drew hB.out.drew
                  have f3d := e0d.cel 3 _ rfl
                  have g3d := e1d.cel 3 _ rfl
                  clear e0 e1 e0d e1d
                  by_cases hi : i < ln
                  · obtain ⟨x, rr, g, o, rfl, hx, rfl, hg, hc, hxs, hR1⟩ := hR.out.next hi (by decide)
                    obtain ⟨y, qq, g', o', rfl, hy, rfl, hg', hc', hys, hR1'⟩ := hR'.out.next hi (by decide)
                    have hbz := hB.out.size
                    have HR1 := hide (hR1.below ((Below.refl wr.heap.size wr).drew) (by have := HM.out; omega))
                    have HR1' := hide (hR1'.below ((Below.refl wr.heap.size wr).drew) (by have := HM.out; omega))
                    have HBN := hide hB.out.drew
                    have hii : (i : Int) < ln := by omega
                    clear hR hR' hR1 hR1'
                    replace hx : Fit E x [.u] := hx
                    obtain ⟨x0, F0, rfl, -, hx⟩ := fit_u hx
                    obtain rfl := fit_nil hx
                    replace hy : Fit E y [.u] := hy
                    obtain ⟨y0, G0, rfl, -, hy⟩ := fit_u hy
                    obtain rfl := fit_nil hy
                    have p0 : wr.cell? ⟨g, o + i * 1, none⟩ = some (.int .u32 x0) := hc 0 _ rfl
                    have p1 : wr.cell? ⟨g', o' + i * 1, none⟩ = some (.int .u32 y0) := hc' 0 _ rfl
                    rw [Nat.mul_one] at p0 p1
                    have p0d : wr.drew.cell? ⟨g, o + i, none⟩ = some (.int .u32 x0) := p0
                    have p1d : wr.drew.cell? ⟨g', o' + i, none⟩ = some (.int .u32 y0) := p1
                    have HQ' : Hid (D ↔ ((y0 = x0 ∧ qq.sim rr) ∧ kk'.sim kk ∧ ak'.sim ak)) := by
                      refine hrq.out.trans ?_
                      simp only [Fo.app, Fo.sim]
                      simp
                    clear hc hc' hxs hys hbz hrq hx hy
                    by_cases hxy : x0 = y0
                    · subst hxy
                      have HQ2 : Hid (D ↔ (qq.sim rr ∧ kk'.sim kk ∧ ak'.sim ak)) := by
                        refine HQ'.out.trans ?_
                        simp
                      clear HQ'
                      go_upto_region 6 with fail
                      go_region
                      all_goals
                        go_wp2_with fail
                        go_roundw
                        case rel => exact ⟨i + 1, rr, qq, by go_num, by omega, HQ2, HR1, HR1', HBN⟩
                        case measure => simp [intOf]; omega
                    · have HNS : Hid (¬ D) := fun e => hxy (HQ'.out.1 e).1.1.symm
                      have hne : (x0 != y0) = true := by rw [bne_iff_ne]; exact hxy
                      clear HQ'
                      go_upto_region 6 with fail
                      go_region
                      all_goals
                        go_wp2_with fail
                        go_ret
                        exact SmP.no HNS.out (HBW.out _ HBN.out)
                  · have hii : ¬ (i : Int) < ln := by omega
                    obtain ⟨rfl, -⟩ := hR.out.done hi
                    obtain ⟨rfl, -⟩ := hR'.out.done hi
                    have HD4 : Hid (D ↔ (kk'.sim kk ∧ ak'.sim ak)) := hrq.out.trans ⟨fun h => h.2, fun h => ⟨trivial, h⟩⟩
                    have HRK1 := hide (HRK.out.below hB.out HM.out.2.2)
                    have HRK2 := hide (HRK'.out.below hB.out HM.out.2.2)
                    clear hrq hR hR' g3d f3d
                    go_upto_region 9 with fail
                    clear f3 g3
                    go_loopw [6] (fun s6 wr => ∃ (i : Nat) (r q : Fo), s6 = .int .i64 i ∧ i ≤ kn ∧ Hid (D ↔ (q.sim r ∧ ak'.sim ak)) ∧ Hid (Rd E (E 3) kn nb ka i r wr) ∧ Hid (Rd E (E 3) kn nb ka' i q wr) ∧ Hid (Below V0.heap.size V0 wr) ∧ Hid (r.size ≤ kk.size)) (fun s6 _ => kn - (intOf s6).toNat)
                    case atStart => exact ⟨0, kk, kk', rfl, Nat.zero_le _, HD4, HRK1, HRK2, hB, Nat.le_refl _⟩
                    case round =>
                      clear HD4 HRK1 HRK2 hB
                      obtain ⟨i, r, q, rfl, hin, hrq, hR, hR', hB, hrs⟩ := hrel
                      obtain ⟨e0, e1⟩ := HQ.out wr hB.out
                      have f5 := e0.cel 5 _ rfl
                      have g5 := e1.cel 5 _ rfl
                      clear e0 e1
                      by_cases hi : i < kn
                      · obtain ⟨x, rr, g, o, rfl, hx, rfl, hg, hc, hxs, hR1⟩ := hR.out.next hi (by decide)
                        obtain ⟨y, qq, g', o', rfl, hy, rfl, hg', hc', hys, hR1'⟩ := hR'.out.next hi (by decide)
                        have hbz := hB.out.size
                        have hii : (i : Int) < kn := by omega
                        have hm2 := HM.out
                        have hxz : x.size ≤ m ∧ rr.size ≤ kk.size := by have h := hrs.out; rw [Fo.app_size] at h; omega
                        have bd : Below wr.heap.size wr wr.drew := (Below.refl wr.heap.size wr).drew
                        have hwz : nb ≤ wr.heap.size := by omega
                        have HC0 := ih x y nb wr.drew hxz.1 hx hy hwz (hxs.below bd (fun c hc => by have : c < nb := hc; omega)) (hys.below bd (fun c hc => by have : c < nb := hc; omega))
                        have HRN : Hid (∀ V, Below wr.heap.size wr.drew V → Rd E (E 3) kn nb (some ⟨g, o, none⟩) (i + 1) rr V ∧ Rd E (E 3) kn nb (some ⟨g', o', none⟩) (i + 1) qq V ∧ Below V0.heap.size V0 V) := fun V bV => by
                          have b2 : Below wr.heap.size wr V := bd.trans bV
                          exact ⟨hR1.below b2 hwz, hR1'.below b2 hwz, hB.out.trans (b2.mono hbz)⟩
                        have HSQ : Hid (∀ V, Below wr.heap.size wr V → Cel V x.vals g (o + i * 7) ∧ Cel V y.vals g' (o' + i * 7)) := fun V bV => ⟨hc.below bV (by have : g < nb := hg; omega), hc'.below bV (by have : g' < nb := hg'; omega)⟩
                        have hsx : (y.app qq).sim (x.app rr) ↔ (y.sim x ∧ qq.sim rr) := by
                          obtain ⟨xk, xnm, xmn, xla, xln, xlc, xlk, xna, xnn, xnc, xnk, xka, xkn, xkc, xkk, xaa, xan, xac, xak, rfl, -⟩ := core_open hx
                          obtain ⟨yk, ynm, ymn, yla, yln, ylc, ylk, yna, ynn, ync, ynk, yka, ykn, ykc, ykk, yaa, yan, yac, yak, rfl, -⟩ := core_open hy
                          simp only [Fo.app, Fo.sim]
                          simp only [and_assoc, true_and]
                        have HRS : Hid (rr.size ≤ kk.size) := hxz.2
                        have HQ' : Hid (D ↔ ((y.sim x ∧ qq.sim rr) ∧ ak'.sim ak)) := hrq.out.trans (and_congr_left' hsx)
                        obtain ⟨P, hP⟩ : ∃ P, y.sim x = P := ⟨_, rfl⟩
                        rw [hP] at HQ' HC0
                        obtain ⟨xk, xnm, xmn, xla, xln, xlc, xlk, xna, xnn, xnc, xnk, xka, xkn, xkc, xkk, xaa, xan, xac, xak, rfl, -⟩ := core_open hx
                        obtain ⟨yk, ynm, ymn, yla, yln, ylc, ylk, yna, ynn, ync, ynk, yka, ykn, ykc, ykk, yaa, yan, yac, yak, rfl, -⟩ := core_open hy
                        simp only [Fo.vals] at HC0 HSQ
                        have HSS : Hid (∀ V, Below wr.heap.size wr V → V.cell? ⟨W.heap.size, 5, none⟩ = some (.slice (some ⟨g, o, none⟩) kn kc) ∧ V.cell? ⟨W.heap.size + 1, 5, none⟩ = some (.slice (some ⟨g', o', none⟩) kn kc') ∧ V.cell? ⟨g, o + i * 7, none⟩ = some (.int .i64 xk) ∧ V.cell? ⟨g, o + i * 7 + 1, none⟩ = some (.string xnm) ∧ V.cell? ⟨g, o + i * 7 + 2, none⟩ = some (.bool xmn) ∧ V.cell? ⟨g, o + i * 7 + 3, none⟩ = some (.slice xla xln xlc) ∧ V.cell? ⟨g, o + i * 7 + 4, none⟩ = some (.slice xna xnn xnc) ∧ V.cell? ⟨g, o + i * 7 + 5, none⟩ = some (.slice xka xkn xkc) ∧ V.cell? ⟨g, o + i * 7 + 6, none⟩ = some (.slice xaa xan xac) ∧ V.cell? ⟨g', o' + i * 7, none⟩ = some (.int .i64 yk) ∧ V.cell? ⟨g', o' + i * 7 + 1, none⟩ = some (.string ynm) ∧ V.cell? ⟨g', o' + i * 7 + 2, none⟩ = some (.bool ymn) ∧ V.cell? ⟨g', o' + i * 7 + 3, none⟩ = some (.slice yla yln ylc) ∧ V.cell? ⟨g', o' + i * 7 + 4, none⟩ = some (.slice yna ynn ync) ∧ V.cell? ⟨g', o' + i * 7 + 5, none⟩ = some (.slice yka ykn ykc) ∧ V.cell? ⟨g', o' + i * 7 + 6, none⟩ = some (.slice yaa yan yac)) := fun V bV => by
                          obtain ⟨e0, e1⟩ := HQ.out V (hB.out.trans (bV.mono hbz))
                          obtain ⟨j0, j1⟩ := HSQ.out V bV
                          exact ⟨e0.cel 5 _ rfl, e1.cel 5 _ rfl, j0 0 _ rfl, j0 1 _ rfl, j0 2 _ rfl, j0 3 _ rfl, j0 4 _ rfl, j0 5 _ rfl, j0 6 _ rfl, j1 0 _ rfl, j1 1 _ rfl, j1 2 _ rfl, j1 3 _ rfl, j1 4 _ rfl, j1 5 _ rfl, j1 6 _ rfl⟩
                        have k0' := HSS.out wr.drew bd
                        have HBD := hide bd
                        clear hc hc' hxs hys hbz hrq hx hy hR hR' hR1 hR1' hg hg' hrs hxz bd hwz hsx hP HSQ hm2
                        by_cases hyx : P
                        · have HC : Hid (Calls Try.prog 10 #[.agg #[.int .i64 xk, .string xnm, .bool xmn, .slice xla xln xlc, .slice xna xnn xnc, .slice xka xkn xkc, .slice xaa xan xac], .agg #[.int .i64 yk, .string ynm, .bool ymn, .slice yla yln ylc, .slice yna ynn ync, .slice yka ykn ykc, .slice yaa yan yac]] wr.drew fun e w' => e = .returned (.bool true) ∧ Below wr.heap.size wr.drew w') := HC0.mono (fun e w' h => by
                            obtain ⟨v, rfl, hv, hb⟩ := h
                            rw [hv.2 hyx]
                            exact ⟨rfl, hb⟩)
                          have HQ2 : Hid (D ↔ (qq.sim rr ∧ ak'.sim ak)) := HQ'.out.trans ⟨fun h => ⟨h.1.2, h.2⟩, fun h => ⟨⟨hyx, h.1⟩, h.2⟩⟩
                          clear HQ' HC0
                          go_upto_region 11 with fail
                          go_region_held3 (fun V => V.cell? ⟨W.heap.size, 5, none⟩ = some (.slice (some ⟨g, o, none⟩) kn kc) ∧ V.cell? ⟨W.heap.size + 1, 5, none⟩ = some (.slice (some ⟨g', o', none⟩) kn kc') ∧ V.cell? ⟨g, o + i * 7, none⟩ = some (.int .i64 xk) ∧ V.cell? ⟨g, o + i * 7 + 1, none⟩ = some (.string xnm) ∧ V.cell? ⟨g, o + i * 7 + 2, none⟩ = some (.bool xmn) ∧ V.cell? ⟨g, o + i * 7 + 3, none⟩ = some (.slice xla xln xlc) ∧ V.cell? ⟨g, o + i * 7 + 4, none⟩ = some (.slice xna xnn xnc) ∧ V.cell? ⟨g, o + i * 7 + 5, none⟩ = some (.slice xka xkn xkc) ∧ V.cell? ⟨g, o + i * 7 + 6, none⟩ = some (.slice xaa xan xac) ∧ V.cell? ⟨g', o' + i * 7, none⟩ = some (.int .i64 yk) ∧ V.cell? ⟨g', o' + i * 7 + 1, none⟩ = some (.string ynm) ∧ V.cell? ⟨g', o' + i * 7 + 2, none⟩ = some (.bool ymn) ∧ V.cell? ⟨g', o' + i * 7 + 3, none⟩ = some (.slice yla yln ylc) ∧ V.cell? ⟨g', o' + i * 7 + 4, none⟩ = some (.slice yna ynn ync) ∧ V.cell? ⟨g', o' + i * 7 + 5, none⟩ = some (.slice yka ykn ykc) ∧ V.cell? ⟨g', o' + i * 7 + 6, none⟩ = some (.slice yaa yan yac))
                            (first | with_reducible exact k9' | with_reducible exact k0')
                            (first
                              | (go_at_call 10; refine HC.out.mono ?_; rintro e w9 ⟨rfl, b9⟩; have k9' := HSS.out w9 (HBD.out.trans b9); have B9 := hide b9; clear b9))
                          all_goals
                            go_wp2_with fail
                            obtain ⟨r1, r2, r3⟩ := HRN.out w9 B9.out
                            go_roundw
                            case rel => exact ⟨i + 1, rr, qq, by go_num, by omega, HQ2, r1, r2, r3, HRS⟩
                            case measure => simp [intOf]; omega
                        · have HC : Hid (Calls Try.prog 10 #[.agg #[.int .i64 xk, .string xnm, .bool xmn, .slice xla xln xlc, .slice xna xnn xnc, .slice xka xkn xkc, .slice xaa xan xac], .agg #[.int .i64 yk, .string ynm, .bool ymn, .slice yla yln ylc, .slice yna ynn ync, .slice yka ykn ykc, .slice yaa yan yac]] wr.drew fun e w' => e = .returned (.bool false) ∧ Below wr.heap.size wr.drew w') := HC0.mono (fun e w' h => by
                            obtain ⟨v, rfl, hv, hb⟩ := h
                            cases v with
                            | true => exact absurd (hv.1 rfl) hyx
                            | false => exact ⟨rfl, hb⟩)
                          have HNS : Hid (¬ D) := fun e => hyx (HQ'.out.1 e).1.1
                          clear HQ' HC0
                          go_upto_region 11 with fail
                          go_region_held3 (fun V => V.cell? ⟨W.heap.size, 5, none⟩ = some (.slice (some ⟨g, o, none⟩) kn kc) ∧ V.cell? ⟨W.heap.size + 1, 5, none⟩ = some (.slice (some ⟨g', o', none⟩) kn kc') ∧ V.cell? ⟨g, o + i * 7, none⟩ = some (.int .i64 xk) ∧ V.cell? ⟨g, o + i * 7 + 1, none⟩ = some (.string xnm) ∧ V.cell? ⟨g, o + i * 7 + 2, none⟩ = some (.bool xmn) ∧ V.cell? ⟨g, o + i * 7 + 3, none⟩ = some (.slice xla xln xlc) ∧ V.cell? ⟨g, o + i * 7 + 4, none⟩ = some (.slice xna xnn xnc) ∧ V.cell? ⟨g, o + i * 7 + 5, none⟩ = some (.slice xka xkn xkc) ∧ V.cell? ⟨g, o + i * 7 + 6, none⟩ = some (.slice xaa xan xac) ∧ V.cell? ⟨g', o' + i * 7, none⟩ = some (.int .i64 yk) ∧ V.cell? ⟨g', o' + i * 7 + 1, none⟩ = some (.string ynm) ∧ V.cell? ⟨g', o' + i * 7 + 2, none⟩ = some (.bool ymn) ∧ V.cell? ⟨g', o' + i * 7 + 3, none⟩ = some (.slice yla yln ylc) ∧ V.cell? ⟨g', o' + i * 7 + 4, none⟩ = some (.slice yna ynn ync) ∧ V.cell? ⟨g', o' + i * 7 + 5, none⟩ = some (.slice yka ykn ykc) ∧ V.cell? ⟨g', o' + i * 7 + 6, none⟩ = some (.slice yaa yan yac))
                            (first | with_reducible exact k9' | with_reducible exact k0')
                            (first
                              | (go_at_call 10; refine HC.out.mono ?_; rintro e w9 ⟨rfl, b9⟩; have k9' := HSS.out w9 (HBD.out.trans b9); have B9 := hide b9; clear b9))
                          all_goals
                            go_wp2_with fail
                            go_ret
                            exact SmP.no HNS.out (HBW.out _ (HRN.out w9 B9.out).2.2)
                      · have hii : ¬ (i : Int) < kn := by omega
                        obtain ⟨rfl, -⟩ := hR.out.done hi
                        obtain ⟨rfl, -⟩ := hR'.out.done hi
                        have HD5 : Hid (D ↔ ak'.sim ak) := hrq.out.trans ⟨fun h => h.2, fun h => ⟨trivial, h⟩⟩
                        have HRA1 := hide (HRA.out.below hB.out HM.out.2.2)
                        have HRA2 := hide (HRA'.out.below hB.out HM.out.2.2)
                        clear hrq hR hR' hrs
                        go_upto_region 14 with fail
                        clear f5 g5
                        go_loopw [7] (fun s7 wr => ∃ (i : Nat) (r q : Fo), s7 = .int .i64 i ∧ i ≤ an ∧ Hid (D ↔ q.sim r) ∧ Hid (Rd E (E 2) an nb aa i r wr) ∧ Hid (Rd E (E 2) an nb aa' i q wr) ∧ Hid (Below V0.heap.size V0 wr) ∧ Hid (r.size ≤ ak.size)) (fun s7 _ => an - (intOf s7).toNat)
                        case atStart => exact ⟨0, ak, ak', rfl, Nat.zero_le _, HD5, HRA1, HRA2, hB, Nat.le_refl _⟩
                        case round =>
                          clear HD5 HRA1 HRA2 hB
                          obtain ⟨i, r, q, rfl, hin, hrq, hR, hR', hB, hrs⟩ := hrel
                          obtain ⟨e0, e1⟩ := HQ.out wr hB.out
                          have f6 := e0.cel 6 _ rfl
                          have g6 := e1.cel 6 _ rfl
                          clear e0 e1
                          by_cases hi : i < an
                          · obtain ⟨xx, rr, g, o, rfl, hxx, rfl, hg, hc, hxs, hR1⟩ := hR.out.next hi (by decide)
                            obtain ⟨yy, qq, g', o', rfl, hyy, rfl, hg', hc', hys, hR1'⟩ := hR'.out.next hi (by decide)
                            obtain ⟨con, ca, cn, cc, ck, x, rfl, -, hck, hx⟩ := alt_open hxx
                            obtain ⟨con', ca', cn', cc', ck', y, rfl, -, hck', hy⟩ := alt_open hyy
                            obtain ⟨hxs1, hxs2⟩ := hxs
                            obtain ⟨hys1, hys2⟩ := hys
                            have hbz := hB.out.size
                            have hii : (i : Int) < an := by omega
                            have hm2 := HM.out
                            have hxz : x.size ≤ m ∧ rr.size ≤ ak.size := by have h := hrs.out; rw [Fo.app_size] at h; simp only [Fo.size] at h; omega
                            have bd : Below wr.heap.size wr wr.drew := (Below.refl wr.heap.size wr).drew
                            have hwz : nb ≤ wr.heap.size := by omega
                            have hnw : ∀ c, c < nb → c < wr.heap.size := fun c hc => by omega
                            have HN0 := sm_28 ck ck' cn cn' nb wr.drew ca ca' cc cc' hck hck' hwz (Fo.Sub.below bd hnw hxs1) (Fo.Sub.below bd hnw hys1)
                            have HC0 : Hid (∀ V, Below wr.heap.size wr.drew V → Calls Try.prog 10 #[.agg x.vals.toArray, .agg y.vals.toArray] V (SmP (y.sim x) V)) := fun V bV => by
                              have b2 : Below wr.heap.size wr V := bd.trans bV
                              exact ih x y nb V hxz.1 hx hy (Nat.le_trans hwz b2.size) (hxs2.below b2 hnw) (hys2.below b2 hnw)
                            have HRN : Hid (∀ V, Below wr.heap.size wr.drew V → Rd E (E 2) an nb (some ⟨g, o, none⟩) (i + 1) rr V ∧ Rd E (E 2) an nb (some ⟨g', o', none⟩) (i + 1) qq V ∧ Below V0.heap.size V0 V) := fun V bV => by
                              have b2 : Below wr.heap.size wr V := bd.trans bV
                              exact ⟨hR1.below b2 hwz, hR1'.below b2 hwz, hB.out.trans (b2.mono hbz)⟩
                            have HSQ : Hid (∀ V, Below wr.heap.size wr V → Cel V (Fo.vals (.v (.string con) (.s ca cn cc ck x))) g (o + i * 9) ∧ Cel V (Fo.vals (.v (.string con') (.s ca' cn' cc' ck' y))) g' (o' + i * 9)) := fun V bV => ⟨hc.below bV (by have : g < nb := hg; omega), hc'.below bV (by have : g' < nb := hg'; omega)⟩
                            have hsx : (Fo.app (.v (.string con') (.s ca' cn' cc' ck' y)) qq).sim (Fo.app (.v (.string con) (.s ca cn cc ck x)) rr) ↔ (con' = con ∧ (cn = cn' ∧ ck'.sim ck) ∧ y.sim x ∧ qq.sim rr) := by
                              obtain ⟨xk, xnm, xmn, xla, xln, xlc, xlk, xna, xnn, xnc, xnk, xka, xkn, xkc, xkk, xaa, xan, xac, xak, rfl, -⟩ := core_open hx
                              obtain ⟨yk, ynm, ymn, yla, yln, ylc, ylk, yna, ynn, ync, ynk, yka, ykn, ykc, ykk, yaa, yan, yac, yak, rfl, -⟩ := core_open hy
                              simp only [Fo.app, Fo.sim, Value.string.injEq, and_assoc, true_and]
                              constructor
                              · rintro ⟨h1, h2, h3, h4⟩
                                exact ⟨h1, h2.symm, h3, h4⟩
                              · rintro ⟨h1, h2, h3, h4⟩
                                exact ⟨h1, h2.symm, h3, h4⟩
                            have HRS : Hid (rr.size ≤ ak.size) := hxz.2
                            have HQ' : Hid (D ↔ (con' = con ∧ (cn = cn' ∧ ck'.sim ck) ∧ y.sim x ∧ qq.sim rr)) := hrq.out.trans hsx
                            obtain ⟨P, hP⟩ : ∃ P, y.sim x = P := ⟨_, rfl⟩
                            obtain ⟨Q0, hQ0⟩ : ∃ Q, (cn = cn' ∧ ck'.sim ck) = Q := ⟨_, rfl⟩
                            rw [hP] at HC0
                            rw [hP, hQ0] at HQ'
                            simp only [hQ0] at HN0
                            obtain ⟨xk, xnm, xmn, xla, xln, xlc, xlk, xna, xnn, xnc, xnk, xka, xkn, xkc, xkk, xaa, xan, xac, xak, rfl, -⟩ := core_open hx
                            obtain ⟨yk, ynm, ymn, yla, yln, ylc, ylk, yna, ynn, ync, ynk, yka, ykn, ykc, ykk, yaa, yan, yac, yak, rfl, -⟩ := core_open hy
                            simp only [Fo.vals] at HC0 HSQ
                            have HSS : Hid (∀ V, Below wr.heap.size wr V → (V.cell? ⟨W.heap.size, 6, none⟩ = some (.slice (some ⟨g, o, none⟩) an ac) ∧ V.cell? ⟨W.heap.size + 1, 6, none⟩ = some (.slice (some ⟨g', o', none⟩) an ac')) ∧ (V.cell? ⟨g, o + i * 9, none⟩ = some (.string con) ∧ V.cell? ⟨g, o + i * 9 + 1, none⟩ = some (.slice ca cn cc) ∧ V.cell? ⟨g', o' + i * 9, none⟩ = some (.string con') ∧ V.cell? ⟨g', o' + i * 9 + 1, none⟩ = some (.slice ca' cn' cc')) ∧ (V.cell? ⟨g, o + i * 9 + 2, none⟩ = some (.int .i64 xk) ∧ V.cell? ⟨g, o + i * 9 + 2 + 1, none⟩ = some (.string xnm) ∧ V.cell? ⟨g, o + i * 9 + 2 + 2, none⟩ = some (.bool xmn) ∧ V.cell? ⟨g, o + i * 9 + 2 + 3, none⟩ = some (.slice xla xln xlc) ∧ V.cell? ⟨g, o + i * 9 + 2 + 4, none⟩ = some (.slice xna xnn xnc) ∧ V.cell? ⟨g, o + i * 9 + 2 + 5, none⟩ = some (.slice xka xkn xkc) ∧ V.cell? ⟨g, o + i * 9 + 2 + 6, none⟩ = some (.slice xaa xan xac)) ∧ (V.cell? ⟨g', o' + i * 9 + 2, none⟩ = some (.int .i64 yk) ∧ V.cell? ⟨g', o' + i * 9 + 2 + 1, none⟩ = some (.string ynm) ∧ V.cell? ⟨g', o' + i * 9 + 2 + 2, none⟩ = some (.bool ymn) ∧ V.cell? ⟨g', o' + i * 9 + 2 + 3, none⟩ = some (.slice yla yln ylc) ∧ V.cell? ⟨g', o' + i * 9 + 2 + 4, none⟩ = some (.slice yna ynn ync) ∧ V.cell? ⟨g', o' + i * 9 + 2 + 5, none⟩ = some (.slice yka ykn ykc) ∧ V.cell? ⟨g', o' + i * 9 + 2 + 6, none⟩ = some (.slice yaa yan yac))) := fun V bV => by
                              obtain ⟨e0, e1⟩ := HQ.out V (hB.out.trans (bV.mono hbz))
                              obtain ⟨j0, j1⟩ := HSQ.out V bV
                              exact ⟨⟨e0.cel 6 _ rfl, e1.cel 6 _ rfl⟩, ⟨j0 0 _ rfl, j0 1 _ rfl, j1 0 _ rfl, j1 1 _ rfl⟩, ⟨j0 2 _ rfl, j0 3 _ rfl, j0 4 _ rfl, j0 5 _ rfl, j0 6 _ rfl, j0 7 _ rfl, j0 8 _ rfl⟩, ⟨j1 2 _ rfl, j1 3 _ rfl, j1 4 _ rfl, j1 5 _ rfl, j1 6 _ rfl, j1 7 _ rfl, j1 8 _ rfl⟩⟩
                            have HBD := hide bd
                            obtain ⟨⟨u0, u1⟩, ⟨u2, u3, u4, u5⟩, ⟨u10, u11, u12, u13, u14, u15, u16⟩, ⟨u20, u21, u22, u23, u24, u25, u26⟩⟩ := HSS.out wr (Below.refl _ _)
                            obtain ⟨⟨v0, v1⟩, ⟨v2, v3, v4, v5⟩, ⟨v10, v11, v12, v13, v14, v15, v16⟩, ⟨v20, v21, v22, v23, v24, v25, v26⟩⟩ := HSS.out wr.drew bd
                            clear hc hc' hxs1 hxs2 hys1 hys2 hbz hrq hx hy hxx hyy hck hck' hR hR' hR1 hR1' hg hg' hrs hxz bd hwz hnw hsx hP hQ0 HSQ hm2
                            by_cases hcon : con = con'
                            · subst hcon
                              have HS2 : Hid (∀ V, Below wr.heap.size wr V → V.cell? ⟨W.heap.size, 6, none⟩ = some (.slice (some ⟨g, o, none⟩) an ac) ∧ V.cell? ⟨W.heap.size + 1, 6, none⟩ = some (.slice (some ⟨g', o', none⟩) an ac') ∧ V.cell? ⟨g, o + i * 9, none⟩ = some (.string con) ∧ V.cell? ⟨g, o + i * 9 + 1, none⟩ = some (.slice ca cn cc) ∧ V.cell? ⟨g', o' + i * 9, none⟩ = some (.string con) ∧ V.cell? ⟨g', o' + i * 9 + 1, none⟩ = some (.slice ca' cn' cc') ∧ V.cell? ⟨g, o + i * 9 + 2, none⟩ = some (.int .i64 xk) ∧ V.cell? ⟨g, o + i * 9 + 2 + 1, none⟩ = some (.string xnm) ∧ V.cell? ⟨g, o + i * 9 + 2 + 2, none⟩ = some (.bool xmn) ∧ V.cell? ⟨g, o + i * 9 + 2 + 3, none⟩ = some (.slice xla xln xlc) ∧ V.cell? ⟨g, o + i * 9 + 2 + 4, none⟩ = some (.slice xna xnn xnc) ∧ V.cell? ⟨g, o + i * 9 + 2 + 5, none⟩ = some (.slice xka xkn xkc) ∧ V.cell? ⟨g, o + i * 9 + 2 + 6, none⟩ = some (.slice xaa xan xac) ∧ V.cell? ⟨g', o' + i * 9 + 2, none⟩ = some (.int .i64 yk) ∧ V.cell? ⟨g', o' + i * 9 + 2 + 1, none⟩ = some (.string ynm) ∧ V.cell? ⟨g', o' + i * 9 + 2 + 2, none⟩ = some (.bool ymn) ∧ V.cell? ⟨g', o' + i * 9 + 2 + 3, none⟩ = some (.slice yla yln ylc) ∧ V.cell? ⟨g', o' + i * 9 + 2 + 4, none⟩ = some (.slice yna ynn ync) ∧ V.cell? ⟨g', o' + i * 9 + 2 + 5, none⟩ = some (.slice yka ykn ykc) ∧ V.cell? ⟨g', o' + i * 9 + 2 + 6, none⟩ = some (.slice yaa yan yac)) := fun V bV => by
                                obtain ⟨⟨h1, h2⟩, ⟨h3, h4, h5, h6⟩, h7, h8⟩ := HSS.out V bV
                                obtain ⟨i0, i1, i2, i3, i4, i5, i6⟩ := h7
                                exact ⟨h1, h2, h3, h4, h5, h6, i0, i1, i2, i3, i4, i5, i6, h8⟩
                              have k0' := HS2.out wr.drew HBD.out
                              by_cases hQ1 : Q0
                              · have HN : Hid (Calls Try.prog 28 #[.slice ca cn cc, .slice ca' cn' cc'] wr.drew fun e w' => ∃ v, e = .returned v ∧ v = .bool true ∧ Below wr.heap.size wr.drew w') := HN0.mono (fun e w' h => by
                                  obtain ⟨v, rfl, hv, hb⟩ := h
                                  exact ⟨_, rfl, by rw [hv.2 hQ1], hb⟩)
                                by_cases hP1 : P
                                · have HC : Hid (∀ V, Below wr.heap.size wr.drew V → Calls Try.prog 10 #[.agg #[.int .i64 xk, .string xnm, .bool xmn, .slice xla xln xlc, .slice xna xnn xnc, .slice xka xkn xkc, .slice xaa xan xac], .agg #[.int .i64 yk, .string ynm, .bool ymn, .slice yla yln ylc, .slice yna ynn ync, .slice yka ykn ykc, .slice yaa yan yac]] V fun e w' => e = .returned (.bool true) ∧ Below wr.heap.size wr.drew w') := fun V bV => (HC0.out V bV).mono (fun e w' h => by
                                    obtain ⟨v, rfl, hv, hb⟩ := h
                                    exact ⟨by rw [hv.2 hP1], bV.trans (hb.mono bV.size)⟩)
                                  have HQ2 : Hid (D ↔ qq.sim rr) := HQ'.out.trans ⟨fun h => h.2.2.2, fun h => ⟨rfl, hQ1, hP1, h⟩⟩
                                  clear HQ' HC0 HN0 u0 u1 u2 u3 u4 u5 u10 u11 u12 u13 u14 u15 u16 u20 u21 u22 u23 u24 u25 u26 v0 v1 v2 v3 v4 v5 v10 v11 v12 v13 v14 v15 v16 v20 v21 v22 v23 v24 v25 v26
                                  go_upto_region 16 with fail
                                  go_region_held3 (fun V => V.cell? ⟨W.heap.size, 6, none⟩ = some (.slice (some ⟨g, o, none⟩) an ac) ∧ V.cell? ⟨W.heap.size + 1, 6, none⟩ = some (.slice (some ⟨g', o', none⟩) an ac') ∧ V.cell? ⟨g, o + i * 9, none⟩ = some (.string con) ∧ V.cell? ⟨g, o + i * 9 + 1, none⟩ = some (.slice ca cn cc) ∧ V.cell? ⟨g', o' + i * 9, none⟩ = some (.string con) ∧ V.cell? ⟨g', o' + i * 9 + 1, none⟩ = some (.slice ca' cn' cc') ∧ V.cell? ⟨g, o + i * 9 + 2, none⟩ = some (.int .i64 xk) ∧ V.cell? ⟨g, o + i * 9 + 2 + 1, none⟩ = some (.string xnm) ∧ V.cell? ⟨g, o + i * 9 + 2 + 2, none⟩ = some (.bool xmn) ∧ V.cell? ⟨g, o + i * 9 + 2 + 3, none⟩ = some (.slice xla xln xlc) ∧ V.cell? ⟨g, o + i * 9 + 2 + 4, none⟩ = some (.slice xna xnn xnc) ∧ V.cell? ⟨g, o + i * 9 + 2 + 5, none⟩ = some (.slice xka xkn xkc) ∧ V.cell? ⟨g, o + i * 9 + 2 + 6, none⟩ = some (.slice xaa xan xac) ∧ V.cell? ⟨g', o' + i * 9 + 2, none⟩ = some (.int .i64 yk) ∧ V.cell? ⟨g', o' + i * 9 + 2 + 1, none⟩ = some (.string ynm) ∧ V.cell? ⟨g', o' + i * 9 + 2 + 2, none⟩ = some (.bool ymn) ∧ V.cell? ⟨g', o' + i * 9 + 2 + 3, none⟩ = some (.slice yla yln ylc) ∧ V.cell? ⟨g', o' + i * 9 + 2 + 4, none⟩ = some (.slice yna ynn ync) ∧ V.cell? ⟨g', o' + i * 9 + 2 + 5, none⟩ = some (.slice yka ykn ykc) ∧ V.cell? ⟨g', o' + i * 9 + 2 + 6, none⟩ = some (.slice yaa yan yac))
                                    (first | with_reducible exact k9' | with_reducible exact k8' | with_reducible exact k0')
                                    (first
                                      | (go_at_call 28; refine HN.out.mono ?_; rintro e w8 ⟨v8, rfl, rfl, b8⟩; have HC8 := hide (HC.out w8 b8); have k8' := HS2.out w8 (HBD.out.trans b8); clear b8)
                                      | (go_at_call 10; refine HC8.out.mono ?_; rintro e w9 ⟨rfl, b9⟩; have k9' := HS2.out w9 (HBD.out.trans b9); have B9 := hide b9; clear b9))
                                  all_goals
                                    go_wp2_with fail
                                    obtain ⟨r1, r2, r3⟩ := HRN.out w9 B9.out
                                    go_roundw
                                    case rel => exact ⟨i + 1, rr, qq, by go_num, by omega, HQ2, r1, r2, r3, HRS⟩
                                    case measure => simp [intOf]; omega
                                · have HC : Hid (∀ V, Below wr.heap.size wr.drew V → Calls Try.prog 10 #[.agg #[.int .i64 xk, .string xnm, .bool xmn, .slice xla xln xlc, .slice xna xnn xnc, .slice xka xkn xkc, .slice xaa xan xac], .agg #[.int .i64 yk, .string ynm, .bool ymn, .slice yla yln ylc, .slice yna ynn ync, .slice yka ykn ykc, .slice yaa yan yac]] V fun e w' => e = .returned (.bool false) ∧ Below wr.heap.size wr.drew w') := fun V bV => (HC0.out V bV).mono (fun e w' h => by
                                    obtain ⟨v, rfl, hv, hb⟩ := h
                                    cases v with
                                    | true => exact absurd (hv.1 rfl) hP1
                                    | false => exact ⟨rfl, bV.trans (hb.mono bV.size)⟩)
                                  have HNS : Hid (¬ D) := fun e => hP1 (HQ'.out.1 e).2.2.1
                                  clear HQ' HC0 HN0 u0 u1 u2 u3 u4 u5 u10 u11 u12 u13 u14 u15 u16 u20 u21 u22 u23 u24 u25 u26 v0 v1 v2 v3 v4 v5 v10 v11 v12 v13 v14 v15 v16 v20 v21 v22 v23 v24 v25 v26
                                  go_upto_region 16 with fail
                                  go_region_held3 (fun V => V.cell? ⟨W.heap.size, 6, none⟩ = some (.slice (some ⟨g, o, none⟩) an ac) ∧ V.cell? ⟨W.heap.size + 1, 6, none⟩ = some (.slice (some ⟨g', o', none⟩) an ac') ∧ V.cell? ⟨g, o + i * 9, none⟩ = some (.string con) ∧ V.cell? ⟨g, o + i * 9 + 1, none⟩ = some (.slice ca cn cc) ∧ V.cell? ⟨g', o' + i * 9, none⟩ = some (.string con) ∧ V.cell? ⟨g', o' + i * 9 + 1, none⟩ = some (.slice ca' cn' cc') ∧ V.cell? ⟨g, o + i * 9 + 2, none⟩ = some (.int .i64 xk) ∧ V.cell? ⟨g, o + i * 9 + 2 + 1, none⟩ = some (.string xnm) ∧ V.cell? ⟨g, o + i * 9 + 2 + 2, none⟩ = some (.bool xmn) ∧ V.cell? ⟨g, o + i * 9 + 2 + 3, none⟩ = some (.slice xla xln xlc) ∧ V.cell? ⟨g, o + i * 9 + 2 + 4, none⟩ = some (.slice xna xnn xnc) ∧ V.cell? ⟨g, o + i * 9 + 2 + 5, none⟩ = some (.slice xka xkn xkc) ∧ V.cell? ⟨g, o + i * 9 + 2 + 6, none⟩ = some (.slice xaa xan xac) ∧ V.cell? ⟨g', o' + i * 9 + 2, none⟩ = some (.int .i64 yk) ∧ V.cell? ⟨g', o' + i * 9 + 2 + 1, none⟩ = some (.string ynm) ∧ V.cell? ⟨g', o' + i * 9 + 2 + 2, none⟩ = some (.bool ymn) ∧ V.cell? ⟨g', o' + i * 9 + 2 + 3, none⟩ = some (.slice yla yln ylc) ∧ V.cell? ⟨g', o' + i * 9 + 2 + 4, none⟩ = some (.slice yna ynn ync) ∧ V.cell? ⟨g', o' + i * 9 + 2 + 5, none⟩ = some (.slice yka ykn ykc) ∧ V.cell? ⟨g', o' + i * 9 + 2 + 6, none⟩ = some (.slice yaa yan yac))
                                    (first | with_reducible exact k9' | with_reducible exact k8' | with_reducible exact k0')
                                    (first
                                      | (go_at_call 28; refine HN.out.mono ?_; rintro e w8 ⟨v8, rfl, rfl, b8⟩; have HC8 := hide (HC.out w8 b8); have k8' := HS2.out w8 (HBD.out.trans b8); clear b8)
                                      | (go_at_call 10; refine HC8.out.mono ?_; rintro e w9 ⟨rfl, b9⟩; have k9' := HS2.out w9 (HBD.out.trans b9); have B9 := hide b9; clear b9))
                                  all_goals
                                    go_wp2_with fail
                                    go_ret
                                    exact SmP.no HNS.out (HBW.out _ (HRN.out w9 B9.out).2.2)
                              · have HN : Hid (Calls Try.prog 28 #[.slice ca cn cc, .slice ca' cn' cc'] wr.drew fun e w' => ∃ v, e = .returned v ∧ v = .bool false ∧ Below wr.heap.size wr.drew w') := HN0.mono (fun e w' h => by
                                  obtain ⟨v, rfl, hv, hb⟩ := h
                                  cases v with
                                  | true => exact absurd (hv.1 rfl) hQ1
                                  | false => exact ⟨_, rfl, rfl, hb⟩)
                                have HNS : Hid (¬ D) := fun e => hQ1 (HQ'.out.1 e).2.1
                                clear HQ' HC0 HN0 u10 u11 u12 u13 u14 u15 u16 u20 u21 u22 u23 u24 u25 u26 v10 v11 v12 v13 v14 v15 v16 v20 v21 v22 v23 v24 v25 v26 u0 u1 u2 u3 u4 u5 v0 v1 v2 v3 v4 v5
                                go_upto_region 16 with fail
                                refine wp_region_held_drew (S := fun V => V.cell? ⟨W.heap.size, 6, none⟩ = some (.slice (some ⟨g, o, none⟩) an ac) ∧ V.cell? ⟨W.heap.size + 1, 6, none⟩ = some (.slice (some ⟨g', o', none⟩) an ac') ∧ V.cell? ⟨g, o + i * 9, none⟩ = some (.string con) ∧ V.cell? ⟨g, o + i * 9 + 1, none⟩ = some (.slice ca cn cc) ∧ V.cell? ⟨g', o' + i * 9, none⟩ = some (.string con) ∧ V.cell? ⟨g', o' + i * 9 + 1, none⟩ = some (.slice ca' cn' cc') ∧ V.cell? ⟨g, o + i * 9 + 2, none⟩ = some (.int .i64 xk) ∧ V.cell? ⟨g, o + i * 9 + 2 + 1, none⟩ = some (.string xnm) ∧ V.cell? ⟨g, o + i * 9 + 2 + 2, none⟩ = some (.bool xmn) ∧ V.cell? ⟨g, o + i * 9 + 2 + 3, none⟩ = some (.slice xla xln xlc) ∧ V.cell? ⟨g, o + i * 9 + 2 + 4, none⟩ = some (.slice xna xnn xnc) ∧ V.cell? ⟨g, o + i * 9 + 2 + 5, none⟩ = some (.slice xka xkn xkc) ∧ V.cell? ⟨g, o + i * 9 + 2 + 6, none⟩ = some (.slice xaa xan xac) ∧ V.cell? ⟨g', o' + i * 9 + 2, none⟩ = some (.int .i64 yk) ∧ V.cell? ⟨g', o' + i * 9 + 2 + 1, none⟩ = some (.string ynm) ∧ V.cell? ⟨g', o' + i * 9 + 2 + 2, none⟩ = some (.bool ymn) ∧ V.cell? ⟨g', o' + i * 9 + 2 + 3, none⟩ = some (.slice yla yln ylc) ∧ V.cell? ⟨g', o' + i * 9 + 2 + 4, none⟩ = some (.slice yna ynn ync) ∧ V.cell? ⟨g', o' + i * 9 + 2 + 5, none⟩ = some (.slice yka ykn ykc) ∧ V.cell? ⟨g', o' + i * 9 + 2 + 6, none⟩ = some (.slice yaa yan yac)) (by kernel_rfl) k0' (fun hHeld => ?_)
                                refine' wpAnyH_take (i := 0) (oi := { dst := some 113, op := Op.fieldAddr 36 (Operand.tmp 2) 5, type := 0, pos := "l13_core.go:380", after := #[], guard := none }) (v := _) rfl (by kernel_rfl) (by kernel_rfl) (by kernel_rfl) (fun _ _ _ h => h) (Or.inl ⟨by rfl, ?hy0q⟩) (by assumption) ?rest0q
                                case hy0q => (intro w hSw; (try dsimp only at hSw); go_simp; (try with_reducible rfl))
                                try simp only [Act.put, List.setIfInBounds_toArray, List.set_cons_zero, List.set_cons_succ]
                                refine' wpAnyH_take (i := 1) (oi := { dst := some 114, op := Op.load 34 (Operand.tmp 113), type := 34, pos := "l13_core.go:380", after := #[{ on := 0, ground := Ground.data }], guard := none }) (v := _) rfl (by kernel_rfl) (by kernel_rfl) (by kernel_rfl) (fun _ _ _ h => h) (Or.inl ⟨by rfl, ?hy1q⟩) (by assumption) ?rest1q
                                case hy1q => (intro w hSw; (try dsimp only at hSw); go_simp; (try with_reducible rfl))
                                try simp only [Act.put, List.setIfInBounds_toArray, List.set_cons_zero, List.set_cons_succ]
                                refine' wpAnyH_take (i := 2) (oi := { dst := some 115, op := Op.move (Operand.tmp 7), type := 3, pos := "l13_core.go:380", after := #[], guard := none }) (v := _) rfl (by kernel_rfl) (by kernel_rfl) (by kernel_rfl) (fun _ _ _ h => h) (Or.inl ⟨by rfl, ?hy2q⟩) (by assumption) ?rest2q
                                case hy2q => (intro w hSw; (try dsimp only at hSw); go_simp; (try with_reducible rfl))
                                try simp only [Act.put, List.setIfInBounds_toArray, List.set_cons_zero, List.set_cons_succ]
                                refine' wpAnyH_take (i := 3) (oi := { dst := some 116, op := Op.indexAddr 34 (Operand.tmp 114) (Operand.tmp 115), type := 0, pos := "l13_core.go:380", after := #[{ on := 1, ground := Ground.data }, { on := 2, ground := Ground.data }], guard := none }) (v := _) rfl (by kernel_rfl) (by kernel_rfl) (by kernel_rfl) (fun _ _ _ h => h) (Or.inl ⟨by rfl, ?hy3q⟩) (by assumption) ?rest3q
                                case hy3q => (intro w hSw; (try dsimp only at hSw); go_simp; (try with_reducible rfl))
                                try simp only [Act.put, List.setIfInBounds_toArray, List.set_cons_zero, List.set_cons_succ]
                                refine' wpAnyH_take (i := 4) (oi := { dst := some 117, op := Op.fieldAddr 46 (Operand.tmp 116) 0, type := 0, pos := "l13_core.go:380", after := #[{ on := 3, ground := Ground.data }], guard := none }) (v := _) rfl (by kernel_rfl) (by kernel_rfl) (by kernel_rfl) (fun _ _ _ h => h) (Or.inl ⟨by rfl, ?hy4q⟩) (by assumption) ?rest4q
                                case hy4q => (intro w hSw; (try dsimp only at hSw); go_simp; (try with_reducible rfl))
                                try simp only [Act.put, List.setIfInBounds_toArray, List.set_cons_zero, List.set_cons_succ]
                                refine' wpAnyH_take (i := 5) (oi := { dst := some 118, op := Op.load 9 (Operand.tmp 117), type := 9, pos := "l13_core.go:380", after := #[{ on := 4, ground := Ground.data }], guard := none }) (v := _) rfl (by kernel_rfl) (by kernel_rfl) (by kernel_rfl) (fun _ _ _ h => h) (Or.inl ⟨by rfl, ?hy5q⟩) (by assumption) ?rest5q
                                case hy5q => (intro w hSw; (try dsimp only at hSw); go_simp; (try with_reducible rfl))
                                try simp only [Act.put, List.setIfInBounds_toArray, List.set_cons_zero, List.set_cons_succ]
                                refine' wpAnyH_take (i := 6) (oi := { dst := some 119, op := Op.fieldAddr 36 (Operand.tmp 3) 5, type := 0, pos := "l13_core.go:380", after := #[], guard := none }) (v := _) rfl (by kernel_rfl) (by kernel_rfl) (by kernel_rfl) (fun _ _ _ h => h) (Or.inl ⟨by rfl, ?hy6q⟩) (by assumption) ?rest6q
                                case hy6q => (intro w hSw; (try dsimp only at hSw); go_simp; (try with_reducible rfl))
                                try simp only [Act.put, List.setIfInBounds_toArray, List.set_cons_zero, List.set_cons_succ]
                                refine' wpAnyH_take (i := 7) (oi := { dst := some 120, op := Op.load 34 (Operand.tmp 119), type := 34, pos := "l13_core.go:380", after := #[{ on := 6, ground := Ground.data }], guard := none }) (v := _) rfl (by kernel_rfl) (by kernel_rfl) (by kernel_rfl) (fun _ _ _ h => h) (Or.inl ⟨by rfl, ?hy7q⟩) (by assumption) ?rest7q
                                case hy7q => (intro w hSw; (try dsimp only at hSw); go_simp; (try with_reducible rfl))
                                try simp only [Act.put, List.setIfInBounds_toArray, List.set_cons_zero, List.set_cons_succ]
                                refine' wpAnyH_take (i := 8) (oi := { dst := some 121, op := Op.move (Operand.tmp 7), type := 3, pos := "l13_core.go:380", after := #[], guard := none }) (v := _) rfl (by kernel_rfl) (by kernel_rfl) (by kernel_rfl) (fun _ _ _ h => h) (Or.inl ⟨by rfl, ?hy8q⟩) (by assumption) ?rest8q
                                case hy8q => (intro w hSw; (try dsimp only at hSw); go_simp; (try with_reducible rfl))
                                try simp only [Act.put, List.setIfInBounds_toArray, List.set_cons_zero, List.set_cons_succ]
                                refine' wpAnyH_take (i := 9) (oi := { dst := some 122, op := Op.indexAddr 34 (Operand.tmp 120) (Operand.tmp 121), type := 0, pos := "l13_core.go:380", after := #[{ on := 7, ground := Ground.data }, { on := 8, ground := Ground.data }], guard := none }) (v := _) rfl (by kernel_rfl) (by kernel_rfl) (by kernel_rfl) (fun _ _ _ h => h) (Or.inl ⟨by rfl, ?hy9q⟩) (by assumption) ?rest9q
                                case hy9q => (intro w hSw; (try dsimp only at hSw); go_simp; (try with_reducible rfl))
                                try simp only [Act.put, List.setIfInBounds_toArray, List.set_cons_zero, List.set_cons_succ]
                                refine' wpAnyH_take (i := 10) (oi := { dst := some 123, op := Op.fieldAddr 46 (Operand.tmp 122) 0, type := 0, pos := "l13_core.go:380", after := #[{ on := 9, ground := Ground.data }], guard := none }) (v := _) rfl (by kernel_rfl) (by kernel_rfl) (by kernel_rfl) (fun _ _ _ h => h) (Or.inl ⟨by rfl, ?hy10q⟩) (by assumption) ?rest10q
                                case hy10q => (intro w hSw; (try dsimp only at hSw); go_simp; (try with_reducible rfl))
                                try simp only [Act.put, List.setIfInBounds_toArray, List.set_cons_zero, List.set_cons_succ]
                                refine' wpAnyH_take (i := 11) (oi := { dst := some 124, op := Op.load 9 (Operand.tmp 123), type := 9, pos := "l13_core.go:380", after := #[{ on := 10, ground := Ground.data }], guard := none }) (v := _) rfl (by kernel_rfl) (by kernel_rfl) (by kernel_rfl) (fun _ _ _ h => h) (Or.inl ⟨by rfl, ?hy11q⟩) (by assumption) ?rest11q
                                case hy11q => (intro w hSw; (try dsimp only at hSw); go_simp; (try with_reducible rfl))
                                try simp only [Act.put, List.setIfInBounds_toArray, List.set_cons_zero, List.set_cons_succ]
                                refine' wpAnyH_take (i := 12) (oi := { dst := some 125, op := Op.binOp BinOp.neq 9 (Operand.tmp 118) (Operand.tmp 124) 9, type := 4, pos := "l13_core.go:380", after := #[{ on := 5, ground := Ground.data }, { on := 11, ground := Ground.data }], guard := none }) (v := _) rfl (by kernel_rfl) (by kernel_rfl) (by kernel_rfl) (fun _ _ _ h => h) (Or.inl ⟨by rfl, ?hy12q⟩) (by assumption) ?rest12q
                                case hy12q => (intro w hSw; (try dsimp only at hSw); go_simp; (try with_reducible rfl))
                                try simp only [Act.put, List.setIfInBounds_toArray, List.set_cons_zero, List.set_cons_succ]
                                refine' wpAnyH_take (i := 13) (oi := { dst := some 126, op := Op.move (Operand.tmp 125), type := 4, pos := "l13_core.go:380", after := #[{ on := 12, ground := Ground.data }], guard := none }) (v := _) rfl (by kernel_rfl) (by kernel_rfl) (by kernel_rfl) (fun _ _ _ h => h) (Or.inl ⟨by rfl, ?hy13q⟩) (by assumption) ?rest13q
                                case hy13q => (intro w hSw; (try dsimp only at hSw); go_simp; (try with_reducible rfl))
                                try simp only [Act.put, List.setIfInBounds_toArray, List.set_cons_zero, List.set_cons_succ]
                                refine' wpAnyH_take (i := 14) (oi := { dst := some 127, op := Op.fieldAddr 36 (Operand.tmp 2) 5, type := 0, pos := "l13_core.go:380", after := #[{ on := 13, ground := Ground.guard }], guard := some (13, false) }) (v := _) rfl (by kernel_rfl) (by kernel_rfl) (by kernel_rfl) (fun _ _ _ h => h) (Or.inl ⟨by rfl, ?hy14q⟩) (by assumption) ?rest14q
                                case hy14q => (intro w hSw; (try dsimp only at hSw); go_simp; (try with_reducible rfl))
                                try simp only [Act.put, List.setIfInBounds_toArray, List.set_cons_zero, List.set_cons_succ]
                                refine' wpAnyH_take (i := 15) (oi := { dst := some 128, op := Op.load 34 (Operand.tmp 127), type := 34, pos := "l13_core.go:380", after := #[{ on := 14, ground := Ground.data }, { on := 13, ground := Ground.guard }], guard := some (13, false) }) (v := _) rfl (by kernel_rfl) (by kernel_rfl) (by kernel_rfl) (fun _ _ _ h => h) (Or.inl ⟨by rfl, ?hy15q⟩) (by assumption) ?rest15q
                                case hy15q => (intro w hSw; (try dsimp only at hSw); go_simp; (try with_reducible rfl))
                                try simp only [Act.put, List.setIfInBounds_toArray, List.set_cons_zero, List.set_cons_succ]
                                refine' wpAnyH_take (i := 16) (oi := { dst := some 129, op := Op.move (Operand.tmp 7), type := 3, pos := "l13_core.go:380", after := #[{ on := 13, ground := Ground.guard }], guard := some (13, false) }) (v := _) rfl (by kernel_rfl) (by kernel_rfl) (by kernel_rfl) (fun _ _ _ h => h) (Or.inl ⟨by rfl, ?hy16q⟩) (by assumption) ?rest16q
                                case hy16q => (intro w hSw; (try dsimp only at hSw); go_simp; (try with_reducible rfl))
                                try simp only [Act.put, List.setIfInBounds_toArray, List.set_cons_zero, List.set_cons_succ]
                                refine' wpAnyH_take (i := 17) (oi := { dst := some 130, op := Op.indexAddr 34 (Operand.tmp 128) (Operand.tmp 129), type := 0, pos := "l13_core.go:380", after := #[{ on := 15, ground := Ground.data }, { on := 16, ground := Ground.data }, { on := 13, ground := Ground.guard }], guard := some (13, false) }) (v := _) rfl (by kernel_rfl) (by kernel_rfl) (by kernel_rfl) (fun _ _ _ h => h) (Or.inl ⟨by rfl, ?hy17q⟩) (by assumption) ?rest17q
                                case hy17q => (intro w hSw; (try dsimp only at hSw); go_simp; (try with_reducible rfl))
                                try simp only [Act.put, List.setIfInBounds_toArray, List.set_cons_zero, List.set_cons_succ]
                                refine' wpAnyH_take (i := 18) (oi := { dst := some 131, op := Op.fieldAddr 46 (Operand.tmp 130) 1, type := 0, pos := "l13_core.go:380", after := #[{ on := 17, ground := Ground.data }, { on := 13, ground := Ground.guard }], guard := some (13, false) }) (v := _) rfl (by kernel_rfl) (by kernel_rfl) (by kernel_rfl) (fun _ _ _ h => h) (Or.inl ⟨by rfl, ?hy18q⟩) (by assumption) ?rest18q
                                case hy18q => (intro w hSw; (try dsimp only at hSw); go_simp; (try with_reducible rfl))
                                try simp only [Act.put, List.setIfInBounds_toArray, List.set_cons_zero, List.set_cons_succ]
                                refine' wpAnyH_take (i := 19) (oi := { dst := some 132, op := Op.load 25 (Operand.tmp 131), type := 25, pos := "l13_core.go:380", after := #[{ on := 18, ground := Ground.data }, { on := 13, ground := Ground.guard }], guard := some (13, false) }) (v := _) rfl (by kernel_rfl) (by kernel_rfl) (by kernel_rfl) (fun _ _ _ h => h) (Or.inl ⟨by rfl, ?hy19q⟩) (by assumption) ?rest19q
                                case hy19q => (intro w hSw; (try dsimp only at hSw); go_simp; (try with_reducible rfl))
                                try simp only [Act.put, List.setIfInBounds_toArray, List.set_cons_zero, List.set_cons_succ]
                                refine' wpAnyH_take (i := 20) (oi := { dst := some 133, op := Op.fieldAddr 36 (Operand.tmp 3) 5, type := 0, pos := "l13_core.go:380", after := #[{ on := 13, ground := Ground.guard }], guard := some (13, false) }) (v := _) rfl (by kernel_rfl) (by kernel_rfl) (by kernel_rfl) (fun _ _ _ h => h) (Or.inl ⟨by rfl, ?hy20q⟩) (by assumption) ?rest20q
                                case hy20q => (intro w hSw; (try dsimp only at hSw); go_simp; (try with_reducible rfl))
                                try simp only [Act.put, List.setIfInBounds_toArray, List.set_cons_zero, List.set_cons_succ]
                                refine' wpAnyH_take (i := 21) (oi := { dst := some 134, op := Op.load 34 (Operand.tmp 133), type := 34, pos := "l13_core.go:380", after := #[{ on := 20, ground := Ground.data }, { on := 13, ground := Ground.guard }], guard := some (13, false) }) (v := _) rfl (by kernel_rfl) (by kernel_rfl) (by kernel_rfl) (fun _ _ _ h => h) (Or.inl ⟨by rfl, ?hy21q⟩) (by assumption) ?rest21q
                                case hy21q => (intro w hSw; (try dsimp only at hSw); go_simp; (try with_reducible rfl))
                                try simp only [Act.put, List.setIfInBounds_toArray, List.set_cons_zero, List.set_cons_succ]
                                refine' wpAnyH_take (i := 22) (oi := { dst := some 135, op := Op.move (Operand.tmp 7), type := 3, pos := "l13_core.go:380", after := #[{ on := 13, ground := Ground.guard }], guard := some (13, false) }) (v := _) rfl (by kernel_rfl) (by kernel_rfl) (by kernel_rfl) (fun _ _ _ h => h) (Or.inl ⟨by rfl, ?hy22q⟩) (by assumption) ?rest22q
                                case hy22q => (intro w hSw; (try dsimp only at hSw); go_simp; (try with_reducible rfl))
                                try simp only [Act.put, List.setIfInBounds_toArray, List.set_cons_zero, List.set_cons_succ]
                                refine' wpAnyH_take (i := 23) (oi := { dst := some 136, op := Op.indexAddr 34 (Operand.tmp 134) (Operand.tmp 135), type := 0, pos := "l13_core.go:380", after := #[{ on := 21, ground := Ground.data }, { on := 22, ground := Ground.data }, { on := 13, ground := Ground.guard }], guard := some (13, false) }) (v := _) rfl (by kernel_rfl) (by kernel_rfl) (by kernel_rfl) (fun _ _ _ h => h) (Or.inl ⟨by rfl, ?hy23q⟩) (by assumption) ?rest23q
                                case hy23q => (intro w hSw; (try dsimp only at hSw); go_simp; (try with_reducible rfl))
                                try simp only [Act.put, List.setIfInBounds_toArray, List.set_cons_zero, List.set_cons_succ]
                                refine' wpAnyH_take (i := 24) (oi := { dst := some 137, op := Op.fieldAddr 46 (Operand.tmp 136) 1, type := 0, pos := "l13_core.go:380", after := #[{ on := 23, ground := Ground.data }, { on := 13, ground := Ground.guard }], guard := some (13, false) }) (v := _) rfl (by kernel_rfl) (by kernel_rfl) (by kernel_rfl) (fun _ _ _ h => h) (Or.inl ⟨by rfl, ?hy24q⟩) (by assumption) ?rest24q
                                case hy24q => (intro w hSw; (try dsimp only at hSw); go_simp; (try with_reducible rfl))
                                try simp only [Act.put, List.setIfInBounds_toArray, List.set_cons_zero, List.set_cons_succ]
                                refine' wpAnyH_take (i := 25) (oi := { dst := some 138, op := Op.load 25 (Operand.tmp 137), type := 25, pos := "l13_core.go:380", after := #[{ on := 24, ground := Ground.data }, { on := 13, ground := Ground.guard }], guard := some (13, false) }) (v := _) rfl (by kernel_rfl) (by kernel_rfl) (by kernel_rfl) (fun _ _ _ h => h) (Or.inl ⟨by rfl, ?hy25q⟩) (by assumption) ?rest25q
                                case hy25q => (intro w hSw; (try dsimp only at hSw); go_simp; (try with_reducible rfl))
                                try simp only [Act.put, List.setIfInBounds_toArray, List.set_cons_zero, List.set_cons_succ]
                                refine wpAnyH_ready (rs := [26]) (by kernel_rfl) (by simp) ?_
                                refine AllReadyH.cons (o := { dst := some 139, op := Op.call { callee := Callee.value (Operand.func 28), args := #[Operand.tmp 132, Operand.tmp 138], argTypes := #[25, 25] }, type := 4, pos := "l13_core.go:380", after := #[{ on := 19, ground := Ground.data }, { on := 25, ground := Ground.data }, { on := 13, ground := Ground.chain }, { on := 13, ground := Ground.guard }], guard := some (13, false) }) rfl (fun K hK => ?_) AllReadyH.nil
                                go_simp
                                refine HN.out.mono ?_
                                rintro e w8 ⟨v8, rfl, rfl, b8⟩
                                have B8 := hide b8
                                have kk1 := HS2.out w8 (HBD.out.trans b8)
                                clear b8
                                refine hK.out _ _ kk1 (fun hHeld => ?_)
                                clear hK K
                                try simp only [Act.put, List.setIfInBounds_toArray, List.set_cons_zero, List.set_cons_succ]
                                refine' wpAnyH_take (i := 27) (oi := { dst := some 140, op := Op.unOp UnOp.not 4 (Operand.tmp 139), type := 4, pos := "l13_core.go:380", after := #[{ on := 26, ground := Ground.data }, { on := 13, ground := Ground.guard }], guard := some (13, false) }) (v := _) rfl (by kernel_rfl) (by kernel_rfl) (by kernel_rfl) (fun _ _ _ h => h) (Or.inl ⟨by rfl, ?hy27q⟩) (by assumption) ?rest27q
                                case hy27q => (intro w hSw; (try dsimp only at hSw); go_simp; (try with_reducible rfl))
                                try simp only [Act.put, List.setIfInBounds_toArray, List.set_cons_zero, List.set_cons_succ]
                                refine' wpAnyH_take (i := 28) (oi := { dst := some 141, op := Op.pick (Operand.tmp 126) (Operand.const (Value.bool true)) (Operand.tmp 140), type := 4, pos := "l13_core.go:380", after := #[{ on := 13, ground := Ground.data }, { on := 27, ground := Ground.data }], guard := none }) (v := _) rfl (by kernel_rfl) (by kernel_rfl) (by kernel_rfl) (fun _ _ _ h => h) (Or.inl ⟨by rfl, ?hy28q⟩) (by assumption) ?rest28q
                                case hy28q => (intro w hSw; (try dsimp only at hSw); go_simp; (try with_reducible rfl))
                                try simp only [Act.put, List.setIfInBounds_toArray, List.set_cons_zero, List.set_cons_succ]
                                refine' wpAnyH_take (i := 29) (oi := { dst := some 142, op := Op.move (Operand.tmp 141), type := 4, pos := "l13_core.go:380", after := #[{ on := 28, ground := Ground.data }, { on := 26, ground := Ground.chain }], guard := none }) (v := _) rfl (by kernel_rfl) (by kernel_rfl) (by kernel_rfl) (fun _ _ _ h => h) (Or.inl ⟨by rfl, ?hy29q⟩) (by assumption) ?rest29q
                                case hy29q => (intro w hSw; (try dsimp only at hSw); go_simp; (try with_reducible rfl))
                                try simp only [Act.put, List.setIfInBounds_toArray, List.set_cons_zero, List.set_cons_succ]
                                refine' wpAnyH_take (i := 30) (oi := { dst := some 143, op := Op.fieldAddr 36 (Operand.tmp 2) 5, type := 0, pos := "l13_core.go:380", after := #[{ on := 29, ground := Ground.guard }], guard := some (29, false) }) (v := _) rfl (by kernel_rfl) (by kernel_rfl) (by kernel_rfl) (fun _ _ _ h => h) (Or.inr ⟨by rfl, by rfl⟩) (by assumption) ?rest30q
                                try simp only [Act.put, List.setIfInBounds_toArray, List.set_cons_zero, List.set_cons_succ]
                                refine' wpAnyH_take (i := 31) (oi := { dst := some 144, op := Op.load 34 (Operand.tmp 143), type := 34, pos := "l13_core.go:380", after := #[{ on := 30, ground := Ground.data }, { on := 29, ground := Ground.guard }], guard := some (29, false) }) (v := _) rfl (by kernel_rfl) (by kernel_rfl) (by kernel_rfl) (fun _ _ _ h => h) (Or.inr ⟨by rfl, by rfl⟩) (by assumption) ?rest31q
                                try simp only [Act.put, List.setIfInBounds_toArray, List.set_cons_zero, List.set_cons_succ]
                                refine' wpAnyH_take (i := 32) (oi := { dst := some 145, op := Op.move (Operand.tmp 7), type := 3, pos := "l13_core.go:380", after := #[{ on := 29, ground := Ground.guard }], guard := some (29, false) }) (v := _) rfl (by kernel_rfl) (by kernel_rfl) (by kernel_rfl) (fun _ _ _ h => h) (Or.inr ⟨by rfl, by rfl⟩) (by assumption) ?rest32q
                                try simp only [Act.put, List.setIfInBounds_toArray, List.set_cons_zero, List.set_cons_succ]
                                refine' wpAnyH_take (i := 33) (oi := { dst := some 146, op := Op.indexAddr 34 (Operand.tmp 144) (Operand.tmp 145), type := 0, pos := "l13_core.go:380", after := #[{ on := 31, ground := Ground.data }, { on := 32, ground := Ground.data }, { on := 29, ground := Ground.guard }], guard := some (29, false) }) (v := _) rfl (by kernel_rfl) (by kernel_rfl) (by kernel_rfl) (fun _ _ _ h => h) (Or.inr ⟨by rfl, by rfl⟩) (by assumption) ?rest33q
                                try simp only [Act.put, List.setIfInBounds_toArray, List.set_cons_zero, List.set_cons_succ]
                                refine' wpAnyH_take (i := 34) (oi := { dst := some 147, op := Op.fieldAddr 46 (Operand.tmp 146) 2, type := 0, pos := "l13_core.go:380", after := #[{ on := 33, ground := Ground.data }, { on := 29, ground := Ground.guard }], guard := some (29, false) }) (v := _) rfl (by kernel_rfl) (by kernel_rfl) (by kernel_rfl) (fun _ _ _ h => h) (Or.inr ⟨by rfl, by rfl⟩) (by assumption) ?rest34q
                                try simp only [Act.put, List.setIfInBounds_toArray, List.set_cons_zero, List.set_cons_succ]
                                refine' wpAnyH_take (i := 35) (oi := { dst := some 148, op := Op.load 36 (Operand.tmp 147), type := 36, pos := "l13_core.go:380", after := #[{ on := 34, ground := Ground.data }, { on := 29, ground := Ground.guard }], guard := some (29, false) }) (v := _) rfl (by kernel_rfl) (by kernel_rfl) (by kernel_rfl) (fun _ _ _ h => h) (Or.inr ⟨by rfl, by rfl⟩) (by assumption) ?rest35q
                                try simp only [Act.put, List.setIfInBounds_toArray, List.set_cons_zero, List.set_cons_succ]
                                refine' wpAnyH_take (i := 36) (oi := { dst := some 149, op := Op.fieldAddr 36 (Operand.tmp 3) 5, type := 0, pos := "l13_core.go:380", after := #[{ on := 29, ground := Ground.guard }], guard := some (29, false) }) (v := _) rfl (by kernel_rfl) (by kernel_rfl) (by kernel_rfl) (fun _ _ _ h => h) (Or.inr ⟨by rfl, by rfl⟩) (by assumption) ?rest36q
                                try simp only [Act.put, List.setIfInBounds_toArray, List.set_cons_zero, List.set_cons_succ]
                                refine' wpAnyH_take (i := 37) (oi := { dst := some 150, op := Op.load 34 (Operand.tmp 149), type := 34, pos := "l13_core.go:380", after := #[{ on := 36, ground := Ground.data }, { on := 29, ground := Ground.guard }], guard := some (29, false) }) (v := _) rfl (by kernel_rfl) (by kernel_rfl) (by kernel_rfl) (fun _ _ _ h => h) (Or.inr ⟨by rfl, by rfl⟩) (by assumption) ?rest37q
                                try simp only [Act.put, List.setIfInBounds_toArray, List.set_cons_zero, List.set_cons_succ]
                                refine' wpAnyH_take (i := 38) (oi := { dst := some 151, op := Op.move (Operand.tmp 7), type := 3, pos := "l13_core.go:380", after := #[{ on := 29, ground := Ground.guard }], guard := some (29, false) }) (v := _) rfl (by kernel_rfl) (by kernel_rfl) (by kernel_rfl) (fun _ _ _ h => h) (Or.inr ⟨by rfl, by rfl⟩) (by assumption) ?rest38q
                                try simp only [Act.put, List.setIfInBounds_toArray, List.set_cons_zero, List.set_cons_succ]
                                refine' wpAnyH_take (i := 39) (oi := { dst := some 152, op := Op.indexAddr 34 (Operand.tmp 150) (Operand.tmp 151), type := 0, pos := "l13_core.go:380", after := #[{ on := 37, ground := Ground.data }, { on := 38, ground := Ground.data }, { on := 29, ground := Ground.guard }], guard := some (29, false) }) (v := _) rfl (by kernel_rfl) (by kernel_rfl) (by kernel_rfl) (fun _ _ _ h => h) (Or.inr ⟨by rfl, by rfl⟩) (by assumption) ?rest39q
                                try simp only [Act.put, List.setIfInBounds_toArray, List.set_cons_zero, List.set_cons_succ]
                                refine' wpAnyH_take (i := 40) (oi := { dst := some 153, op := Op.fieldAddr 46 (Operand.tmp 152) 2, type := 0, pos := "l13_core.go:380", after := #[{ on := 39, ground := Ground.data }, { on := 29, ground := Ground.guard }], guard := some (29, false) }) (v := _) rfl (by kernel_rfl) (by kernel_rfl) (by kernel_rfl) (fun _ _ _ h => h) (Or.inr ⟨by rfl, by rfl⟩) (by assumption) ?rest40q
                                try simp only [Act.put, List.setIfInBounds_toArray, List.set_cons_zero, List.set_cons_succ]
                                refine' wpAnyH_take (i := 41) (oi := { dst := some 154, op := Op.load 36 (Operand.tmp 153), type := 36, pos := "l13_core.go:380", after := #[{ on := 40, ground := Ground.data }, { on := 29, ground := Ground.guard }], guard := some (29, false) }) (v := _) rfl (by kernel_rfl) (by kernel_rfl) (by kernel_rfl) (fun _ _ _ h => h) (Or.inr ⟨by rfl, by rfl⟩) (by assumption) ?rest41q
                                try simp only [Act.put, List.setIfInBounds_toArray, List.set_cons_zero, List.set_cons_succ]
                                refine' wpAnyH_take (i := 42) (oi := { dst := some 155, op := Op.call { callee := Callee.value (Operand.func 10), args := #[Operand.tmp 148, Operand.tmp 154], argTypes := #[36, 36] }, type := 4, pos := "l13_core.go:380", after := #[{ on := 35, ground := Ground.data }, { on := 41, ground := Ground.data }, { on := 29, ground := Ground.chain }, { on := 29, ground := Ground.guard }], guard := some (29, false) }) (v := _) rfl (by kernel_rfl) (by kernel_rfl) (by kernel_rfl) (fun _ _ _ h => h) (Or.inr ⟨by rfl, by rfl⟩) (by assumption) ?rest42q
                                try simp only [Act.put, List.setIfInBounds_toArray, List.set_cons_zero, List.set_cons_succ]
                                refine' wpAnyH_take (i := 43) (oi := { dst := some 156, op := Op.unOp UnOp.not 4 (Operand.tmp 155), type := 4, pos := "l13_core.go:380", after := #[{ on := 42, ground := Ground.data }, { on := 29, ground := Ground.guard }], guard := some (29, false) }) (v := _) rfl (by kernel_rfl) (by kernel_rfl) (by kernel_rfl) (fun _ _ _ h => h) (Or.inr ⟨by rfl, by rfl⟩) (by assumption) ?rest43q
                                try simp only [Act.put, List.setIfInBounds_toArray, List.set_cons_zero, List.set_cons_succ]
                                refine' wpAnyH_take (i := 44) (oi := { dst := some 157, op := Op.pick (Operand.tmp 142) (Operand.const (Value.bool true)) (Operand.tmp 156), type := 4, pos := "l13_core.go:380", after := #[{ on := 29, ground := Ground.data }, { on := 43, ground := Ground.data }], guard := none }) (v := _) rfl (by kernel_rfl) (by kernel_rfl) (by kernel_rfl) (fun _ _ _ h => h) (Or.inl ⟨by rfl, ?hy44q⟩) (by assumption) ?rest44q
                                case hy44q => (intro w hSw; (try dsimp only at hSw); go_simp; (try with_reducible rfl))
                                try simp only [Act.put, List.setIfInBounds_toArray, List.set_cons_zero, List.set_cons_succ]
                                refine wpAnyH_done (by kernel_rfl) ?_ _
                                go_wp2_with fail
                                go_ret
                                exact SmP.no HNS.out (HBW.out _ (HRN.out w8 B8.out).2.2)
                            · have HNS : Hid (¬ D) := fun e => hcon (HQ'.out.1 e).1.symm
                              have hne := list_ne hcon
                              clear HQ' HC0 HN0 u10 u11 u12 u13 u14 u15 u16 u20 u21 u22 u23 u24 u25 u26 v10 v11 v12 v13 v14 v15 v16 v20 v21 v22 v23 v24 v25 v26
                              go_upto_region 16 with fail
                              go_region
                              all_goals
                                go_wp2_with fail
                                go_ret
                                exact SmP.no HNS.out (HBW.out _ (HRN.out _ (Below.refl _ _)).2.2)
                          · have hii : ¬ (i : Int) < an := by omega
                            obtain ⟨rfl, -⟩ := hR.out.done hi
                            obtain ⟨rfl, -⟩ := hR'.out.done hi
                            have HY : Hid D := hrq.out.2 trivial
                            clear hrq hR hR' hrs
                            go_wp2_with fail
                            go_ret
                            exact SmP.yes HY.out (HBW.out _ hB.out)
            · have HNS : Hid (¬ D) := fun e => hln (HD.out.1 e).2.2.2.1.symm
              have hne : ((ln : Int) != (ln' : Int)) = true := by rw [bne_iff_ne]; omega
              go_enter Try.func10, Try.ntmps10
              go_upto_region 1 with fail
              rw [HV0.out]
              go_wp2_with fail
              refine HCN.out.mono ?_
              rintro e w1 ⟨v, rfl, hv, b1⟩
              have HBE := hide (HBW.out _ b1)
              obtain ⟨e0, e1⟩ := HQ.out w1 b1
              have f2 := e0.cel 2 _ rfl
              have f3 := e0.cel 3 _ rfl
              have f5 := e0.cel 5 _ rfl
              have f6 := e0.cel 6 _ rfl
              have g2 := e1.cel 2 _ rfl
              have g3 := e1.cel 3 _ rfl
              have g5 := e1.cel 5 _ rfl
              have g6 := e1.cel 6 _ rfl
              clear hv b1 e0 e1
              cases v <;>
                · go_wp2_with fail
                  go_ret
                  exact SmP.no HNS.out HBE.out
          · have HNS : Hid (¬ D) := fun e => hmn (HD.out.1 e).2.2.1.symm
            have hne : (mn != mn') = true := by rw [bne_iff_ne]; exact hmn
            go_enter Try.func10, Try.ntmps10
            go_upto_region 1 with fail
            rw [HV0.out]
            go_wp2_with fail
            refine HCN.out.mono ?_
            rintro e w1 ⟨v, rfl, hv, b1⟩
            have HBE := hide (HBW.out _ b1)
            obtain ⟨e0, e1⟩ := HQ.out w1 b1
            have f2 := e0.cel 2 _ rfl
            have f3 := e0.cel 3 _ rfl
            have f5 := e0.cel 5 _ rfl
            have f6 := e0.cel 6 _ rfl
            have g2 := e1.cel 2 _ rfl
            have g3 := e1.cel 3 _ rfl
            have g5 := e1.cel 5 _ rfl
            have g6 := e1.cel 6 _ rfl
            clear hv b1 e0 e1
            cases v <;>
              · go_wp2_with fail
                go_ret
                exact SmP.no HNS.out HBE.out
        · have HNS : Hid (¬ D) := fun e => han (HD.out.1 e).2.2.2.2.2.2.2.2.2.1.symm
          have hne : ((an : Int) != (an' : Int)) = true := by rw [bne_iff_ne]; omega
          go_enter Try.func10, Try.ntmps10
          go_upto_region 1 with fail
          rw [HV0.out]
          go_wp2_with fail
          refine HCN.out.mono ?_
          rintro e w1 ⟨v, rfl, hv, b1⟩
          have HBE := hide (HBW.out _ b1)
          obtain ⟨e0, e1⟩ := HQ.out w1 b1
          have f2 := e0.cel 2 _ rfl
          have f3 := e0.cel 3 _ rfl
          have f5 := e0.cel 5 _ rfl
          have f6 := e0.cel 6 _ rfl
          have g2 := e1.cel 2 _ rfl
          have g3 := e1.cel 3 _ rfl
          have g5 := e1.cel 5 _ rfl
          have g6 := e1.cel 6 _ rfl
          clear hv b1 e0 e1
          cases v <;>
            · go_wp2_with fail
              go_ret
              exact SmP.no HNS.out HBE.out
      · have HNS : Hid (¬ D) := fun e => hkn (HD.out.1 e).2.2.2.2.2.2.2.1.symm
        have hne : ((kn : Int) != (kn' : Int)) = true := by rw [bne_iff_ne]; omega
        go_enter Try.func10, Try.ntmps10
        go_upto_region 1 with fail
        rw [HV0.out]
        go_wp2_with fail
        refine HCN.out.mono ?_
        rintro e w1 ⟨v, rfl, hv, b1⟩
        have HBE := hide (HBW.out _ b1)
        obtain ⟨e0, e1⟩ := HQ.out w1 b1
        have f2 := e0.cel 2 _ rfl
        have f3 := e0.cel 3 _ rfl
        have f5 := e0.cel 5 _ rfl
        have f6 := e0.cel 6 _ rfl
        have g2 := e1.cel 2 _ rfl
        have g3 := e1.cel 3 _ rfl
        have g5 := e1.cel 5 _ rfl
        have g6 := e1.cel 6 _ rfl
        clear hv b1 e0 e1
        cases v <;>
          · go_wp2_with fail
            go_ret
            exact SmP.no HNS.out HBE.out
    · have HNS : Hid (¬ D) := fun e => hn (HD.out.1 e).2.1.symm
      have hne := list_ne hn
      go_enter Try.func10, Try.ntmps10
      go_upto_region 1 with fail
      rw [HV0.out]
      go_wp2_with fail
      go_ret
      exact SmP.no HNS.out (HBW.out _ (Below.refl _ _))
  · have HNS : Hid (¬ D) := fun e => hk (HD.out.1 e).1.symm
    have hne : (k != k') = true := by rw [bne_iff_ne]; exact hk
    go_enter Try.func10, Try.ntmps10
    go_upto_region 1 with fail
    rw [HV0.out]
    go_wp2_with fail
    go_ret
    exact SmP.no HNS.out (HBW.out _ (Below.refl _ _))

end Go.Proofs.Ytfgmgbkiebeeoaa
