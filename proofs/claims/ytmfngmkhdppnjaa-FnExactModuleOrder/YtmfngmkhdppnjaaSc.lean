import Derived.Test.YtmfngmkhdppnjaaSb
namespace Go.Proofs.Ytmfngmkhdppnjaa
open Go.RowKit Go.Joins

set_option maxHeartbeats 4000000 in
set_option maxRecDepth 100000 in
theorem sOrder (F : Fo) (a : Option Addr) (cap n : Nat) (w : World) (hs : LS w w.heap.size F a cap) (ht : F.tot ≤ 1048576) (hlen : n = F.len) :
    Calls Try.prog 5 #[.slice a n cap] w fun e w' => ∃ v, e = .returned v ∧ IR w.heap.size w' v (ordF F.md) ∧ Below w.heap.size w w' := by
  have hn : n ≤ 1048576 := by have h1 := F.len_le; have h2 := F.size_le; omega
  have HS := hide hs
  have HT := hide ht
  have HL := hide hlen
  have h39 := run_mk39 n hn
  have HE0 := hide (IR.empty w)
  have b0 := below_alloc1 w (.cells #[] 2)
  clear hs ht hlen
  go_enter Try.func5, Try.ntmps5
  go_upto_region 2 with fail
  generalize w.alloc (.cells #[] 2) = w0 at *
  go_wp2_with fail
  go_loopw [4] (fun s wr => ∃ i : Nat, s = .int .i64 i ∧ i ≤ n ∧ Hid (Kn F i) ∧ Hid (Kept (fun _ => True) w0 wr)) (fun s _ => n - (intOf s).toNat)
  case atStart => exact ⟨0, rfl, Nat.zero_le _, ⟨fun j d hj => by omega, by simp, fun j d t hj => by omega⟩, Kept.refl _ _⟩
  case round =>
    obtain ⟨i, rfl, hi, HK, HW⟩ := hrel
    have HB : Hid (Below w.heap.size w wr) := Below.kept b0 HW.out (fun _ _ => trivial) (Nat.le_refl _)
    have HEr : Hid (IR w.heap.size wr (.slice (some ⟨w.heap.size, 0, none⟩) 0 0) []) := HE0.out.kept HW.out (fun _ _ => trivial)
    by_cases hlt : i < n
    · have hlt' : (i : Int) < n := by omega
      obtain ⟨d, hd, b, o, rfl, hat⟩ := HS.out.get HB.out i (by rw [← HL.out]; exact hlt)
      have c0 := hat.c0
      have c1 := hat.c1
      have c2 := hat.c2
      have HD := hide hd
      have HSl := hide hat.sl
      clear hat hd
      by_cases hk : d.k = 68
      · have hk' : (d.k == 68) = true := by simp [hk]
        have HKd := hide hk
        clear hk
        go_wp2_with fail
        obtain ⟨w1, rfl⟩ : ∃ w1, w1 = wr := ⟨wr, rfl⟩
        go_loopw [5] (fun s wz => ∃ k : Nat, s = .int .i64 k ∧ k ≤ i ∧ Hid (∀ j, j < k → (nms F.md)[j]? ≠ some d.nm) ∧ Hid (Kept (fun _ => True) w1 wz)) (fun s _ => i - (intOf s).toNat)
        case atStart => exact ⟨0, rfl, Nat.zero_le _, fun j hj => by omega, Kept.refl _ _⟩
        case round =>
          clear c0 c1 c2
          obtain ⟨k, rfl, hki, HN, HWz⟩ := hrel
          have HBz : Hid (Below w.heap.size w wr) := Below.kept HB.out HWz.out (fun _ _ => trivial) (Nat.le_refl _)
          have HEz : Hid (IR w.heap.size wr (.slice (some ⟨w.heap.size, 0, none⟩) 0 0) []) := HEr.out.kept HWz.out (fun _ _ => trivial)
          obtain ⟨d', hd', b', o', eb, hat⟩ := HS.out.get HBz.out i (by rw [← HL.out]; exact hlt)
          cases HD.out.symm.trans hd'
          simp only [Option.some.injEq, Addr.mk.injEq, and_true] at eb
          obtain ⟨rfl, rfl⟩ := eb
          have c0 := hat.c0
          have c1 := hat.c1
          have c2 := hat.c2
          have HSz := hide hat.sl
          clear hat hd'
          by_cases hkl : k < i
          · have hkl' : (k : Int) < i := by omega
            have hkn' : (k : Int) < n := by omega
            obtain ⟨d2, hd2, b2, o2, eb, hat2⟩ := HS.out.get HBz.out k (by rw [← HL.out]; omega)
            simp only [Option.some.injEq, Addr.mk.injEq, and_true] at eb
            obtain ⟨rfl, rfl⟩ := eb
            have e1 := hat2.c1
            have HD2 := hide hd2
            have hne := @lname d2 d.nm
            clear hat2 hd2
            by_cases hnm : d2.nm = d.nm
            · rw [decide_eq_true hnm] at hne
              have HO := hide (ordF_bad (bad_same HD.out hkl (by rw [nms_get HD2.out, hnm])))
              clear hnm
              go_wp2_with fail
              go_region
              all_goals
                go_wp2_with fail
                go_ret
                rw [HO.out]
                exact ⟨_, rfl, HEz.out.drew, HBz.out.drew⟩
            · rw [decide_eq_false hnm] at hne
              have HN2 : Hid (∀ j, j < k + 1 → (nms F.md)[j]? ≠ some d.nm) := fun j hj => by
                by_cases e : j = k
                · subst e
                  rw [nms_get HD2.out]
                  simpa using hnm
                · exact HN.out j (by omega)
              clear hnm
              go_wp2_with fail
              go_region
              all_goals
                go_wp2_with fail
                go_roundw
                case rel => exact ⟨k + 1, by go_num, by omega, HN2, HWz.out.trans (Kept.drew _ _)⟩
                case measure => simp [intOf]; omega
          · have hkl' : ¬ (k : Int) < i := by omega
            obtain rfl : k = i := by omega
            have hdl : d.ks.len ≤ 1048576 := by
              have h1 := F.l_size k d HD.out
              have h2 := F.size_le
              have h3 := HT.out
              have h4 := d.ks.len_le
              omega
            have HWt : Hid (Kept (fun _ => True) w0 wr) := HW.out.trans HWz.out
            go_wp2_with fail
            go_loop [6] (fun s => ∃ r : Nat, s = .int .i64 r ∧ r ≤ d.ks.len ∧ Hid (∀ q e, q < r → d.ks.l[q]? = some e → e.k = 67 → e.nm ∈ nms F.md)) (fun s => d.ks.len - (intOf s).toNat)
            case atStart => exact ⟨0, rfl, Nat.zero_le _, fun q e hq => by omega⟩
            case round =>
              obtain ⟨r, rfl, hr, HI⟩ := hrel
              by_cases hrl : r < d.ks.len
              · have hrl' : (r : Int) < d.ks.len := by omega
                obtain ⟨e, he⟩ : ∃ e, d.ks.l[r]? = some e := ⟨d.ks.l[r]'(by rw [Fo.l_length]; exact hrl), by simp [Fo.l_length, hrl]⟩
                obtain ⟨kb, ko, eda, hkb, hrow⟩ := HSz.out.2.2 (by omega)
                rw [eda] at c2
                have hate := hrow.get r e he
                have k0 := hate.c0
                have k1 := hate.c1
                have HE := hide he
                have HLS : Hid (LS wr w.heap.size F (some ⟨b, o, none⟩) cap) := Fo.Sl.below HBz.out (fun c hc => hc) HS.out
                have HAt := hide (l7At_any F (some ⟨b, o, none⟩) cap n w.heap.size e.nm wr HLS.out HBz.out.size HL.out hn)
                clear hate he hrow eda
                by_cases hek : e.k = 67
                · have hek' : (e.k == 67) = true := by simp [hek]
                  have hti : e.nm ∈ d.ks.ims := by
                    rw [Fo.ims_l]
                    exact List.mem_map.2 ⟨e, List.mem_filter.2 ⟨List.mem_of_getElem? HE.out, by simp [hek]⟩, rfl⟩
                  cases hf : atN (nms F.md) e.nm with
                  | none =>
                    have hv : atV (nms F.md) e.nm = -1 := by unfold atV; rw [hf]
                    rw [hv] at HAt
                    have HO := hide (ordF_bad (bad_import HD.out hti hf))
                    clear hek hti hf hv
                    go_wp2_with fail
                    refine HAt.out.mono ?_
                    rintro e1 w2 ⟨rfl, rfl⟩
                    go_wp2_with fail
                    go_ret
                    rw [HO.out]
                    exact ⟨_, rfl, HEz.out, HBz.out⟩
                  | some x =>
                    have hv : atV (nms F.md) e.nm = (x : Int) := by unfold atV; rw [hf]
                    rw [hv] at HAt
                    have hx0 : ¬ (x : Int) < 0 := by omega
                    have HI2 : Hid (∀ q e, q < r + 1 → d.ks.l[q]? = some e → e.k = 67 → e.nm ∈ nms F.md) := fun q e' hq he' hk' => by
                      by_cases eq : q = r
                      · subst eq
                        cases HE.out.symm.trans he'
                        exact List.mem_of_getElem? (atN_lt hf).2.1
                      · exact HI.out q e' (by omega) he' hk'
                    clear hek hti hf hv
                    go_wp2_with fail
                    refine HAt.out.mono ?_
                    rintro e1 w2 ⟨rfl, rfl⟩
                    go_wp2_with fail
                    go_round
                    case rel => exact ⟨r + 1, by go_num, by omega, HI2⟩
                    case measure => simp [intOf]; omega
                · have hek' : (e.k == 67) = false := by simp [hek]
                  have HI2 : Hid (∀ q e, q < r + 1 → d.ks.l[q]? = some e → e.k = 67 → e.nm ∈ nms F.md) := fun q e' hq he' hk' => by
                    by_cases eq : q = r
                    · subst eq
                      cases HE.out.symm.trans he'
                      exact absurd hk' hek
                    · exact HI.out q e' (by omega) he' hk'
                  clear hek
                  go_wp2_with fail
                  go_round
                  case rel => exact ⟨r + 1, by go_num, by omega, HI2⟩
                  case measure => simp [intOf]; omega
              · have hrl' : ¬ (r : Int) < d.ks.len := by omega
                obtain rfl : r = d.ks.len := by omega
                have HKn := hide (HK.out.next HD.out HKd.out HN.out (fun t ht => by
                  rw [Fo.ims_l] at ht
                  obtain ⟨e, he, rfl⟩ := List.mem_map.1 ht
                  obtain ⟨h1, h2⟩ := List.mem_filter.1 he
                  obtain ⟨q, hq⟩ := List.getElem?_of_mem h1
                  exact HI.out q e (by rw [← Fo.l_length]; exact (List.getElem?_eq_some_iff.1 hq).1) hq (by simpa using h2)))
                go_wp2_with fail
                go_roundw
                case rel => exact ⟨k + 1, by go_num, by omega, HKn, HWt⟩
                case measure => simp [intOf]; omega
      · have hk' : (d.k == 68) = false := by simp [hk]
        have HO := hide (ordF_bad (bad_kind HD.out hk))
        clear hk
        go_wp2_with fail
        go_ret
        rw [HO.out]
        exact ⟨_, rfl, HEr.out, HB.out⟩
    · have hlt' : ¬ (i : Int) < n := by omega
      obtain rfl : i = n := by omega
      have HG := hide (HK.out.good (by rw [HL.out]; exact Nat.le_refl _))
      go_upto_region 19 with fail
      have hzr := HB.out.size
      have HPS : Hid (PS w ((wr.alloc (.cells #[] 2)).alloc (.cells (madeCells #[.bool false] i) 4)) (wr.heap.size + 1) i [] (.slice (some ⟨wr.heap.size, 0, none⟩) 0 0)) := by
        have hz : (wr.alloc (.cells #[] 2)).heap.size = wr.heap.size + 1 := by simp
        have hlt0 := (HEr.out.lt w.heap.size rfl).2
        have hdr := DR.start (wr.alloc (.cells #[] 2)) i
        rw [hz] at hdr
        refine ⟨((IR.empty wr).alloc _).mono hzr, hdr, by simp [Value.ownBlock], by simp [Value.ownBlock]; omega, (HB.out.alloc hzr _).alloc (by simp; omega) _, by omega, by simp, (HEr.out.alloc _).alloc _⟩
      generalize (wr.alloc (.cells #[] 2)).alloc (.cells (madeCells #[.bool false] i) 4) = w2 at *
      obtain ⟨db, hdb⟩ : ∃ db, wr.heap.size + 1 = db := ⟨_, rfl⟩
      rw [hdb] at HPS ⊢
      clear hdb HEr HW HB hzr
      have hml : Hid (F.md.length = i) := by unfold Hid; rw [Fo.md_length, HL.out]
      go_wp2_with fail
      go_loopw [7] (fun s wz => ∃ (out : List Nat), Hid (PS w wz db i out s) ∧ out.length ≤ i ∧ Hid (run (dep F.md) i (i - out.length) out = run (dep F.md) i i [])) (fun s _ => i - lenOf s)
      case atStart => exact ⟨[], HPS, Nat.zero_le _, rfl⟩
      case round =>
        clear HPS
        obtain ⟨out, HP, hol, HR⟩ := hrel
        obtain ⟨a7, c7, rfl, -⟩ := HP.out.ir.sl
        by_cases hoi : out.length < i
        · have hoi' : (out.length : Int) < i := by omega
          go_wp2_with fail
          obtain ⟨w3, rfl⟩ : ∃ w3, w3 = wr := ⟨wr, rfl⟩
          go_loopw [9, 10] (fun s9 s10 wz => ∃ (m : Nat) (z nx : Int), s10 = .int .i64 z ∧ Hid (z = (m : Int) - 1) ∧ m ≤ i ∧ s9 = .int .i64 nx ∧ Hid (Fd (dep F.md) i out m nx) ∧ Hid (Kept (fun _ => True) w3 wz)) (fun _ s10 _ => (intOf s10 + 1).toNat)
          case atStart => exact ⟨i, _, -1, rfl, rfl, Nat.le_refl _, rfl, Fd.start _ _ _, Kept.refl _ _⟩
          case round =>
            obtain ⟨m, z, nx, rfl, hz, hm, rfl, HF, HKz⟩ := hrel
            have HPz := hide (HP.out.kept HKz.out)
            rcases m with _ | m
            · obtain rfl : z = -1 := by have := hz.out; simpa using this
              clear hz
              have hnx : nx = -1 ∨ ∃ x : Nat, nx = (x : Int) := by
                rcases HF.out with ⟨h1, -⟩ | ⟨x, h1, -⟩
                · exact .inl h1
                · exact .inr ⟨x, h1⟩
              rcases hnx with rfl | ⟨x, rfl⟩
              · have HO : Hid (ordF F.md = []) := by
                  have h1 := HR.out
                  rw [run_none HF.out.none] at h1
                  exact ordF_short HG.out (by rw [hml.out, ← h1]; exact hoi)
                go_wp2_with fail
                go_ret
                rw [HO.out]
                exact ⟨_, rfl, HPz.out.e0, HPz.out.be⟩
              · obtain ⟨hns, hxi⟩ := HF.out.some
                have hxi' : (x : Int) < i := by omega
                have hx0 : ¬ (x : Int) < 0 := by omega
                obtain ⟨cd, fd⟩ := HPz.out.dr x hxi
                have HR2 : Hid (run (dep F.md) i (i - (out ++ [x]).length) (out ++ [x]) = run (dep F.md) i i []) := by
                  have h1 := HR.out
                  have h2 : i - out.length = (i - (out ++ [x]).length) + 1 := by simp; omega
                  rw [h2, run_some hns] at h1
                  exact h1
                have hzs : (wr.setCell ⟨db, x, none⟩ (.bool true)).heap.size = wr.heap.size := by simp
                have ka : Kept (fun c => c ≠ db) wr (wr.setCell ⟨db, x, none⟩ (.bool true)) := Kept.setCell _ _ _ _ (by simp)
                have HIb : Hid (IR w.heap.size ((wr.setCell ⟨db, x, none⟩ (.bool true)).alloc (.cells #[.int .i64 (x : Int)] 2)) (.slice a7 out.length c7) out) := (HPz.out.ir.kept ka (fun c hc e => HPz.out.ne (by rw [← e]; exact hc))).alloc _
                have HCb : Hid (((wr.setCell ⟨db, x, none⟩ (.bool true)).alloc (.cells #[.int .i64 (x : Int)] 2)).cell? ⟨wr.heap.size, 0, none⟩ = some (iv x)) := by
                  have h1 := cell_new (wr.setCell ⟨db, x, none⟩ (.bool true)) (.int .i64 (x : Int)) 2
                  rw [hzs] at h1
                  exact h1
                have HZb : Hid (w.heap.size ≤ ((wr.setCell ⟨db, x, none⟩ (.bool true)).alloc (.cells #[.int .i64 (x : Int)] 2)).heap.size) := by
                  have := HPz.out.be.size
                  unfold Hid
                  simp; omega
                have HST : Hid (∀ (b5 cap5 : Nat) (w5 : World), IR w.heap.size w5 (.slice (some ⟨b5, 0, none⟩) (out.length + 1) cap5) (out ++ [x]) → ((wr.setCell ⟨db, x, none⟩ (.bool true)).alloc (.cells #[.int .i64 (x : Int)] 2)).grownBy w5 (Value.slice a7 out.length c7).ownBlock → ((Value.slice a7 out.length c7).ownBlock = some b5 ∨ b5 = ((wr.setCell ⟨db, x, none⟩ (.bool true)).alloc (.cells #[.int .i64 (x : Int)] 2)).heap.size) →
                    PS w w5 db i (out ++ [x]) (.slice (some ⟨b5, 0, none⟩) (out.length + 1) cap5)) := fun b5 cap5 w5 h1 h2 h3 => HPz.out.step (Kept.alloc (fun _ => True) _ _) h1 h2 h3
                have holb : out.length ≤ 1048576 := by omega
                clear hns hzs ka HF
                go_wp2_with (at_builtin; refine ir_step 24 Try.underlying24 rfl _ _ rfl w.heap.size _ (.slice a7 out.length c7) out x ⟨wr.heap.size, 0, none⟩ rfl rfl HZb.out HIb.out HCb.out holb ?_; intro b5 cap5 w5 hR5 hg5 hat5 hlt5)
                have HP5 := hide (HST.out b5 cap5 w5 hR5 hg5 hat5)
                clear hR5 hg5 hat5 hlt5
                go_roundw
                case rel => exact ⟨out ++ [x], HP5, by simp; omega, HR2⟩
                case measure => simp [lenOf]; omega
            · obtain rfl : z = (m : Int) := by have := hz.out; omega
              clear hz
              have hmi : (m : Int) < i := by omega
              have hm0 : (0 : Int) ≤ m := by omega
              obtain ⟨d, hd, b, o, rfl, hat⟩ := HS.out.get HPz.out.be m (by rw [← HL.out]; omega)
              have c0 := hat.c0
              have c1 := hat.c1
              have c2 := hat.c2
              obtain ⟨cd, -⟩ := HPz.out.dr m (by omega)
              have HD := hide hd
              have HLS : Hid (LS wr w.heap.size F (some ⟨b, o, none⟩) cap) := Fo.Sl.below HPz.out.be (fun c hc => hc) HS.out
              have hdl : d.ks.len ≤ 1048576 := by
                have h1 := F.l_size m d hd
                have h2 := F.size_le
                have h3 := HT.out
                have h4 := d.ks.len_le
                omega
              have HRd := hide (l7Ready_any F (some ⟨b, o, none⟩) cap i w.heap.size db m out d wr HLS.out HPz.out.be.size HL.out hn hd hdl HPz.out.dr HPz.out.hi (fun t ht => HG.out.2.2 _ (List.mem_of_getElem? (md_get hd)) t ht))
              unfold nodeV at HRd
              clear hat hd hdl
              cases hin : isIn out m with
              | true =>
                rw [hin] at cd
                have HF2 : Hid (Fd (dep F.md) i out m nx) := HF.out.no (by rw [rdy_eq, hin]; rfl)
                clear hin
                go_wp2_with fail
                go_roundw
                case rel => exact ⟨m, (m : Int) - 1, nx, by go_num, rfl, by omega, rfl, HF2, HKz⟩
                case measure => simp [intOf]
              | false =>
                rw [hin] at cd
                cases hrd : rd (dep F.md) out m with
                | true =>
                  rw [hrd] at HRd
                  have HF2 : Hid (Fd (dep F.md) i out m (m : Int)) := Fd.yes (by omega) (by rw [rdy_eq, hin, hrd]; rfl)
                  clear hin hrd
                  go_wp2_with fail
                  refine HRd.out.mono ?_
                  rintro e1 w4 ⟨rfl, b4⟩
                  have HK4 : Hid (Kept (fun _ => True) w3 w4) := HKz.out.trans (Kept.of_below b4 (fun c hc _ => hc))
                  go_wp2_with fail
                  go_roundw
                  case rel => exact ⟨m, (m : Int) - 1, (m : Int), by go_num, rfl, by omega, rfl, HF2, HK4⟩
                  case measure => simp [intOf]
                | false =>
                  rw [hrd] at HRd
                  have HF2 : Hid (Fd (dep F.md) i out m nx) := HF.out.no (by rw [rdy_eq, hin, hrd]; rfl)
                  clear hin hrd
                  go_wp2_with fail
                  refine HRd.out.mono ?_
                  rintro e1 w4 ⟨rfl, b4⟩
                  have HK4 : Hid (Kept (fun _ => True) w3 w4) := HKz.out.trans (Kept.of_below b4 (fun c hc _ => hc))
                  go_wp2_with fail
                  go_roundw
                  case rel => exact ⟨m, (m : Int) - 1, nx, by go_num, rfl, by omega, rfl, HF2, HK4⟩
                  case measure => simp [intOf]
        · have hoi' : ¬ (out.length : Int) < i := by omega
          have HO : Hid (ordF F.md = out) := by
            have h1 := HR.out
            have h2 : out.length = i := by omega
            rw [h2, Nat.sub_self] at h1
            have h3 : run (dep F.md) i i [] = out := h1.symm
            have h4 := ordF_full HG.out (by rw [hml.out, h3]; omega)
            rw [hml.out, h3] at h4
            exact h4
          go_wp2_with fail
          go_ret
          rw [HO.out]
          exact ⟨_, rfl, HP.out.ir, HP.out.be⟩
end Go.Proofs.Ytmfngmkhdppnjaa
