import Derived.Test.YtmfngmkhdppnjaaOo
namespace Go.Proofs.Ytmfngmkhdppnjaa
open Go.RowKit Go.Joins

set_option maxHeartbeats 4000000 in
set_option maxRecDepth 100000 in
theorem orderOf_any (F : Fo) (a : Option Addr) (cap n : Nat) (w : World) (hs : LS w w.heap.size F a cap) (ht : F.tot ≤ 1048576) (hlen : n = F.len) :
    Calls Try.prog 17 #[.slice a n cap] w fun e w' => ∃ v er, e = .returned (.tuple #[v, er]) ∧ OA F w w' v er := by
  have hn : n ≤ 1048576 := by have h1 := F.len_le; have h2 := F.size_le; omega
  have HS := hide hs
  have HT := hide ht
  have HL := hide hlen
  have hmm := @run_makeMap Try.prog
  have h53 := run_mk53 n hn
  have h54 := run_mk54 n hn
  clear hs ht hlen
  go_enter Try.func17, Try.ntmps17
  go_wp2_with fail
  go_loopw [22] (fun s wr => ∃ i : Nat, s = .int .i64 i ∧ i ≤ n ∧ Hid (∀ j d, j < i → F.l[j]? = some d → d.k = 68) ∧ Hid (Below w.heap.size w wr)) (fun s _ => n - (intOf s).toNat)
  case atStart => exact ⟨0, rfl, Nat.zero_le _, fun j d hj => by omega, Below.refl _ _⟩
  case round =>
    obtain ⟨i, rfl, hi, HK, HB⟩ := hrel
    by_cases hlt : i < n
    · have hlt' : (i : Int) < n := by omega
      obtain ⟨d, hd, b, o, rfl, hat⟩ := HS.out.get HB.out i (by rw [← HL.out]; exact hlt)
      have c0 := hat.c0
      have c1 := hat.c1
      have c2 := hat.c2
      have HD := hide hd
      have HB1 : Hid (Below w.heap.size w (wr.alloc (.cells #[.int .i64 d.k, .string d.nm, .slice d.a d.ks.len d.cap] 37))) := HB.out.alloc HB.out.size _
      clear hat hd
      by_cases hk : d.k = 68
      · have hk' : (d.k == 68) = true := by simp [hk]
        have HK1 : Hid (∀ j d, j < i + 1 → F.l[j]? = some d → d.k = 68) := fun j d' hj hd' => by
          by_cases e : j = i
          · subst e
            have := HD.out.symm.trans hd'
            cases this
            exact hk
          · exact HK.out j d' (by omega) hd'
        clear hk
        go_wp2_with fail
        go_roundw
        case rel => exact ⟨i + 1, by go_num, by omega, HK1, HB1⟩
        case measure => simp [intOf]; omega
      · have hk' : (d.k == 68) = false := by simp [hk]
        have HO := hide (ordF_bad (bad_kind HD.out hk))
        clear hk
        go_wp2_with fail
        refine bodyPost_ret (v := .tuple #[.slice none 0 0, .iface 48 (.pointer (some ⟨wr.heap.size + 1, 0, none⟩))]) (by simp [results, Try.results17, go_sem]) rfl ⟨_, _, rfl, HB1.out.alloc HB1.out.size _, .inr ⟨_, rfl, HO.out⟩⟩
    · have hlt' : ¬ (i : Int) < n := by omega
      obtain rfl : i = n := by omega
      go_wp2_with fail
      have HP0 := hide (PM.start wr)
      have HB0 : Hid (Below w.heap.size w (wr.alloc (.map #[] 0))) := HB.out.alloc HB.out.size _
      have HMw : Hid (w.heap.size ≤ wr.heap.size) := HB.out.size
      obtain ⟨M0, hM0⟩ : ∃ M0, wr.heap.size = M0 := ⟨_, rfl⟩
      rw [hM0] at HP0 HMw ⊢
      generalize wr.alloc (.map #[] 0) = w1 at *
      clear HB hM0 hi
      have hnl : Hid ((nms F.md).length = i) := by unfold Hid nms; rw [List.length_map, Fo.md_length, ← HL.out]
      go_loopw [36] (fun s wr => ∃ j : Nat, s = .int .i64 j ∧ j ≤ i ∧ Hid (PM wr M0 j ((nms F.md).take j)) ∧ Hid (((nms F.md).take j).Nodup) ∧ Hid (Below w.heap.size w wr)) (fun s _ => i - (intOf s).toNat)
      case atStart => exact ⟨0, rfl, Nat.zero_le _, HP0, by unfold Hid; simp, HB0⟩
      case round =>
        clear HP0 HB0
        obtain ⟨j, rfl, hj, HP, HN, HB⟩ := hrel
        by_cases hlj : j < i
        · have hlj' : (j : Int) < i := by omega
          obtain ⟨d, hd, b, o, rfl, hat⟩ := HS.out.get HB.out j (by rw [← HL.out]; exact hlj)
          have c0 := hat.c0
          have c1 := hat.c1
          have c2 := hat.c2
          have HD := hide hd
          have q1 := Box3.new wr (.int .i64 d.k) (.string d.nm) (.slice d.a d.ks.len d.cap) 37
          have HB1 : Hid (Below w.heap.size w (wr.alloc (.cells #[.int .i64 d.k, .string d.nm, .slice d.a d.ks.len d.cap] 37))) := HB.out.alloc HB.out.size _
          have HM1 : Hid (PM (wr.alloc (.cells #[.int .i64 d.k, .string d.nm, .slice d.a d.ks.len d.cap] 37)) M0 j ((nms F.md).take j)) := HP.out.keep (Below.heap_alloc wr _ M0 HP.out.lt)
          have hlk := HM1.out.look d.nm hat.nm
          have hkey := WideMaps.keyOf_string_mk Try.underlying9 hat.nm
          obtain ⟨-, x0, x1, x2, -, -, -⟩ := id q1
          clear hat hd q1
          cases hf : atN ((nms F.md).take j) d.nm with
          | some k =>
            have HO := hide (ordF_bad (bad_name HD.out (by rw [hf]; rfl)))
            have hv : lkv ((nms F.md).take j) d.nm = .int .i64 (k : Nat) := by unfold lkv; rw [hf]; rfl
            rw [hv, hf] at hlk
            simp only [Option.isSome_some] at hlk
            clear hf hv
            go_wp2_with fail
            go_region
            all_goals
              go_wp2_with fail
              refine bodyPost_ret (v := .tuple #[.slice none 0 0, .iface 48 (.pointer (some ⟨wr.heap.size + 1, 0, none⟩))]) (by simp [results, Try.results17, go_sem]) rfl ⟨_, _, rfl, (HB1.out.alloc HB1.out.size _).drew, .inr ⟨_, rfl, HO.out⟩⟩
          | none =>
            have hv : lkv ((nms F.md).take j) d.nm = .int .i64 0 := by unfold lkv; rw [hf]; rfl
            rw [hv, hf] at hlk
            simp only [Option.isSome_none] at hlk
            have HF := hide hf
            have HT1 : Hid ((nms F.md).take (j + 1) = (nms F.md).take j ++ [d.nm]) := by unfold Hid; rw [List.take_add_one, nms_get HD.out]; rfl
            have HLn : Hid (((nms F.md).take j).length = j) := by unfold Hid; rw [List.length_take, hnl.out]; omega
            obtain ⟨D, hown, hmat⟩ := HM1.out
            have HAT := hide hmat
            have hMl := HP.out.lt
            clear hf hv hmat
            go_wp2_with (first | (at_mapUpdate; refine wpList_mapUpdate_own _ rfl _ _ _ 51 rfl 9 2 (Maps.string_keyed Try.underlying9) Try.underlying51 _ M0 j D rfl hown (by unfold maxLen; omega) _ _ _ rfl rfl hkey _ [] rfl ?_; intro w2 hown2 hg2) | fail)
            go_roundw
            case rel =>
              refine ⟨j + 1, by go_num, by omega, ?_, ?_, ?_⟩
              · unfold Hid
                rw [HT1.out]
                refine PM.put hown.isMap HAT.out HF.out ?_
                rw [HLn.out]
                exact hown2
              · unfold Hid
                rw [HT1.out, List.nodup_append]
                refine ⟨HN.out, by simp, fun x hx y hy e => ?_⟩
                simp only [List.mem_singleton] at hy
                subst hy e
                exact atN_none HF.out hx
              · exact HB1.out.grown hg2 HB1.out.size (fun k hk => by cases hk; exact HMw.out)
            case measure => simp [intOf]; omega
        · have hlj' : ¬ (j : Int) < i := by omega
          obtain rfl : j = i := by omega
          have HP1 : Hid (PM wr M0 j (nms F.md)) := by have := HP.out; rw [List.take_of_length_le (by rw [hnl.out]; omega)] at this; exact this
          have HN1 : Hid ((nms F.md).Nodup) := by have := HN.out; rw [List.take_of_length_le (by rw [hnl.out]; omega)] at this; exact this
          clear HP HN
          go_upto_region 18 with fail
          have HC0 := hide (PC.start wr j hn (dep F.md))
          have hMl := HP1.out.lt
          have hwm := HB.out.size
          obtain ⟨mb, hmb⟩ : ∃ mb, mb = wr.heap.size := ⟨_, rfl⟩
          rw [← hmb] at HC0 hMl hwm ⊢
          have HMB := hide hmb
          generalize (wr.alloc (.cells (madeCells #[.int .i64 0] j) 3)).alloc (.cells (madeCells #[.slice none 0 0] j) 24) = w4 at *
          obtain ⟨w3, rfl⟩ : ∃ w3, w3 = wr := ⟨wr, rfl⟩
          clear hmb
          have HSD : Hid (sumD (dep F.md) j ≤ 1048576) := by
            have h1 := F.sum_le
            have h2 := F.size_le
            have h3 := HT.out
            have h4 := HL.out
            unfold Hid
            rw [h4]; omega
          go_wp2_with fail
          go_loopw [67] (fun s wz => ∃ (i2 : Nat) (M : List Nat) (V : Nat → Value), s = .int .i64 i2 ∧ i2 ≤ j ∧ Hid (PC w3 wz mb j (dep F.md) i2 0 M V) ∧ Hid (∀ k d t, k < i2 → F.l[k]? = some d → t ∈ d.ks.ims → t ∈ nms F.md)) (fun s _ => j - (intOf s).toNat)
          case atStart => exact ⟨0, _, _, rfl, Nat.zero_le _, HC0, fun k d t hk => by omega⟩
          case round =>
            clear HC0
            obtain ⟨i2, M, V, rfl, hi2, HC, HI⟩ := hrel
            have hw3 : mb ≤ w3.heap.size := by rw [HMB.out]; exact Nat.le_refl _
            have HBz : Hid (Below w.heap.size w wr) := HB.out.trans (HC.out.be.mono hwm)
            by_cases hl2 : i2 < j
            · have hl2' : (i2 : Int) < j := by omega
              obtain ⟨d, hd, b, o, rfl, hat⟩ := HS.out.get HBz.out i2 (by rw [← HL.out]; exact hl2)
              have c0 := hat.c0
              have c1 := hat.c1
              have c2 := hat.c2
              have HD := hide hd
              have bal := below_alloc1 wr (.cells #[.int .i64 d.k, .string d.nm, .slice d.a d.ks.len d.cap] 37)
              have HC1 := hide (HC.out.kept hw3 (Kept.alloc (fun _ => True) wr (.cells #[.int .i64 d.k, .string d.nm, .slice d.a d.ks.len d.cap] 37)))
              have HX1 := hide (Box3.new wr (.int .i64 d.k) (.string d.nm) (.slice d.a d.ks.len d.cap) 37)
              obtain ⟨-, x0, x1, x2, -, -, -⟩ := id HX1.out
              have hsl : d.ks.Sl (wr.alloc (.cells #[.int .i64 d.k, .string d.nm, .slice d.a d.ks.len d.cap] 37)) (fun b => b < w.heap.size) d.a d.cap := hat.sl.below bal (fun c hc => Nat.lt_of_lt_of_le hc HBz.out.size)
              have hdl : d.ks.len ≤ 1048576 := by
                have h1 := F.l_size i2 d hd
                have h2 := F.size_le
                have h3 := HT.out
                have h4 := d.ks.len_le
                omega
              have HIO := hide (importsOf_any d (fun b => b < w.heap.size) (wr.alloc (.cells #[.int .i64 d.k, .string d.nm, .slice d.a d.ks.len d.cap] 37)) (fun c hc => by have := HBz.out.size; simp; omega) hsl hdl)
              have HVl : Hid (∀ a, a < j → ∀ c, (V a).ownBlock = some c → c < wr.heap.size) := fun a ha c hc => ((HC.out.ro a ha).lt c hc).2
              unfold nodeV at HIO
              clear hat hd hsl hdl bal
              go_wp2_with fail
              refine HIO.out.mono ?_
              rintro e0 w6 ⟨v, rfl, hNR, b6⟩
              obtain ⟨va, vc, rfl, -⟩ := hNR.sl
              obtain ⟨kl, hkl⟩ : ∃ kl, kl = (d.ks.l.filter isIm).length := ⟨_, rfl⟩
              rw [← hkl] at hNR ⊢
              have hz1 : (wr.alloc (.cells #[.int .i64 d.k, .string d.nm, .slice d.a d.ks.len d.cap] 37)).heap.size = wr.heap.size + 1 := by simp
              have HC6 := hide (HC1.out.kept hw3 (Kept.of_below b6 (fun c hc _ => hc)))
              have HX6 := hide (HX1.out.below b6 (by rw [hz1]; omega))
              have HV6 : Hid (∀ a, a < j → ∀ c, (V a).ownBlock = some c → c ≠ wr.heap.size ∧ (Value.slice va kl vc).ownBlock ≠ some c) := fun a ha c hc => by
                have h1 := HVl.out a ha c hc
                refine ⟨by omega, fun e => ?_⟩
                have := (World.ownsRow.lt hNR c e).1
                omega
              have HNR := hide hNR
              have HKL := hide hkl
              have hz6 : wr.heap.size + 1 ≤ w6.heap.size := by have := b6.size; omega
              obtain ⟨bx, hbx⟩ : ∃ bx, bx = wr.heap.size := ⟨_, rfl⟩
              rw [← hbx] at HV6 HX6 hz6 ⊢
              have hklb : kl ≤ 1048576 := by
                have h1 := List.length_filter_le isIm d.ks.l
                have h2 := F.l_size i2 d HD.out
                have h3 := F.size_le
                have h4 := HT.out
                have h5 := d.ks.len_le
                rw [Fo.l_length] at h1
                omega
              have hbm : mb + 2 ≤ bx := by rw [hbx]; exact HC.out.sz
              have HBX := hide hbx
              have HVB : Hid (∀ c, (Value.slice va kl vc).ownBlock = some c → bx < c ∧ c < w6.heap.size) := fun c hc => by
                have h1 := World.ownsRow.lt hNR c hc
                omega
              have HIM : Hid (d.ks.ims = (d.ks.l.filter isIm).map (·.nm)) := d.ks.ims_l
              have HDL : Hid ((dep F.md i2).length = kl) := by unfold Hid; rw [dep_len (md_get HD.out), hkl, HIM.out, List.length_map]
              clear hNR b6 hkl HIO HVl HC1 HX1 HC hz1 hbx x0 x1 x2 c0 c1 c2
              go_wp2_with fail
              go_loopw [75] (fun s wz => ∃ (q : Nat) (M : List Nat) (V : Nat → Value), s = .int .i64 q ∧ q ≤ kl ∧ Hid (PC w3 wz mb j (dep F.md) i2 q M V) ∧ Hid (∀ a, a < j → ∀ c, (V a).ownBlock = some c → c ≠ bx ∧ (Value.slice va kl vc).ownBlock ≠ some c) ∧ Hid (Kept (fun c => c = bx ∨ (Value.slice va kl vc).ownBlock = some c) w6 wz) ∧ Hid (∀ r e, r < q → (d.ks.l.filter isIm)[r]? = some e → e.nm ∈ nms F.md)) (fun s _ => kl - (intOf s).toNat)
              case atStart => exact ⟨0, M, V, rfl, Nat.zero_le _, HC6, HV6, Kept.refl _ _, fun r e hr => by omega⟩
              case round =>
                clear HC6 HV6
                obtain ⟨q, M, V, rfl, hq, HC, HV, HKp, HIr⟩ := hrel
                by_cases hql : q < kl
                · have hql' : (q : Int) < kl := by omega
                  obtain ⟨e, he⟩ : ∃ e, (d.ks.l.filter isIm)[q]? = some e := ⟨(d.ks.l.filter isIm)[q]'(by rw [← HKL.out]; exact hql), by simp⟩
                  have hee := List.mem_of_getElem? he
                  have hnm := HS.out.name HD.out (List.mem_filter.1 hee).1
                  have HE := hide he
                  have HNz := HNR.out.kept HKp.out (fun c hc => .inr hc)
                  obtain ⟨vb, vc', ev⟩ := HNz.form (by rw [← HKL.out]; omega)
                  simp only [Value.slice.injEq] at ev
                  obtain ⟨rfl, -, rfl⟩ := ev
                  obtain ⟨y0, y1, y2⟩ := HNz.cells HKL.out q e he
                  have HXz := HX6.out.kept HKp.out (.inl rfl)
                  have HX2 := HXz.alloc (.cells #[.int .i64 e.k, .string e.nm, .slice e.a e.ks.len e.cap] 37)
                  have xd := HX2.c1
                  obtain ⟨-, z0, z1, z2, -, -, -⟩ := Box3.new wr (.int .i64 e.k) (.string e.nm) (.slice e.a e.ks.len e.cap) 37
                  have HM2 : Hid (PM (wr.alloc (.cells #[.int .i64 e.k, .string e.nm, .slice e.a e.ks.len e.cap] 37)) M0 j (nms F.md)) := (HP1.out.keep (HC.out.be.block M0 hMl)).keep (Below.heap_alloc wr _ M0 (by have := HC.out.sz; omega))
                  have hlk := HM2.out.look e.nm hnm
                  have HC2 := hide (HC.out.kept hw3 (Kept.alloc (fun _ => True) wr (.cells #[.int .i64 e.k, .string e.nm, .slice e.a e.ks.len e.cap] 37)))
                  have hszz := HC.out.sz
                  have HBw : Hid (Below w.heap.size w (wr.alloc (.cells #[.int .i64 e.k, .string e.nm, .slice e.a e.ks.len e.cap] 37))) := HB.out.trans (HC2.out.be.mono hwm)
                  clear he hee hnm HNz HXz HX2
                  cases hf : atN (nms F.md) e.nm with
                  | none =>
                    have HO := hide (ordF_bad (bad_import HD.out (by rw [HIM.out]; exact List.mem_map.2 ⟨e, List.mem_of_getElem? HE.out, rfl⟩) hf))
                    have hv : lkv (nms F.md) e.nm = .int .i64 0 := by unfold lkv; rw [hf]; rfl
                    rw [hv, hf] at hlk
                    simp only [Option.isSome_none] at hlk
                    clear hf hv
                    go_wp2_with fail
                    go_region
                    all_goals
                      go_wp2_with fail
                      refine bodyPost_ret (v := .tuple #[.slice none 0 0, .iface 48 (.pointer (some ⟨wr.heap.size + 1, 0, none⟩))]) (by simp [results, Try.results17, go_sem]) rfl ⟨_, _, rfl, (HBw.out.alloc HBw.out.size _).drew, .inr ⟨_, rfl, HO.out⟩⟩
                  | some x =>
                    have hv : lkv (nms F.md) e.nm = .int .i64 (x : Int) := by unfold lkv; rw [hf]; rfl
                    rw [hv, hf] at hlk
                    simp only [Option.isSome_some] at hlk
                    have hxj : x < j := by have := (atN_lt hf).1; rw [hnl.out] at this; exact this
                    have hxj' : (x : Int) < j := by omega
                    have HDq : Hid ((dep F.md i2)[q]? = some x) := by
                      unfold Hid
                      rw [dep_some (md_get HD.out)]
                      simp only [List.getElem?_map, HIM.out, HE.out, Option.map_some, hf, Option.getD_some]
                    have HInew : Hid (∀ r e', r < q + 1 → (d.ks.l.filter isIm)[r]? = some e' → e'.nm ∈ nms F.md) := fun r e' hr he' => by
                      by_cases er : r = q
                      · subst er
                        cases HE.out.symm.trans he'
                        have := (atN_lt hf).2.1
                        exact List.mem_of_getElem? this
                      · exact HIr.out r e' (by omega) he'
                    have hgm : g M i2 = q := by rw [HC2.out.ms i2 hl2, if_neg (by omega), if_pos rfl]
                    have cm := HC2.out.mr.cell HC2.out.ml i2 (by rw [← HC2.out.ml]; exact hl2)
                    have fm := HC2.out.mr.frozen HC2.out.ml i2
                    rw [hgm] at cm
                    have ci : ((wr.alloc (.cells #[.int .i64 e.k, .string e.nm, .slice e.a e.ks.len e.cap] 37)).setCell ⟨mb, i2, none⟩ (.int .i64 ((q : Int) + 1))).cell? ⟨mb + 1, x, none⟩ = some (V x) := by
                      rw [World.cell?_setCell_other _ _ _ _ (by simp)]
                      exact (HC2.out.im x hxj).1
                    have ka : Kept (fun c => c ≠ mb) (wr.alloc (.cells #[.int .i64 e.k, .string e.nm, .slice e.a e.ks.len e.cap] 37)) ((wr.alloc (.cells #[.int .i64 e.k, .string e.nm, .slice e.a e.ks.len e.cap] 37)).setCell ⟨mb, i2, none⟩ (.int .i64 ((q : Int) + 1))) := Kept.setCell _ _ _ _ (by simp)
                    have hrx := HC2.out.ro x hxj
                    have HRb : Hid (IR (mb + 2) (((wr.alloc (.cells #[.int .i64 e.k, .string e.nm, .slice e.a e.ks.len e.cap] 37)).setCell ⟨mb, i2, none⟩ (.int .i64 ((q : Int) + 1))).alloc (.cells #[.int .i64 (i2 : Int)] 2)) (V x) (imp (dep F.md) i2 x ++ List.replicate (((dep F.md i2).take q).count x) i2)) := (hrx.kept ka (fun c hc => by have := (hrx.lt c hc).1; omega)).alloc _
                    have HLb : Hid ((imp (dep F.md) i2 x ++ List.replicate (((dep F.md i2).take q).count x) i2).length ≤ 1048576) := by
                      have h1 := imp_len (dep F.md) x i2
                      have h2 : ((dep F.md i2).take q).count x ≤ (dep F.md i2).length := Nat.le_trans List.count_le_length (by simp; omega)
                      have h3 := sumD_mono (dep F.md) (show i2 + 1 ≤ j by omega)
                      have h4 := HSD.out
                      simp only [sumD] at h3
                      unfold Hid
                      simp only [List.length_append, List.length_replicate]
                      omega
                    have hzb : (((wr.alloc (.cells #[.int .i64 e.k, .string e.nm, .slice e.a e.ks.len e.cap] 37)).setCell ⟨mb, i2, none⟩ (.int .i64 ((q : Int) + 1))).alloc (.cells #[.int .i64 (i2 : Int)] 2)).heap.size = wr.heap.size + 2 := by simp
                    have HZb : Hid (mb + 2 ≤ (((wr.alloc (.cells #[.int .i64 e.k, .string e.nm, .slice e.a e.ks.len e.cap] 37)).setCell ⟨mb, i2, none⟩ (.int .i64 ((q : Int) + 1))).alloc (.cells #[.int .i64 (i2 : Int)] 2)).heap.size) := by unfold Hid; rw [hzb]; omega
                    have HCc : Hid (∀ w5, (((wr.alloc (.cells #[.int .i64 e.k, .string e.nm, .slice e.a e.ks.len e.cap] 37)).setCell ⟨mb, i2, none⟩ (.int .i64 ((q : Int) + 1))).alloc (.cells #[.int .i64 (i2 : Int)] 2)).grownBy w5 (V x).ownBlock → w5.cell? ⟨mb + 1, x, none⟩ = some (V x) ∧ w5.frozen? ⟨mb + 1, x, none⟩ = false) := fun w5 hg => by
                      have k5 : Kept (fun c => (V x).ownBlock ≠ some c) (((wr.alloc (.cells #[.int .i64 e.k, .string e.nm, .slice e.a e.ks.len e.cap] 37)).setCell ⟨mb, i2, none⟩ (.int .i64 ((q : Int) + 1))).alloc (.cells #[.int .i64 (i2 : Int)] 2)) w5 := Kept.grown hg (fun k hk hc => hc hk)
                      have hne : (V x).ownBlock ≠ some (mb + 1) := fun e2 => by have := (hrx.lt _ e2).1; omega
                      refine ⟨(k5.cell (p := ⟨mb + 1, x, none⟩) (by rw [hzb]; show mb + 1 < _; omega) hne).trans (((below_alloc1 _ _).cell (p := ⟨mb + 1, x, none⟩) (by simp; omega)).trans ci), (k5.frozen (p := ⟨mb + 1, x, none⟩) (by rw [hzb]; show mb + 1 < _; omega) hne).trans (((below_alloc1 _ _).frozen (p := ⟨mb + 1, x, none⟩) (by simp; omega)).trans ?_)⟩
                      rw [World.frozen?_setCell]
                      exact (HC2.out.im x hxj).2
                    have HNc : Hid ((((wr.alloc (.cells #[.int .i64 e.k, .string e.nm, .slice e.a e.ks.len e.cap] 37)).setCell ⟨mb, i2, none⟩ (.int .i64 ((q : Int) + 1))).alloc (.cells #[.int .i64 (i2 : Int)] 2)).cell? ⟨wr.heap.size + 1, 0, none⟩ = some (iv i2)) := by
                      have h1 := cell_new ((wr.alloc (.cells #[.int .i64 e.k, .string e.nm, .slice e.a e.ks.len e.cap] 37)).setCell ⟨mb, i2, none⟩ (.int .i64 ((q : Int) + 1))) (.int .i64 (i2 : Int)) 2
                      have h2 : ((wr.alloc (.cells #[.int .i64 e.k, .string e.nm, .slice e.a e.ks.len e.cap] 37)).setCell ⟨mb, i2, none⟩ (.int .i64 ((q : Int) + 1))).heap.size = wr.heap.size + 1 := by simp
                      rw [h2] at h1
                      exact h1
                    have HST : Hid (∀ (b5 cap5 : Nat) (w5 : World), IR (mb + 2) w5 (.slice (some ⟨b5, 0, none⟩) ((imp (dep F.md) i2 x ++ List.replicate (((dep F.md i2).take q).count x) i2).length + 1) cap5) ((imp (dep F.md) i2 x ++ List.replicate (((dep F.md i2).take q).count x) i2) ++ [i2]) → (((wr.alloc (.cells #[.int .i64 e.k, .string e.nm, .slice e.a e.ks.len e.cap] 37)).setCell ⟨mb, i2, none⟩ (.int .i64 ((q : Int) + 1))).alloc (.cells #[.int .i64 (i2 : Int)] 2)).grownBy w5 (V x).ownBlock → ((V x).ownBlock = some b5 ∨ b5 = (((wr.alloc (.cells #[.int .i64 e.k, .string e.nm, .slice e.a e.ks.len e.cap] 37)).setCell ⟨mb, i2, none⟩ (.int .i64 ((q : Int) + 1))).alloc (.cells #[.int .i64 (i2 : Int)] 2)).heap.size) →
                        ∃ M' V', PC w3 (w5.setCell ⟨mb + 1, x, none⟩ (.slice (some ⟨b5, 0, none⟩) ((imp (dep F.md) i2 x ++ List.replicate (((dep F.md i2).take q).count x) i2).length + 1) cap5)) mb j (dep F.md) i2 (q + 1) M' V' ∧
                          (∀ a, a < j → ∀ c, (V' a).ownBlock = some c → c ≠ bx ∧ (Value.slice (some ⟨vb, 0, none⟩) kl vc).ownBlock ≠ some c) ∧
                          Kept (fun c => c = bx ∨ (Value.slice (some ⟨vb, 0, none⟩) kl vc).ownBlock = some c) w6 (w5.setCell ⟨mb + 1, x, none⟩ (.slice (some ⟨b5, 0, none⟩) ((imp (dep F.md) i2 x ++ List.replicate (((dep F.md i2).take q).count x) i2).length + 1) cap5))) := fun b5 cap5 w5 h1 h2 h3 => by
                      have hkz := HKp.out.size
                      refine ⟨_, _, HC2.out.step hw3 hl2 hxj HDq.out (Kept.alloc (fun _ => True) _ _) h1 h2 h3, fun a ha c hc => ?_, ?_⟩
                      · by_cases ea : a = x
                        · subst ea
                          simp only [if_true, Value.ownBlock, Option.some.injEq] at hc
                          subst hc
                          rcases h3 with e3 | e3
                          · exact HV.out a ha b5 e3
                          · rw [hzb] at e3
                            refine ⟨by omega, fun e4 => ?_⟩
                            have := (HVB.out b5 e4).2
                            omega
                        · simp only [if_neg ea] at hc
                          exact HV.out a ha c hc
                      · have hvb := HVB.out vb rfl
                        have hS : ∀ m', m' ≤ mb + 1 → ¬ (m' = bx ∨ (Value.slice (some ⟨vb, 0, none⟩) kl vc).ownBlock = some m') := fun m' hm' hc => by
                          rcases hc with hc | hc
                          · omega
                          · have := (HVB.out m' hc).1; omega
                        refine ((((HKp.out.trans (Kept.alloc _ _ _)).trans (Kept.setCell _ _ _ _ (hS mb (by omega)))).trans (Kept.alloc _ _ _)).trans (Kept.grown h2 ?_)).trans (Kept.setCell _ _ _ _ (hS (mb + 1) (by omega)))
                        intro k hk hc
                        have h9 := HV.out x hxj k hk
                        rcases hc with hc | hc
                        · exact h9.1 hc
                        · exact h9.2 hc
                    have hqb : q ≤ 1048576 := by omega
                    clear hf hv hgm ka hrx hzb HC HV HKp HIr HDq HC2
                    go_wp2_with (at_builtin; refine ir_step 24 Try.underlying24 rfl _ _ rfl (mb + 2) _ (V x) (imp (dep F.md) i2 x ++ List.replicate (((dep F.md i2).take q).count x) i2) i2 ⟨wr.heap.size + 1, 0, none⟩ rfl rfl HZb.out HRb.out HNc.out HLb.out ?_; intro b5 cap5 w5 hR5 hg5 hat5 hlt5; obtain ⟨c5, f5⟩ := HCc.out w5 hg5)
                    have HF := HST.out b5 cap5 w5 hR5 hg5 hat5
                    simp only [List.length_append, List.length_replicate] at HF
                    go_roundw
                    case rel =>
                      obtain ⟨M', V', g1, g2, g3⟩ := HF
                      exact ⟨q + 1, M', V', by go_num, by omega, g1, g2, g3, HInew⟩
                    case measure => simp [intOf]; omega
                · have hql' : ¬ (q : Int) < kl := by omega
                  obtain rfl : q = kl := by omega
                  have HCn := hide (HC.out.next HDL.out.symm)
                  have HIn : Hid (∀ k d t, k < i2 + 1 → F.l[k]? = some d → t ∈ d.ks.ims → t ∈ nms F.md) := fun k d' t hk hd' ht => by
                    by_cases ek : k = i2
                    · subst ek
                      cases HD.out.symm.trans hd'
                      rw [HIM.out] at ht
                      obtain ⟨e, he, rfl⟩ := List.mem_map.1 ht
                      obtain ⟨r, hr⟩ := List.getElem?_of_mem he
                      exact HIr.out r e (by rw [HKL.out]; exact (List.getElem?_eq_some_iff.1 hr).1) hr
                    · exact HI.out k d' t (by omega) hd' ht
                  go_wp2_with fail
                  go_roundw
                  case rel => exact ⟨i2 + 1, M, V, by go_num, by omega, HCn, HIn⟩
                  case measure => simp [intOf]; omega
            · have hl2' : ¬ (i2 : Int) < j := by omega
              obtain rfl : i2 = j := by omega
              have hG : Good F.md := by
                refine ⟨fun m hm => ?_, HN1.out, fun m hm t ht => ?_⟩
                · rw [Fo.md_l] at hm
                  obtain ⟨d, hd, rfl⟩ := List.mem_map.1 hm
                  obtain ⟨k, hk⟩ := List.getElem?_of_mem hd
                  exact HK.out k d (by rw [HL.out, ← Fo.l_length]; exact (List.getElem?_eq_some_iff.1 hk).1) hk
                · rw [Fo.md_l] at hm
                  obtain ⟨d, hd, rfl⟩ := List.mem_map.1 hm
                  obtain ⟨k, hk⟩ := List.getElem?_of_mem hd
                  exact HI.out k d t (by rw [HL.out, ← Fo.l_length]; exact (List.getElem?_eq_some_iff.1 hk).1) hk ht
              have hszz := HC.out.sz
              have HOB := hide (orderBy_any i2 mb (mb + 1) (dep F.md) M V wr hn HC.out.mr HC.out.ml (by omega) (by omega) (fun a ha => by
                  have hr := HC.out.ro a ha
                  simp only [List.take_zero, List.count_nil, List.replicate_zero, List.append_nil] at hr
                  refine ⟨(HC.out.im a ha).1, hr.mono (Nat.zero_le _), fun e => ?_, Nat.le_trans (imp_len _ a i2) HSD.out⟩
                  have := (hr.lt _ e).1
                  omega)
                (fun k hk => by rw [HC.out.ms k hk, if_pos hk])
                (fun k hk => by
                  have h1 := sumD_mono (dep F.md) (show k + 1 ≤ i2 by omega)
                  have h2 := HSD.out
                  simp only [sumD] at h1
                  omega))
              have HGd := hide hG
              clear hG
              go_wp2_with fail
              refine HOB.out.mono ?_
              rintro e0 w9 ⟨v9, rfl, hR9, k9⟩
              obtain ⟨a9, c9, rfl, -⟩ := hR9.sl
              have HB9 : Hid (Below w.heap.size w w9) := Below.kept HBz.out k9 (fun c hc => by omega) (Nat.le_refl _)
              have HR9 : Hid (IR w.heap.size w9 (.slice a9 (run (dep F.md) i2 i2 []).length c9) (run (dep F.md) i2 i2 [])) := hR9.mono HBz.out.size
              have hml : F.md.length = i2 := by rw [Fo.md_length, HL.out]
              clear hR9 k9
              obtain ⟨len9, hlen9⟩ : ∃ len9, len9 = (run (dep F.md) i2 i2 []).length := ⟨_, rfl⟩
              rw [← hlen9] at HR9 ⊢
              by_cases h9 : len9 < i2
              · have h9' : (len9 : Int) < i2 := by omega
                have HO : Hid (ordF F.md = []) := ordF_short HGd.out (by rw [hml, ← hlen9]; exact h9)
                clear hml hlen9
                go_wp2_with fail
                refine bodyPost_ret (v := .tuple #[.slice none 0 0, .iface 48 (.pointer (some ⟨w9.heap.size, 0, none⟩))]) (by simp [results, Try.results17, go_sem]) rfl ⟨_, _, rfl, HB9.out.alloc HB9.out.size _, .inr ⟨_, rfl, HO.out⟩⟩
              · have h9' : ¬ (len9 : Int) < i2 := by omega
                have HO : Hid (ordF F.md = run (dep F.md) i2 i2 []) := by
                  have := ordF_full HGd.out (by rw [hml, ← hlen9]; exact h9)
                  rw [hml] at this
                  exact this
                clear hml hlen9
                go_wp2_with fail
                refine bodyPost_ret (v := .tuple #[.slice a9 len9 c9, .nilIface]) (by simp [results, Try.results17, go_sem]) rfl ⟨_, _, rfl, HB9.out, .inl ⟨rfl, ?_⟩⟩
                rw [HO.out]
                exact HR9.out

end Go.Proofs.Ytmfngmkhdppnjaa
