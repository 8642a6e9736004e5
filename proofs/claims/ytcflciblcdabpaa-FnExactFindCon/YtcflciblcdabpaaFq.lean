import Derived.Test.YtcflciblcdabpaaJC
namespace Go.Proofs.Ytcflciblcdabpaa
open Go.RowKit Go.Joins

set_option maxHeartbeats 2000000 in
set_option maxRecDepth 100000 in
theorem i_copied (O L : Nat → Nat) (cb M M2 : Nat) (kv : List (Option Nat × Value)) (room : Int) (a : Option Addr) (n c : Nat) (R : Fo) (W : World)
    (hbx : Bx W cb [.map (some M), .map (some M2), .int .i64 room]) (hmk : MK O L W M kv) (hm2 : MK O L W M2 []) (hcl : cb < W.heap.size ∧ cb ≠ M ∧ cb ≠ M2) (hkl : ∀ p ∈ kv, ∀ b, p.1 = some b → SC W cb b ∧ LiveB W b) (hx : ∀ b, keyOf a n = some b → SC W cb b ∧ LiveB W b) (hw : whr a n = kval O L (keyOf a n)) (hg : getK (keyOf a n) kv = some (.int .i64 R.tc)) (hT : R.tc ≤ 1048576) (hr : 1048576 ≤ room ∧ room ≤ 1099511627776)
    (hf : Fit E R (rep (E 2) n)) (hs : R.Sub W (SC W cb) a n c) (hwt : R.wt ≤ 1048576) :
    Calls Try.prog 53 #[.pointer (some ⟨cb, 0, none⟩), .slice a n c] W fun e W' => ∃ a' c' R', e = .returned (.slice a' n c') ∧ R'.sim R ∧ Own W.heap.size W' (.s a' n c' R' .nil) ∧ Kept (SC W cb) W W' := by
  obtain ⟨V2, hV2⟩ : ∃ V, (W.alloc (.cells #[.slice a n c] 30)).alloc (.cells #[.pointer (some ⟨W.heap.size, 0, none⟩), .bool false] 147) = V := ⟨_, rfl⟩
  have HLJ : Hid (∃ k, LJ W cb M M2 a n c R room (.slice (some ⟨W.heap.size + 1, 0, none⟩) 1 1) V2 k) :=
    ⟨_, room, false, _, _, _, _, _, rfl, CJ.start hV2 hbx hcl.1 hf hs hT hwt, fun _ => rfl, rfl⟩
  have HV2 := hide hV2
  have HBX := hide hbx
  have HMK := hide hmk
  have HM2 := hide hm2
  have HCL := hide hcl
  have HKL := hide hkl
  have HX := hide hx
  have HW := hide hw
  have HG := hide hg
  have HT := hide hT
  have hr1 := hr.1
  have hr2 := hr.2
  clear hV2 hbx hmk hm2 hcl hkl hx hw hg hT hr hf hs
  go_enter Try.func53, Try.ntmps53
  go_wp2_with fail
  rw [HV2.out]
  go_loopw [5] (fun s5 wr => ∃ k, LJ W cb M M2 a n c R room s5 wr k) (fun s5 wr => least (LJ W cb M M2 a n c R room s5 wr))
  case atStart => exact HLJ.out
  case round =>
    clear HLJ HV2
    have hLJ := least_spec hrel
    clear hrel
    obtain ⟨room', ap, G, P, g, cap, q, rfl, hJ, hrm, hk⟩ := hLJ
    rcases List.eq_nil_or_concat P with rfl | ⟨P0, p, rfl⟩
    · obtain rfl : q = 0 := hJ.ln.symm
      obtain ⟨a', c', R', -, h1, h2, h3⟩ := hJ.cg.fin
      have HF : Hid (R'.sim R ∧ Own W.heap.size wr (.s a' n c' R' .nil) ∧ Kept (SC W cb) W wr) := ⟨h1, h2.mono (by omega), hJ.kp⟩
      clear h1 h2 hJ hk hrm
      go_wp2_with fail
      go_ret
      exact ⟨a', c', R', rfl, HF.out⟩
    · rw [List.concat_eq_append] at hJ hk
      obtain ⟨q, rfl⟩ : ∃ m, q = m + 1 := ⟨P0.length, by rw [← hJ.ln]; simp⟩
      have HK := hide hk
      obtain ⟨e1, e2, e3⟩ := hJ.cg.last
      have hln : P0.length = q := by have := hJ.ln; simpa using this
      have hce : ∀ j v, [Value.pointer (some ⟨p.g, p.o, none⟩), .bool ap][j]? = some v → wr.cell? ⟨g, q * 2 + j, none⟩ = some v := fun j v hv => by
        refine ownsRow_cell hJ.ow (q * 2 + j) v ?_
        rw [plc_app, List.getElem?_append_right (by rw [plc_len, hln]; omega), plc_len, hln]
        simpa [plc, Pl.cells] using hv
      have c0 : wr.cell? ⟨g, q * 2, none⟩ = some (.pointer (some ⟨p.g, p.o, none⟩)) := hce 0 _ rfl
      have c1 := hce 1 _ rfl
      obtain ⟨o1, o2, o3, o4⟩ := ownsRow_le hJ.ow
      have hq1 : q ≤ 1048576 := by
        have h1 := wsum_len (P0 ++ [p])
        have h2 := hJ.ws
        have h3 := hJ.ln
        omega
      obtain ⟨V1, hV1⟩ : ∃ V, wr.alloc (.cells #[.pointer (some ⟨p.g, p.o, none⟩), .bool ap] 147) = V := ⟨_, rfl⟩
      have k1 : Kept (fun _ => True) wr V1 := by rw [← hV1]; exact Kept.alloc _ _ _
      have b1 : Bx V1 wr.heap.size [.pointer (some ⟨p.g, p.o, none⟩), .bool ap] := by rw [← hV1]; exact Bx.new _ _ _
      have d0 := b1.cel 0 _ rfl
      have d1 := b1.cel 1 _ rfl
      have hpl := hJ.cg.blt p.g e2
      have x1 : V1.cell? ⟨p.g, p.o, none⟩ = some (.slice p.a p.n p.c) := (k1.cell (p := ⟨p.g, p.o, none⟩) hpl trivial).trans e1
      have y1 : V1.frozen? ⟨p.g, p.o, none⟩ = false := (k1.frozen (p := ⟨p.g, p.o, none⟩) hpl trivial).trans e3
      have HV1 := hide hV1
      have HJ := hide hJ
      have HK1 := hide k1
      have HB1 := hide b1
      clear hk hJ hV1 k1 b1 e1 e3 hce
      by_cases hn0 : p.n = 0
      · rw [hn0] at x1
        obtain ⟨G', hG'⟩ := HJ.out.emp hn0 HK1.out
        have HL' : Hid (LJ W cb M M2 a n c R room (.slice (some ⟨g, 0, none⟩) q cap) (V1.setCell ⟨p.g, p.o, none⟩ (.slice none 0 0)) (wsum P0)) := ⟨room', true, G', P0, g, cap, q, rfl, hG', fun e => (by cases e), rfl⟩
        clear hG'
        go_upto_region 4 with fail
        rw [HV1.out]
        clear HV1
        go_wp2_with fail
        go_roundw
        case rel => exact ⟨_, HL'.out⟩
        case measure =>
          rw [HK.out]
          refine Nat.lt_of_le_of_lt (least_le HL'.out) ?_
          rw [wsum_app]
          simp only [wsum]
          omega
      · have hok := HJ.out.cg.pk p (List.mem_append.2 (.inr List.mem_cons_self))
        obtain ⟨hlen, htc⟩ := ty_len _ _ hok.fit
        obtain ⟨b, o, hpa, hSb, hcel, hksub⟩ := hok.sub.2.2 (by omega)
        have htl : 1 + p.ks.tc ≤ 1048577 := by
          have h1 := HJ.out.ws
          rw [wsum_app] at h1
          simp only [wsum] at h1
          omega
        have hpn : p.n ≤ 1048576 := by omega
        have hpn0 : 0 < p.n := by omega
        rw [hpa] at x1
        have hC := i_where (some ⟨b, o, none⟩) p.n p.c V1 (fun _ => ⟨b, o, rfl⟩) hpn
        have hwh : whr (some ⟨b, o, none⟩) p.n = .agg #[.pointer (some ⟨b, o, none⟩), .int .i64 p.n] := by simp [whr, hn0]
        rw [hwh] at hC
        have HC := hide hC
        have HOK := hide hok
        clear hC hok hwh
        go_upto_region 4 with fail
        rw [HV1.out]
        clear HV1
        go_upto_region 7 with fail
        go_wp2_with fail
        refine HC.out.mono ?_
        rintro e V2 ⟨rfl, b2⟩
        obtain ⟨V3, hV3⟩ : ∃ V, V2.alloc (.cells #[.pointer (some ⟨b, o, none⟩), .int .i64 p.n] 114) = V := ⟨_, rfl⟩
        have k2 : Kept (fun _ => True) wr V2 := HK1.out.trans (kt b2)
        have k3 : Kept (fun _ => True) V2 V3 := by rw [← hV3]; exact Kept.alloc _ _ _
        have b3 : Bx V3 V2.heap.size [.pointer (some ⟨b, o, none⟩), .int .i64 p.n] := by rw [← hV3]; exact Bx.new _ _ _
        have nb3 : Bx V3 wr.heap.size [.pointer (some ⟨p.g, p.o, none⟩), .bool ap] := (HB1.out.below b2).kept k3 trivial
        have bx3 := HJ.out.bx.kept (k2.trans k3) trivial
        have w0 := b3.cel 0 _ rfl
        have w1 := b3.cel 1 _ rfl
        have n0 := nb3.cel 0 _ rfl
        have n1 := nb3.cel 1 _ rfl
        have m0 := bx3.cel 0 _ rfl
        have m2 := bx3.cel 2 _ rfl
        have HK3 := hide (k2.trans k3)
        have HV3 := hide hV3
        have HNB := hide nb3
        have HB3 := hide b3
        have HBX3 := hide bx3
        have hz2 : V2.heap.size ≥ wr.heap.size + 1 := by
          have h1 := HB1.out.lt
          have h2 := b2.size
          omega
        clear hV3 k2 k3 b3 nb3 bx3 b2 d0 d1 x1 y1
        go_upto_region 8 with fail
        rw [HV3.out]
        clear HV3
        go_cut [57] (fun s57 wx => s57 = .bool (!ap) ∧ Kept (fun _ => True) V3 wx)
        case first =>
          cases ap with
          | true =>
            go_quiet (fail)
            go_wp2_with fail
            go_meet
            case rel => exact ⟨rfl, rfl, rfl, rfl, Nat.le_refl _, fun _ _ _ => rfl⟩
          | false =>
            have hfs := HJ.out.fs rfl
            have hP0 : P0 = [] := by
              cases P0 with
              | nil => rfl
              | cons x P => simp at hfs
            subst hP0
            have hp : p = ⟨W.heap.size, 0, a, n, c, R⟩ := by simpa using hfs
            have hrm' := hrm rfl
            have e1 : p.a = a := by rw [hp]
            have e2 : p.n = n := by rw [hp]
            have hkk : kval O L (keyOf a n) = .agg #[.pointer (some ⟨b, o, none⟩), .int .i64 p.n] := by
              rw [← HW.out, ← e1, ← e2, hpa]
              simp [whr, hn0]
            have hlk : ∀ V, Kept (SC W cb) W V → (Instr.lookup 115 (.map (some M)) (.agg #[.pointer (some ⟨b, o, none⟩), .int .i64 p.n]) false).run Try.prog V = .ok (.int .i64 R.tc) V := fun V kk => by
              have hl : ∀ x : Option Nat, (∀ b, x = some b → SC W cb b ∧ LiveB W b) → LiveK V x := fun x hx => by
                cases x with
                | none => trivial
                | some b => exact (hx b rfl).2.kept kk (hx b rfl).1.1 (hx b rfl).1
              have := (HMK.out.kept kk ⟨HMK.out.lt, fun e => HCL.out.2.1 e.symm⟩).hit5 (fun p hp => hl _ (HKL.out p hp)) (keyOf a n) (hl _ HX.out) HG.out false
              rw [hkk] at this
              exact this
            have hlk0 : ∀ k, (Instr.lookup 115 (.map (some M)) (.agg #[.pointer (some ⟨b, o, none⟩), .int .i64 p.n]) false).run Try.prog (V3.drewN k) = .ok (.int .i64 R.tc) (V3.drewN k) := fun k => hlk _ ((HJ.out.kp.trans (HK3.out.mono (fun _ _ _ => trivial))).trans ⟨rfl, rfl, rfl, Nat.le_refl _, fun _ _ _ => rfl⟩)
            have hle : (R.tc : Int) ≤ room' := by have := HT.out; omega
            clear hfs hp e1 e2 hkk hlk
            go_quiet (fail)
            go_wp2_with fail
            go_meet
            case rel => exact ⟨by simp; omega, rfl, rfl, rfl, Nat.le_refl _, fun _ _ _ => rfl⟩
        case rest =>
          obtain ⟨rfl, hcb⟩ := hcut
          rename World => w4
          have HNB4 := hide (HNB.out.kept hcb trivial)
          have HB4 := hide (HB3.out.kept hcb trivial)
          have HBX4 := hide (HBX3.out.kept hcb trivial)
          have HK4 := hide (HK3.out.trans hcb)
          clear HNB HB3 HBX3 HK3 hcb w0 w1 n0 n1 m0 m2
          have hcbX := HCL.out.1
          have hXwr := HJ.out.cg.lt
          go_upto_if 57 with fail
          go_cut [] (fun wx => ∃ room'', Kept (fun d => d ≠ cb ∧ d ≠ wr.heap.size) w4 wx ∧ Bx wx cb [.map (some M), .map (some M2), .int .i64 room''] ∧ Bx wx wr.heap.size [.pointer (some ⟨p.g, p.o, none⟩), .bool true])
          case first =>
            cases ap with
            | true =>
              go_wp2_with fail
              go_meet
              case rel => exact ⟨room', Kept.refl _ _, HBX4.out, HNB4.out⟩
            | false =>
              have hfs := HJ.out.fs rfl
              have hP0 : P0 = [] := by
                cases P0 with
                | nil => rfl
                | cons x P => simp at hfs
              subst hP0
              have hp : p = ⟨W.heap.size, 0, a, n, c, R⟩ := by simpa using hfs
              have hrm' := hrm rfl
              subst hrm'
              have e1 : p.a = a := by rw [hp]
              have e2 : p.n = n := by rw [hp]
              have hkk : kval O L (keyOf a n) = .agg #[.pointer (some ⟨b, o, none⟩), .int .i64 p.n] := by
                rw [← HW.out, ← e1, ← e2, hpa]
                simp [whr, hn0]
              have hlk : ∀ V, Kept (SC W cb) W V → (Instr.lookup 115 (.map (some M)) (.agg #[.pointer (some ⟨b, o, none⟩), .int .i64 p.n]) false).run Try.prog V = .ok (.int .i64 R.tc) V := fun V kk => by
                have hl : ∀ x : Option Nat, (∀ b, x = some b → SC W cb b ∧ LiveB W b) → LiveK V x := fun x hx => by
                  cases x with
                  | none => trivial
                  | some b => exact (hx b rfl).2.kept kk (hx b rfl).1.1 (hx b rfl).1
                have := (HMK.out.kept kk ⟨HMK.out.lt, fun e => HCL.out.2.1 e.symm⟩).hit5 (fun p hp => hl _ (HKL.out p hp)) (keyOf a n) (hl _ HX.out) HG.out false
                rw [hkk] at this
                exact this
              obtain ⟨V5, hV5⟩ : ∃ V, w4.setCell ⟨wr.heap.size, 1, none⟩ (.bool true) = V := ⟨_, rfl⟩
              have k5 : Kept (fun d => d ≠ wr.heap.size) w4 V5 := by rw [← hV5]; exact Kept.setCell _ _ _ _ (by simp)
              have nb5 : Bx V5 wr.heap.size [.pointer (some ⟨p.g, p.o, none⟩), .bool true] := by rw [← hV5]; exact HNB4.out.put 1 _ (by simp)
              have bx5 := HBX4.out.kept k5 (by omega)
              have b5 := HB4.out.kept k5 (by omega)
              have n1 := HNB4.out.cel 1 _ rfl
              have f1 := HNB4.out.live 1
              have m0 := bx5.cel 0 _ rfl
              have m2 := bx5.cel 2 _ rfl
              have l2 := bx5.live 2
              have w0 := b5.cel 0 _ rfl
              have w1 := b5.cel 1 _ rfl
              have kW5 : Kept (SC W cb) W V5.drew := ((HJ.out.kp.trans (HK4.out.mono (fun _ _ _ => trivial))).trans (k5.mono (fun d _ hd => by have := hd.1; omega))).dr
              have hlk5 := hlk V5.drew kW5
              have hle : (R.tc : Int) ≤ room' := by have := HT.out; omega
              have HF : Hid (∃ room'', Kept (fun d => d ≠ cb ∧ d ≠ wr.heap.size) w4 (V5.setCell ⟨cb, 2, none⟩ (.int .i64 (room' - R.tc))).drew ∧ Bx (V5.setCell ⟨cb, 2, none⟩ (.int .i64 (room' - R.tc))).drew cb [.map (some M), .map (some M2), .int .i64 room''] ∧ Bx (V5.setCell ⟨cb, 2, none⟩ (.int .i64 (room' - R.tc))).drew wr.heap.size [.pointer (some ⟨p.g, p.o, none⟩), .bool true]) := by
                have k6 : Kept (fun d => d ≠ cb) V5 (V5.setCell ⟨cb, 2, none⟩ (.int .i64 (room' - R.tc))).drew := (Kept.setCell _ _ _ _ (by simp)).dr
                exact ⟨room' - R.tc, (k5.mono (fun d _ hd => hd.2)).trans (k6.mono (fun d _ hd => hd.1)), (bx5.put 2 _ (by simp)).kept (Kept.drew (fun _ => True) _) trivial, nb5.kept k6 (by omega)⟩
              have HV5 := hide hV5
              have hr3 : room' ≤ 1099511627776 := by omega
              clear hfs hp e1 e2 hkk hlk hV5 k5 nb5 bx5 b5 kW5 hrm
              go_upto_region 10 with fail
              rw [HV5.out]
              go_region
              go_wp2_with fail
              go_meet
              case rel => exact HF.out
          case rest =>
            obtain ⟨room'', k5, bx5, nb5⟩ := hcut
            rename World => w5
            have k15 : Kept (fun d => d ≠ cb ∧ d ≠ wr.heap.size) wr w5 := (HK4.out.mono (fun _ _ _ => trivial)).trans k5
            have hgo := ownsRow_le HJ.out.ow
            have hGlt : ∀ d ∈ W.heap.size :: G.inn, d < wr.heap.size ∧ W.heap.size ≤ d := fun d hd => ⟨HJ.out.cg.blt d hd, by
              rcases List.mem_cons.1 hd with e | e
              · omega
              · have := (HJ.out.cg.sub.inn_of d e).1
                omega⟩
            have cg5 := HJ.out.cg.kept k15 (fun d hd => by have := hGlt d hd; exact ⟨by omega, by omega⟩)
            have wb5 := HB4.out.kept k5 ⟨by omega, by omega⟩
            have kW5 : Kept (SC W cb) W w5 := HJ.out.kp.trans (k15.mono (fun d _ hd => ⟨hd.2, by have := hd.1; omega⟩))
            have m25 := HM2.out.kept kW5 ⟨HM2.out.lt, fun e => HCL.out.2.2 e.symm⟩
            have hlk : ∀ k, (Instr.lookup 116 (.map (some M2)) (.agg #[.pointer (some ⟨b, o, none⟩), .int .i64 p.n]) true).run Try.prog (w5.drewN k) = .ok (.tuple #[.slice none 0 0, .bool false]) (w5.drewN k) := fun k => miss_none (w := w5.drewN k) (m25.kept (w' := w5.drewN k) (S := fun _ => True) ⟨rfl, rfl, rfl, Nat.le_refl _, fun _ _ _ => rfl⟩ trivial) _ _
            have m1 := bx5.cel 1 _ rfl
            have w0 := wb5.cel 0 _ rfl
            have w1 := wb5.cel 1 _ rfl
            have HCG5 := hide cg5
            have HBX5 := hide bx5
            have HNB5 := hide nb5
            have HKW5 := hide kW5
            have HK15 := hide k15
            have HGL := hide hGlt
            clear k5 bx5 nb5 cg5 wb5 kW5 m25 k15 HB4 HBX4 HNB4 HK4 HC hGlt HMK HKL HX HW HG HM2 HBX HB1
            go_upto_region 11 with fail
            go_cut [8, 9] (fun s8 s9 wx => s8 = .slice none 0 0 ∧ s9 = .bool false ∧ Kept (fun _ => True) w5 wx)
            case first =>
              go_quiet (fail)
              go_wp2_with fail
              go_meet
              case rel => exact ⟨rfl, rfl, rfl, rfl, rfl, Nat.le_refl _, fun _ _ _ => rfl⟩
            case rest =>
              obtain ⟨rfl, rfl, k6⟩ := hcut
              rename World => w6
              have cg6 := HCG5.out.kept k6 (fun _ _ => trivial)
              obtain ⟨x6, -, y6⟩ := cg6.last
              rw [hpa] at x6
              have nb6 := HNB5.out.kept k6 trivial
              have n0 := nb6.cel 0 _ rfl
              have n1 := nb6.cel 1 _ rfl
              have kW6 : Kept (SC W cb) W w6 := HKW5.out.trans (k6.mono (fun _ _ _ => trivial))
              have HCL6 := hide (i_clones b o p.n p.c p.ks.vals w6 hpn0 hpn (by rw [Fo.vals_length, hlen]) (Fit.one HOK.out.fit) (hcel.kept kW6 hSb.1 hSb) (Nat.lt_of_lt_of_le hSb.1 kW6.size))
              have HCG6 := hide cg6
              have HBX6 := hide (HBX5.out.kept k6 trivial)
              have HNB6 := hide nb6
              have HKW6 := hide kW6
              have HK16 := hide (HK15.out.trans (k6.mono (fun _ _ _ => trivial)))
              clear k6 cg6 nb6 kW6 HCG5 HBX5 HNB5 HKW5 HK15 hlk m1 w0 w1 hcel
              go_upto_region 14 with fail
              go_wp2_with fail
              refine HCL6.out.mono ?_
              rintro e w7 ⟨g', cap', rfl, ho7, b7⟩
              have k7 : Kept (fun _ => True) w6 w7 := kt b7
              obtain ⟨r1, r2, r3, r4⟩ := ownsRow_le ho7
              have hz6 := HK16.out.size
              obtain ⟨V, hV⟩ : ∃ V, w7.setCell ⟨p.g, p.o, none⟩ (.slice (some ⟨g', 0, none⟩) p.n cap') = V := ⟨_, rfl⟩
              have hvl : p.ks.pl.vals.length = p.ks.pl.len := Fo.vals_length _
              have hstep := HCG6.out.step k7 (g' := g') (a' := some ⟨g', 0, none⟩) (c' := cap') (sm_pl g' p.ks 0) (fun _ => rfl) ⟨r3, r4, fun _ => ⟨g', 0, rfl, ⟨r1, r2⟩, fun i v hv => by
                  rw [Fo.pl_vals] at hv
                  rw [Nat.zero_add]
                  exact ownsRow_cell ho7 i v hv, Fo.pl_subs _ _ _⟩⟩ (by rw [Fo.pl_inn, List.append_nil, Fo.pl_len, blk_pos (by omega)]; simp) (fun d hd j => by
                  rw [Fo.pl_inn, List.append_nil, Fo.pl_len, blk_pos (by omega)] at hd
                  have e : d = g' := by simpa using hd
                  rw [e]
                  exact ownsRow_live ho7 j) (kp_ok g' p.n p.ks 0 HOK.out.fit hksub HOK.out.wt)
              rw [hV] at hstep
              obtain ⟨-, hpg, G', cgV, hG'⟩ := hstep
              have hpgl := HGL.out p.g hpg
              have kV : Kept (fun d => d ≠ p.g) w7 V := by rw [← hV]; exact Kept.setCell _ _ _ _ (by simp)
              have hzV : V.heap.size = w7.heap.size := by rw [← hV]; simp [World.setCell]
              have k7V : Kept (fun d => d ≠ p.g) w6 V := (k7.mono (fun _ _ _ => trivial)).trans kV
              have hgp : g ≠ p.g := fun e => by
                rcases List.mem_cons.1 hpg with e' | e'
                · omega
                · exact HJ.out.ng (e ▸ e')
              have hoV : V.ownsRow w6.heap.size 53 4 (.slice (some ⟨g', 0, none⟩) p.n cap') p.n p.ks.vals := ownsRow_kept ho7 kV (fun d e => by
                have e' : g' = d := Option.some.inj e
                omega)
              have HKWV : Hid (Kept (SC W cb) W V) := HKW6.out.trans (k7V.mono (fun d _ hd => by have := hd.1; omega))
              have HBXV := hide (HBX6.out.kept k7V (by omega))
              have HNBV := hide (HNB6.out.kept k7V (by omega))
              have HSTV : Hid (V.ownsRow (W.heap.size + 1) 147 2 (.slice (some ⟨g, 0, none⟩) q cap) q (plc true P0)) := by
                have h1 := ownsRow_kept (ownsRow_kept HJ.out.ow HK16.out (fun d e => by
                  have e' : g = d := Option.some.inj e
                  exact ⟨by omega, by omega⟩)) k7V (fun d e => by
                  have e' : g = d := Option.some.inj e
                  rw [← e']
                  exact hgp)
                rw [plc_app] at h1
                have h2 := ownsRow_cut h1 (by rw [plc_len, hln])
                cases ap with
                | true => exact h2
                | false =>
                  have hfs := HJ.out.fs rfl
                  have hP0 : P0 = [] := by
                    cases P0 with
                    | nil => rfl
                    | cons x P => simp at hfs
                  subst hP0
                  exact h2
              have HCGV := hide cgV
              have HG' : Hid (∀ d ∈ G'.inn, d ∈ G.inn ∨ wr.heap.size ≤ d) := fun d hd => by
                rcases hG' d hd with h | h
                · exact .inl h
                · exact .inr (by omega)
              have HOV := hide hoV
              have HV := hide hV
              have HR : Hid (w6.heap.size ≤ g' ∧ g' < V.heap.size ∧ g ≠ g' ∧ g < V.heap.size ∧ wr.heap.size < V.heap.size ∧ g ≠ wr.heap.size) := by
                have := k7.size
                refine ⟨r1, by omega, by omega, by omega, ?_, by omega⟩
                have := HNBV.out.lt
                exact this
              have x7 : w7.cell? ⟨p.g, p.o, none⟩ = some (.slice (some ⟨b, o, none⟩) p.n p.c) := (k7.cell (p := ⟨p.g, p.o, none⟩) (by show p.g < _; omega) trivial).trans x6
              have y7 : w7.frozen? ⟨p.g, p.o, none⟩ = false := (k7.frozen (p := ⟨p.g, p.o, none⟩) (by show p.g < _; omega) trivial).trans y6
              have n07 := (HNB6.out.kept k7 trivial).cel 0 _ rfl
              have n1V := HNBV.out.cel 1 _ rfl
              have HN9 : Hid (∀ wx w9, Kept (fun d => d < V.heap.size ∧ d ≠ g) V wx → Kept (fun _ => True) wx w9 → w9.cell? ⟨wr.heap.size, 1, none⟩ = some (.bool true)) := fun wx w9 k1 k2 => by
                have h := HR.out
                exact ((HNBV.out.kept k1 ⟨h.2.2.2.2.1, fun e => h.2.2.2.2.2 e.symm⟩).kept k2 trivial).cel 1 _ rfl
              clear hV ho7 b7 k7 k7V kV hoV cgV hG' HKW6 HBX6 HNB6 HCG6 HCL6 HK16 x6 y6 n0 n1 hvl hgo
              go_upto_region 16 with fail
              rw [HV.out]
              clear HV
              go_wp2_with fail
              go_loopw [5, 111] (fun s5 s111 wx => ∃ (i gi ci : Nat), s5 = .slice (some ⟨gi, 0, none⟩) (q + i) ci ∧ s111 = .int .i64 i ∧ i ≤ p.n ∧ Hid (Kept (fun d => d < V.heap.size ∧ d ≠ g) V wx) ∧ Hid (wx.ownsRow (W.heap.size + 1) 147 2 (.slice (some ⟨gi, 0, none⟩) (q + i) ci) (q + i) (plc true (P0 ++ (p.ks.kp g' 0).take i))) ∧ Hid (gi = g ∨ V.heap.size ≤ gi)) (fun _ s111 _ => p.n - (intOf s111).toNat)
              case atStart => exact ⟨0, g, cap, rfl, rfl, Nat.zero_le _, Kept.refl _ _, by unfold Hid; simpa using HSTV.out, .inl rfl⟩
              case round =>
                obtain ⟨i, gi, ci, rfl, rfl, hin, hSV, how, hgi⟩ := hrel
                by_cases hi : i < p.n
                · have hii : (i : Int) < p.n := by omega
                  obtain ⟨pi, nm, hp1, hp2, hp3, hp4, hp5⟩ := kp_get g' p.n p.ks 0 i HOK.out.fit hi
                  rw [Nat.zero_add] at hp3
                  obtain ⟨h1, h2, h3, h4, h5, h6⟩ := HR.out
                  have hnm := HOK.out.wt
                  have s2 : wr.cell? ⟨g', i * 4 + 2, none⟩ = some (.string nm) := (hSV.out.cell (p := ⟨g', i * 4 + 2, none⟩) h2 ⟨h2, fun e => h3 e.symm⟩).trans (ownsRow_cell HOV.out _ _ hp4)
                  have hg'w : g' < wr.heap.size := Nat.lt_of_lt_of_le h2 hSV.out.size
                  have HCN := hide (iClone nm wr (by omega))
                  have HPC : Hid (∀ w9, Below wr.heap.size wr w9 → w9.cell? ⟨g', i * 4 + 2, none⟩ = some (.string nm) ∧ w9.frozen? ⟨g', i * 4 + 2, none⟩ = false ∧ Kept (fun _ => True) wr w9) := fun w9 b9 => by
                    have k9 : Kept (fun _ => True) wr w9 := kt b9
                    refine ⟨(k9.cell (p := ⟨g', i * 4 + 2, none⟩) hg'w trivial).trans s2, ?_, k9⟩
                    rw [k9.frozen (p := ⟨g', i * 4 + 2, none⟩) hg'w trivial, hSV.out.frozen (p := ⟨g', i * 4 + 2, none⟩) h2 ⟨h2, fun e => h3 e.symm⟩]
                    exact ownsRow_live HOV.out _
                  go_upto_region 21 with fail
                  go_wp2_with fail
                  refine HCN.out.mono ?_
                  rintro e w9 ⟨rfl, b9⟩
                  obtain ⟨t2, u2, k9⟩ := HPC.out w9 b9
                  have hsame := setCell_same t2
                  have n9 := HN9.out wr w9 hSV.out k9
                  have HOW9 : Hid (∀ V', Kept (fun _ => True) w9 V' → V'.ownsRow (W.heap.size + 1) 147 2 (.slice (some ⟨gi, 0, none⟩) (q + i) ci) (q + i) (plc true (P0 ++ (p.ks.kp g' 0).take i))) := fun V' kV' => ownsRow_kept how.out (k9.trans kV') (fun _ _ => trivial)
                  have HFIN : Hid (∀ wy g7 cp wz, Kept (fun _ => True) w9 wy → wz.ownsRow (W.heap.size + 1) 147 2 (.slice (some ⟨g7, 0, none⟩) (q + i + 1) cp) (q + i + 1) (plc true (P0 ++ (p.ks.kp g' 0).take i) ++ [.pointer (some ⟨g', i * 4 + 3, none⟩), .bool true]) → wy.grownBy wz (some gi) → (some gi = some g7 ∨ g7 = wy.heap.size) →
                      Kept (fun d => d < V.heap.size ∧ d ≠ g) V wz ∧ wz.ownsRow (W.heap.size + 1) 147 2 (.slice (some ⟨g7, 0, none⟩) (q + (i + 1)) cp) (q + (i + 1)) (plc true (P0 ++ (p.ks.kp g' 0).take (i + 1))) ∧ (g7 = g ∨ V.heap.size ≤ g7)) := fun wy g7 cp wz ky hO hG hat => by
                    have kS : Kept (fun d => d < V.heap.size ∧ d ≠ g) wr wy := (k9.trans ky).mono (fun _ _ _ => trivial)
                    have kG : Kept (fun d => d < V.heap.size ∧ d ≠ g) wy wz := Kept.grown hG (fun d e hd => by
                      have e' : gi = d := Option.some.inj e
                      rcases hgi.out with h | h
                      · exact hd.2 (by rw [← e', h])
                      · have := hd.1
                        omega)
                    refine ⟨(hSV.out.trans kS).trans kG, ?_, ?_⟩
                    · have e1 : (p.ks.kp g' 0).take (i + 1) = (p.ks.kp g' 0).take i ++ [pi] := by
                        rw [List.take_add_one, hp1]
                        rfl
                      have e2 : plc true (P0 ++ (p.ks.kp g' 0).take (i + 1)) = plc true (P0 ++ (p.ks.kp g' 0).take i) ++ [.pointer (some ⟨g', i * 4 + 3, none⟩), .bool true] := by
                        rw [e1, ← List.append_assoc, plc_app]
                        simp [plc, Pl.cells, hp2, hp3]
                      rw [e2]
                      exact hO
                    · rcases hat with h | h
                      · have e' : gi = g7 := Option.some.inj h
                        rw [← e']
                        exact hgi.out
                      · right
                        have h1 := hSV.out.size
                        have h2 := k9.size
                        have h3 := ky.size
                        omega
                  have HLN : Hid (q + i + 1 ≤ maxLen ∧ (q + i + 1) * 16 ≤ 140737488355328) := ⟨by unfold maxLen; omega, by omega⟩
                  have HZ9 : Hid (∀ V', Kept (fun _ => True) w9 V' → W.heap.size + 1 ≤ V'.heap.size) := fun V' kV' => by
                    have q1 := hSV.out.size
                    have q2 := k9.size
                    have q3 := kV'.size
                    have q4 := HCGV.out.lt
                    omega
                  clear hp1 hp2 hp3 hp4 hp5 s2 k9 b9 HCN HPC hSV how hgi h1 h2 h3 h4 h5 h6 hnm hg'w x7 y7 n07
                  go_upto_region 22 with fail
                  clear t2 u2 hsame
                  go_region_law (first
                    | (refine ur_draw (by rfl) _ _ 148 147 (by rfl) Try.info147 Try.underlying148 rfl (by decide) (W.heap.size + 1) _ (.slice (some ⟨gi, 0, none⟩) (q + i) ci) (q + i) (plc true (P0 ++ (p.ks.kp g' 0).take i)) [.pointer (some ⟨g', i * 4 + 3, none⟩), .bool true] _ 1 (by rfl) (HOW9.out _ (by repeat (first | exact Kept.refl _ _ | refine Kept.trans ?_ (Kept.alloc _ _ _) | refine Kept.trans ?_ (Kept.drew _ _)))) (by rfl) (by first | exact heap_new _ _ | exact heap_new_dr _ _) (HZ9.out _ (by repeat (first | exact Kept.refl _ _ | refine Kept.trans ?_ (Kept.alloc _ _ _) | refine Kept.trans ?_ (Kept.drew _ _)))) rfl (by simp [Value.oneCell']) HLN.out.1 HLN.out.2 ?_; intro g7 cp w7 hO7 hG7 hat7)
                    | fail)
                  all_goals
                    have HF := hide (HFIN.out _ g7 cp _ (by repeat (first | exact Kept.refl _ _ | refine Kept.trans ?_ (Kept.alloc _ _ _) | refine Kept.trans ?_ (Kept.drew _ _))) hO7 hG7 hat7)
                    clear hO7 hG7 hat7
                    go_wp2_with fail
                    go_roundw
                    case rel => exact ⟨i + 1, g7, cp, rfl, by go_num, by omega, HF.out.1, HF.out.2.1, HF.out.2.2⟩
                    case measure => simp [intOf]; omega
                · have hie : i = p.n := by omega
                  subst hie
                  have hkl := kp_len g' p.n p.ks 0 HOK.out.fit
                  rw [List.take_of_length_le (by omega)] at how
                  have hCJ := HJ.out.more HCGV.out HG'.out HKWV.out HBXV.out hSV.out how.out hgi.out hkl (by rw [wsum_kp]; exact Nat.le_refl _)
                  have HL' : Hid (LJ W cb M M2 a n c R room (.slice (some ⟨gi, 0, none⟩) (q + p.n) ci) wr (wsum (P0 ++ p.ks.kp g' 0))) := ⟨_, true, G', _, gi, ci, _, rfl, hCJ, fun e => (by cases e), rfl⟩
                  clear hCJ how hSV hgi x7 y7 n07
                  go_wp2_with fail
                  go_roundw
                  case rel => exact ⟨_, HL'.out⟩
                  case measure =>
                    rw [HK.out]
                    refine Nat.lt_of_le_of_lt (least_le HL'.out) ?_
                    rw [wsum_app, wsum_app, wsum_kp]
                    simp only [wsum]
                    omega

end Go.Proofs.Ytcflciblcdabpaa
