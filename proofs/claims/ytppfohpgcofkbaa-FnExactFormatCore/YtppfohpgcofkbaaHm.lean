import Derived.Test.YtppfohpgcofkbaaHl
namespace Go.Proofs.Ytppfohpgcofkbaa
open Go.RowKit Go.Joins

theorem sep_names (con : ByteArray) (L : List ByteArray) : sepB [32] ((con :: L).map bs) = bs con ++ L.flatMap (fun x => [32] ++ bs x) := by
  show bs con ++ (L.map bs).flatMap (fun t => [32] ++ t) = _
  rw [List.flatMap_map]

set_option maxHeartbeats 8000000 in
set_option maxRecDepth 100000 in
theorem wk_8 (d : Nd) (b m : Nat) (ih : WtC b m) (hm16 : m ≤ 16777216) (nm : ByteArray) (ka : Option Addr) (kn kc : Nat) (kk : Fo) (aa : Option Addr) (an ac : Nat) (ak : Fo) (l : List UInt8) (W : World) (hd : d.b < b) (h1 : W.cell? ⟨d.b, d.o + 1, none⟩ = some (.string nm)) (h5 : W.cell? ⟨d.b, d.o + 5, none⟩ = some (.slice ka kn kc)) (h6 : W.cell? ⟨d.b, d.o + 6, none⟩ = some (.slice aa an ac)) (hk0 : kn = 1 ∨ kn = 2) (hnz : ¬ (kn = 1 ∧ an = 0)) (hax : an ≤ 16777216) (hf5 : Fit E kk (rep (E 3) kn)) (hs5 : kk.Sub W (fun c => c < b) ka kn kc) (hgd : (rdK kk).good) (hf6 : Fit E ak (rep (E 2) an)) (hs6 : ak.Sub W (fun c => c < b) aa an ac) (hga : (rdA ak).good) (hsz : (kk.size ≤ m ∧ kk.wt ≤ 1048576) ∧ ak.size ≤ m ∧ ak.wt ≤ 1048576) (h : Lib.IsBuilderF 55 5 b b (Lib.byteCells l) W) (NP : List UInt8) (hNP : (nm.toList = [] ∧ NP = []) ∨ (¬ nm.toList = [] ∧ NP = bs nm ++ [32])) (D : List (List UInt8)) (hD : D = ((KT kk).drop 1).map (fun t => [95, 32, 45, 62, 32] ++ t)) (T1 : List UInt8) (hT1 : l ++ [40, 99, 97, 115, 101, 32] ++ (KT kk).headD [] ++ [32, 111, 102, 32] ++ NP = T1) (T2 : List UInt8) (hT2 : T1 ++ [123, 32] ++ sepB [59, 32] (AT ak ++ D) = T2) (hl : T2.length + 3 ≤ 70368744177664) :
    Calls Try.prog 106 #[.agg #[d.ptr], .pointer (some ⟨b, 0, none⟩)] W fun e W' => e = .returned (.tuple #[]) ∧ Wr b (T2 ++ [32, 125, 41]) W W' := by
  have hw := (Wr.start h).alloc (.cells #[d.ptr] 105)
  have hlt := isb_lt h
  obtain ⟨V0, hV0⟩ : ∃ V, W.alloc (.cells #[d.ptr] 105) = V := ⟨_, rfl⟩
  have b0 := below_alloc1 W (.cells #[d.ptr] 105)
  have c1 : (W.alloc (.cells #[d.ptr] 105)).cell? ⟨d.b, d.o + 1, none⟩ = some (.string nm) := (b0.cell (p := ⟨d.b, d.o + 1, none⟩) (by show d.b < _; omega)).trans h1
  have c5 : (W.alloc (.cells #[d.ptr] 105)).cell? ⟨d.b, d.o + 5, none⟩ = some (.slice ka kn kc) := (b0.cell (p := ⟨d.b, d.o + 5, none⟩) (by show d.b < _; omega)).trans h5
  have c6 : (W.alloc (.cells #[d.ptr] 105)).cell? ⟨d.b, d.o + 6, none⟩ = some (.slice aa an ac) := (b0.cell (p := ⟨d.b, d.o + 6, none⟩) (by show d.b < _; omega)).trans h6
  have HS : Hid (∀ V l', Wr b l' V0 V → V.cell? ⟨W.heap.size, 0, none⟩ = some d.ptr ∧ V.cell? ⟨d.b, d.o + 1, none⟩ = some (.string nm) ∧ V.cell? ⟨d.b, d.o + 5, none⟩ = some (.slice ka kn kc) ∧ V.cell? ⟨d.b, d.o + 6, none⟩ = some (.slice aa an ac)) := by
    rw [← hV0]
    exact fun V l' k => ⟨wr_box (T := 105) (by decide) h k, (k.low.cell (p := ⟨d.b, d.o + 1, none⟩) hd).trans c1, (k.low.cell (p := ⟨d.b, d.o + 5, none⟩) hd).trans c5, (k.low.cell (p := ⟨d.b, d.o + 6, none⟩) hd).trans c6⟩
  have HW : Hid (Wr b l W V0) := by rw [← hV0]; exact hw
  have hz0 : b < V0.heap.size := isb_lt HW.out.is
  have HRA : Hid (Rd E (E 2) an b aa 0 ak V0) := Rd.wr (Rd.start hf6 hs6) HW.out (by omega)
  obtain ⟨x, q, xb, o, rfl, hx, rfl, hb', hc, hxs, hR1⟩ := (Rd.start hf5 hs5).next (by omega) (by decide)
  rw [KT_app hx] at hT1 hD
  rw [goodK_app hx] at hgd
  rw [Fo.app_size, Fo.app_wt] at hsz
  have e0 : (fx x :: KT q).headD [] = fx x := rfl
  have e1 : (fx x :: KT q).drop 1 = KT q := rfl
  rw [e0] at hT1
  rw [e1] at hD
  have HZ : Hid (l ++ bs ⟨#[40, 99, 97, 115, 101, 32]⟩ ++ fx x ++ bs ⟨#[32, 111, 102, 32]⟩ ++ NP = T1) := hT1
  have HT2 := hide hT2
  have HL := hide hl
  have HLT : Hid (T1.length + 2 + 3 ≤ 70368744177664) := by
    have h2 := hl
    rw [← hT2] at h2
    simp only [List.length_append, List.length_cons, List.length_nil] at h2
    show _ ≤ _
    omega
  have HLN : Hid (l.length + 6 ≤ 70368744177664 ∧ (l ++ bs ⟨#[40, 99, 97, 115, 101, 32]⟩).length + (fx x).length ≤ 70368744177664 ∧ (l ++ bs ⟨#[40, 99, 97, 115, 101, 32]⟩ ++ fx x).length + 4 ≤ 70368744177664 ∧ (l ++ bs ⟨#[40, 99, 97, 115, 101, 32]⟩ ++ fx x ++ bs ⟨#[32, 111, 102, 32]⟩).length + NP.length ≤ 70368744177664) := by
    have h2 := HLT.out
    rw [← HZ.out] at h2
    have e4 : (bs ⟨#[32, 111, 102, 32]⟩).length = 4 := rfl
    have e5 : (bs ⟨#[40, 99, 97, 115, 101, 32]⟩).length = 6 := rfl
    simp only [List.length_append, e4, e5] at h2 ⊢
    exact ⟨by omega, by omega, by omega, by omega⟩
  have HP := hide (put1 b ⟨#[40, 99, 97, 115, 101, 32]⟩ l V0 HW.out.is HLN.out.1)
  have HTm : Hid (∀ V lv, Wr b lv V0 V → lv.length + (fx x).length ≤ 70368744177664 → Calls Try.prog 20 #[.pointer (some ⟨b, 0, none⟩), .pointer (some ⟨xb, o, none⟩)] V fun e W' => e = .returned (.tuple #[]) ∧ Wr b (lv ++ fx x) V W') := fun V lv k hlv => by
    have k' := HW.out.trans k
    have hc' : Cel W x.vals xb o := by simpa using hc
    exact ih ⟨xb, o, x⟩ lv V (by show x.size ≤ m; omega) ⟨hx, hc'.below k'.low hb', hxs.below k'.low (fun _ hc => hc), hb'⟩ hgd.1 (by show x.wt ≤ _; omega) k.is hlv
  have HP2 : Hid (∀ V, Wr b (l ++ bs ⟨#[40, 99, 97, 115, 101, 32]⟩ ++ fx x) V0 V → _) := fun V k => put1 b ⟨#[32, 111, 102, 32]⟩ _ V k.is HLN.out.2.2.1
  have HR1 : Hid (∀ V lv, Wr b lv V0 V → Rd E (E 3) kn b (some ⟨xb, o, none⟩) 1 q V) := fun V lv k => Rd.wr (Rd.wr hR1 HW.out (by omega)) k (by omega)
  have HGQ : Hid ((rdK q).good ∧ q.size ≤ m ∧ q.wt ≤ 1048576) := ⟨hgd.2, by omega, by omega⟩
  have HGA : Hid ((rdA ak).good ∧ (ak.size ≤ m ∧ ak.wt ≤ 1048576)) := ⟨hga, hsz.2⟩
  have HIH := hide ih
  have HNP := hide hNP
  have HDD := hide hD
  have HNZ := hide hnz
  have HK0 := hide hk0
  have hki : (0 : Int) < kn := by omega
  have HSL : Hid (∀ w : World, ∃ ta, (Instr.slice 33 (.slice (some ⟨xb, o, none⟩) kn kc) (some (.int .i64 1)) none none).run Try.prog w = .ok (.slice ta (kn - 1) (kc - 1)) w) := fun w => ⟨_, slice33 _ _ _ _ (by omega)⟩
  clear c1 c5 c6
  obtain ⟨c0, c1, c5, c6⟩ := HS.out V0 l (Wr.start HW.out.is)
  have HV0 := hide hV0
  clear hV0 hw h b0 h1 h5 h6 hl hsz ih hf5 hs5 hgd hf6 hs6 hga hT1 hT2 hD hNP hnz hc hxs hx hR1 e0 e1
  unfold Nd.ptr at c0 HV0 HS ⊢
  go_enter Try.func106, Try.ntmps106
  go_upto_region 1 with fail
  rw [HV0.out]
  clear HV0
  go_wp2_with fail
  refine HP.out.mono ?_
  rintro e w1 ⟨rfl, k1⟩
  have HW1 := hide k1
  have HT1 := hide (HTm.out w1 _ HW1.out HLN.out.2.1)
  clear k1 HP HTm c0 c1 c5 c6
  obtain ⟨c0, c1, c5, c6⟩ := HS.out w1 _ HW1.out
  go_wp2_with fail
  refine HT1.out.mono ?_
  rintro e w2 ⟨rfl, k2⟩
  have HW2 := hide (HW1.out.trans k2)
  have HP3 := hide (HP2.out w2 HW2.out)
  clear k2 HT1 HP2 c0 c1 c5 c6
  go_wp2_with fail
  refine HP3.out.mono ?_
  rintro e w3 ⟨rfl, k3⟩
  have HW3 := hide (HW2.out.trans k3)
  clear k3 HP3
  obtain ⟨c0, c1, c5, c6⟩ := HS.out w3 _ HW3.out
  go_upto_if 29 with fail
  go_cut [4] (fun _ wx => Hid (Wr b T1 V0 wx))
  case first =>
    rcases HNP.out with ⟨hn1, hn2⟩ | ⟨hn1, hn2⟩
    · have HE : Hid (l ++ bs ⟨#[40, 99, 97, 115, 101, 32]⟩ ++ fx x ++ bs ⟨#[32, 111, 102, 32]⟩ = T1) := by
        have e2 := HZ.out
        rw [hn2, List.append_nil] at e2
        exact e2
      have hn3 : nm.toList.isEmpty = true := by rw [hn1]; rfl
      have hn4 : (nm.toList == []) = true := by rw [hn1]; rfl
      clear hn1 hn2
      rw [hn3, Bool.not_true]
      go_wp2_with fail
      go_meet
      case rel => exact (by rw [← HE.out]; exact HW3.out)
    · obtain ⟨hn3, hn4⟩ := text_facts hn1
      have HE : Hid (NP = bs nm ++ [32]) := hn2
      have HP4 := hide (put2 b nm ⟨#[32]⟩ _ w3 HW3.out.is (by
        have h2 := HLN.out.2.2.2
        rw [HE.out] at h2
        exact h2))
      clear hn1 hn2
      rw [hn3, Bool.not_false]
      go_wp2_with fail
      refine HP4.out.mono ?_
      rintro e w4 ⟨rfl, k4⟩
      have HW4 : Hid (Wr b T1 V0 w4) := by
        rw [← HZ.out, HE.out]
        exact HW3.out.trans k4
      clear k4 HP4
      go_wp2_with fail
      go_meet
      case rel => exact HW4.out
  case rest =>
    have HWc : Hid (Wr b T1 V0 wc) := hcut
    clear hcut c0 c1 c5 c6 HW1 HW2 HW3
    obtain ⟨c0, c1, c5, c6⟩ := HS.out wc _ HWc.out
    have HRA1 : Hid (Rd E (E 2) an b aa 0 ak wc) := Rd.wr HRA.out HWc.out (by omega)
    go_wp2_with fail
    clear c0 c1 c5 c6
    go_loopw [4, 5, 6, 46] (fun s4 _ _ s46 wr => ∃ (i : Nat) (r : Fo) (li : List UInt8) (u : ByteArray), s4 = .string u ∧ s46 = .int .i64 i ∧ i ≤ an ∧ Hid (Rd E (E 2) an b aa i r wr) ∧ Hid ((i = 0 ∧ u = ⟨#[123, 32]⟩ ∧ li = T1) ∨ (0 < i ∧ u = ⟨#[59, 32]⟩ ∧ li ++ restS [59, 32] false (AT r ++ D) = T2)) ∧ Hid ((AT ak).drop i = AT r ∧ (rdA r).good ∧ (r.size ≤ m ∧ r.wt ≤ 1048576)) ∧ Hid (Wr b li V0 wr)) (fun _ _ _ s46 _ => an - (intOf s46).toNat)
    case atStart => exact ⟨0, ak, T1, _, rfl, rfl, Nat.zero_le _, HRA1, .inl ⟨rfl, rfl, rfl⟩, ⟨rfl, HGA.out⟩, HWc⟩
    case round =>
      obtain ⟨i, r, li, u, rfl, rfl, hin, hRd, hinv, hr, HWi⟩ := hrel
      have hltw := isb_lt HWi.out.is
      obtain ⟨c0, c1, c5, c6⟩ := HS.out wr _ HWi.out
      by_cases hi : i < an
      · have hii : (i : Int) < an := by omega
        obtain ⟨y, r1, ab, ao, rfl, hy9, rfl, hab, hc9, hs9, hR9⟩ := hRd.out.next hi (by decide)
        obtain ⟨g6, g2, ⟨g3, g4⟩⟩ := hr.out
        have g1 := hinv.out
        obtain ⟨con, ca, cn, cc, ck, z, hye, hcon, hck, hz, hAT⟩ := AT_app hy9 r1
        obtain ⟨con', ca', cn', cc', ck', z', hye', -, hgA⟩ := goodA_app hy9 r1
        rw [hye] at hye'
        injection hye' with e1 e2
        injection e1 with e1
        injection e2 with e2 e3 e4 e5 e6
        subst e1 e2 e3 e4 e5 e6
        rw [hAT] at g1 g6
        rw [hgA] at g2
        rw [Fo.app_size] at g3
        rw [Fo.app_wt] at g4
        rw [hye] at hc9 hs9 g3 g4
        obtain ⟨hsC, hsz9⟩ := hs9
        obtain ⟨hsr, hln⟩ := sr_of hck hsC
        have hcn : cn + 1 ≤ 16777216 := by
          have e1 := Fit.len hck
          rw [rep_len] at e1
          have e2 := ck.len_le
          have e3 : (E 1).length = 1 := rfl
          rw [e3, Nat.mul_one] at e1
          simp only [Fo.size] at g3
          omega
        have g7 : (AT ak).drop (i + 1) = AT r1 := by
          rw [← List.drop_drop, g6]
          rfl
        obtain ⟨JX, hJX⟩ : ∃ JX, sepB [32] ((con :: rdS ck).map bs) = JX := ⟨_, rfl⟩
        have hJE : bs con ++ (rdS ck).flatMap (fun x => [32] ++ bs x) = JX := by rw [← hJX, sep_names]
        rw [hJE] at g1 g6
        have HE : Hid ((li ++ (bs u ++ bs ⟨JX.toArray⟩ ++ bs ⟨#[32, 45, 62, 32]⟩) ++ fx z) ++ restS [59, 32] false (AT r1 ++ D) = T2) := by
          show (li ++ (bs u ++ JX ++ [32, 45, 62, 32]) ++ fx z) ++ restS [59, 32] false (AT r1 ++ D) = T2
          rcases g1 with ⟨rfl, rfl, rfl⟩ | ⟨_, rfl, g1⟩
          · have e2 : AT ak = (JX ++ arrow ++ fx z) :: AT r1 := by simpa using g6
            rw [← HT2.out, e2]
            show _ ++ ([123, 32] ++ _ ++ _) ++ _ ++ _ = _
            simp [restS, sepB, arrow]
          · rw [← g1]
            show _ ++ ([59, 32] ++ _ ++ _) ++ _ ++ _ = _
            simp [restS, arrow]
        have HLN2 : Hid (li.length + (bs u ++ bs ⟨JX.toArray⟩ ++ bs ⟨#[32, 45, 62, 32]⟩).length ≤ 70368744177664 ∧ (li ++ (bs u ++ bs ⟨JX.toArray⟩ ++ bs ⟨#[32, 45, 62, 32]⟩)).length + (fx z).length ≤ 70368744177664 ∧ JX.length ≤ 70368744177664) := by
          have h1 := congrArg List.length HE.out
          have h2 := HL.out
          have e6 : (bs ⟨JX.toArray⟩).length = JX.length := rfl
          simp only [List.length_append, e6] at h1 ⊢
          exact ⟨by omega, by omega, by omega⟩
        have HJ : Hid (∀ q cap w', (∀ (j : Nat) x, (con :: rdS ck)[j]? = some x → w'.cell? ⟨q, 0 + j, none⟩ = some (.string x)) → q < w'.heap.size → 1 + cn ≤ cap → Calls Try.prog 98 #[.slice (some ⟨q, 0, none⟩) (1 + cn) cap, .string ⟨#[32]⟩] w' fun e w'' => e = .returned (.string ⟨JX.toArray⟩) ∧ Below w'.heap.size w' w'') := fun q cap w' hce hq hcap => by
          have el : (con :: rdS ck).length = 1 + cn := by rw [List.length_cons, hln]; omega
          have := iJoin q 0 cap (con :: rdS ck) w' hce hq (by rw [el]; omega) (by rw [el]; exact hcap) (by rw [hJX]; exact HLN2.out.2.2)
          rw [hJX, el] at this
          exact this
        have HSA : Hid (∀ V l', Wr b l' wr V → V.cell? ⟨ab, ao + i * 9, none⟩ = some (.string con) ∧ V.cell? ⟨ab, ao + i * 9 + 1, none⟩ = some (.slice ca cn cc)) := fun V l' k => ⟨(k.low.cell (p := ⟨ab, ao + i * 9, none⟩) hab).trans (hc9 0 _ rfl), (k.low.cell (p := ⟨ab, ao + i * 9 + 1, none⟩) hab).trans (hc9 1 _ rfl)⟩
        have HSR : Hid (SR (wr.drew.alloc (.cells #[.string con] 9)) (fun c => c < b) ca cc (rdS ck)) := hsr.below (m := b) ((Wr.start HWi.out.is).next ((Below.refl _ _).drew)|>.alloc (.cells #[.string con] 9)).low (fun c hc => hc)
        have HLNN := hide hln
        have HTm : Hid (∀ V lv, Wr b lv wr V → lv.length + (fx z).length ≤ 70368744177664 → Calls Try.prog 20 #[.pointer (some ⟨b, 0, none⟩), .pointer (some ⟨ab, ao + i * 9 + 2, none⟩)] V fun e W' => e = .returned (.tuple #[]) ∧ Wr b (lv ++ fx z) V W') := fun V lv k hlv => by
          have hcz : Cel wr z.vals ab (ao + i * 9 + 2) := fun j v hj => by
            have : wr.cell? ⟨ab, ao + i * 9 + (j + 2), none⟩ = some v := hc9 (j + 2) v hj
            rwa [show ao + i * 9 + (j + 2) = ao + i * 9 + 2 + j by omega] at this
          simp only [Fo.size, Fo.wt] at g3 g4
          exact HIH.out ⟨ab, ao + i * 9 + 2, z⟩ lv V (by show z.size ≤ m; omega) ⟨hz, hcz.below k.low hab, hsz9.below k.low (fun _ hc => hc), hab⟩ g2.1 (by show z.wt ≤ _; omega) k.is hlv
        have HP : Hid (∀ V, Wr b li wr V → _) := fun V k => put3 b u ⟨JX.toArray⟩ ⟨#[32, 45, 62, 32]⟩ li V k.is HLN2.out.1
        have HG : Hid ((AT ak).drop (i + 1) = AT r1 ∧ (rdA r1).good ∧ (r1.size ≤ m ∧ r1.wt ≤ 1048576)) := ⟨g7, g2.2, by omega, by omega⟩
        have HRn : Hid (∀ l' V, Wr b l' wr V → Rd E (E 2) an b (some ⟨ab, ao, none⟩) (i + 1) r1 V) := fun l' V k => Rd.wr hR9 k (by omega)
        have HD1 : Hid (Wr b li wr wr.drew) := (Wr.start HWi.out.is).next (Below.refl _ _).drew
        have HD2 : Hid (Wr b li wr (wr.alloc (.cells #[.string con] 9)).drew) := ((Wr.start HWi.out.is).alloc _).next (Below.refl _ _).drew
        have kk0 := HSA.out _ _ HD1.out
        have kk0b := HSA.out _ _ HD2.out
        have HCN := hide hcn
        clear hRd hinv hr g1 g2 g3 g4 g6 g7 hc9 hsC hsz9 hsr hln hR9 hye hAT hgA hck hz hy9 hJX hJE hcn hcon
        go_upto_region 11 with fail
        clear c0 c1 c5 c6
        go_region_held3 (fun V => V.cell? ⟨ab, ao + i * 9, none⟩ = some (.string con) ∧ V.cell? ⟨ab, ao + i * 9 + 1, none⟩ = some (.slice ca cn cc))
          (first | with_reducible exact kk0 | with_reducible exact kk0b | with_reducible exact kk1 | with_reducible exact kk2 | with_reducible exact kk2b | with_reducible exact kk3)
          (first
            | (refine app_draw (by rfl) _ _ (by rfl) wr.drew con ca cn cc (rdS ck) (fun c => c < b) (by rfl) (by rfl) HLNN.out HSR.out (by rw [HLNN.out]; have := HCN.out; omega) ?_; intro q cap w1 hce hq hcap b1; have HW1 := hide (HD1.out.next b1); have HJ1 := hide (HJ.out q cap w1 hce hq hcap); have kk1 := HSA.out w1 _ HW1.out; clear hce hq hcap b1)
            | (go_at_call 98; refine HJ1.out.mono ?_; rintro e w2 ⟨rfl, b2⟩; have HW2 := hide (HW1.out.next b2); have HP1 := hide (HP.out w2 HW2.out); have kk2 := HSA.out w2 _ HW2.out; have kk2b := HSA.out _ _ (HW2.out.alloc (.cells #[.string u, .string ⟨JX.toArray⟩, .string ⟨#[32, 45, 62, 32]⟩] 9)); clear b2)
            | (go_at_call 69; refine HP1.out.mono ?_; rintro e w3 ⟨rfl, k3⟩; have HW3 := hide (HW2.out.trans k3); have kk3 := HSA.out w3 _ HW3.out; have HT3 := hide (HTm.out w3 _ HW3.out HLN2.out.2.1); clear k3)
            | fail)
        all_goals
          go_wp2_with fail
          refine HT3.out.mono ?_
          rintro e w4 ⟨rfl, k4⟩
          have HW4 := hide (HW3.out.trans k4)
          clear k4 HT3
          go_wp2_with fail
          go_roundw
          case rel => exact ⟨i + 1, r1, _, _, rfl, by go_num, by omega, HRn.out _ _ HW4.out, .inr ⟨by omega, rfl, HE.out⟩, HG, HWi.out.trans HW4.out⟩
          case measure => simp [intOf]; omega
      · obtain ⟨rfl, rfl⟩ := hRd.out.done hi
        have hii : ¬ (i : Int) < i := by omega
        have g1 := hinv.out
        have g6 := hr.out.1
        rw [AT_nil] at g1 g6
        obtain ⟨ta, hsl⟩ := HSL.out wr
        have HRq := hide (HR1.out wr _ HWi.out)
        -- what the last part writes
        have HQ : Hid ((kn = 1 → li = T2) ∧ (kn = 2 → ∀ y, KT q = [y] → li ++ (bs u ++ bs ⟨#[95, 32, 45, 62, 32]⟩) ++ y = T2)) := by
          refine ⟨fun hk => ?_, fun hk y hy => ?_⟩
          · obtain ⟨rfl, -⟩ := HRq.out.done (by omega)
            have hD : D = [] := by rw [HDD.out, KT_nil]; rfl
            rcases g1 with ⟨e, _⟩ | ⟨_, _, g1⟩
            · exact absurd ⟨hk, e⟩ HNZ.out
            · rw [hD] at g1
              simpa [restS] using g1
          · have hD : D = [[95, 32, 45, 62, 32] ++ y] := by rw [HDD.out, hy]; rfl
            show li ++ (bs u ++ [95, 32, 45, 62, 32]) ++ y = T2
            rcases g1 with ⟨rfl, rfl, rfl⟩ | ⟨_, rfl, g1⟩
            · have e2 : AT ak = [] := by simpa using g6
              rw [← HT2.out, e2, hD]
              show _ ++ ([123, 32] ++ _) ++ _ = _
              simp [sepB]
            · rw [hD] at g1
              rw [← g1]
              show _ ++ ([59, 32] ++ _) ++ _ = _
              simp [restS]
        clear hRd hinv hr g1 g6 HRA HRA1
        go_wp2_with fail
        clear c0 c1 c5 c6 hsl
        go_loopw [7, 86] (fun _ s86 wq => ∃ (j : Nat) (lj : List UInt8), s86 = .int .i64 j ∧ j ≤ kn - 1 ∧ Hid ((j = 0 ∧ lj = li) ∨ (j = 1 ∧ kn = 2 ∧ lj = T2)) ∧ Hid (Wr b lj V0 wq)) (fun _ s86 _ => kn - 1 - (intOf s86).toNat)
        case atStart => exact ⟨0, li, rfl, Nat.zero_le _, .inl ⟨rfl, rfl⟩, HWi⟩
        case round =>
          obtain ⟨j, lj, rfl, hjk, hj, HWj⟩ := hrel
          have hltj := isb_lt HWj.out.is
          by_cases hlt2 : j < kn - 1
          · have hk2 : kn = 2 := by have := HK0.out; omega
            obtain rfl : j = 0 := by omega
            obtain rfl : lj = li := by
              rcases hj.out with ⟨_, e⟩ | ⟨e, _⟩
              · exact e
              · omega
            obtain ⟨x1, q1, xb1, o1, hqe, hx1, hae, hb1, hc1, hxs1, hRl⟩ := (HR1.out wr _ HWj.out).next (by omega) (by decide)
            obtain ⟨rfl, rfl⟩ : xb = xb1 ∧ o = o1 := by
              have := Option.some.inj hae
              injection this with e1 e2 _
              exact ⟨e1, e2⟩
            obtain ⟨rfl, -⟩ := hRl.done (by omega)
            have hKq : KT q = [fx x1] := by rw [hqe, KT_app hx1, KT_nil]
            have HE2 := hide (HQ.out.2 hk2 (fx x1) hKq)
            have hgq := HGQ.out
            rw [hqe, goodK_app hx1, Fo.app_size, Fo.app_wt] at hgq
            have hc1' : Cel wr x1.vals xb (o + 7) := hc1
            have HLN3 : Hid (lj.length + (bs u ++ bs ⟨#[95, 32, 45, 62, 32]⟩).length ≤ 70368744177664 ∧ (lj ++ (bs u ++ bs ⟨#[95, 32, 45, 62, 32]⟩)).length + (fx x1).length ≤ 70368744177664) := by
              have h1 := congrArg List.length HE2.out
              have h2 := HL.out
              simp only [List.length_append] at h1 ⊢
              exact ⟨by omega, by omega⟩
            have HP := hide (put2 b u ⟨#[95, 32, 45, 62, 32]⟩ lj wr HWj.out.is HLN3.out.1)
            have HTm : Hid (∀ V, Wr b (lj ++ (bs u ++ bs ⟨#[95, 32, 45, 62, 32]⟩)) wr V → Calls Try.prog 20 #[.pointer (some ⟨b, 0, none⟩), .pointer (some ⟨xb, o + 7, none⟩)] V fun e W' => e = .returned (.tuple #[]) ∧ Wr b (lj ++ (bs u ++ bs ⟨#[95, 32, 45, 62, 32]⟩) ++ fx x1) V W') := fun V k =>
              HIH.out ⟨xb, o + 7, x1⟩ _ V (by show x1.size ≤ m; omega) ⟨hx1, hc1'.below k.low hb1, hxs1.below k.low (fun _ hc => hc), hb1⟩ hgq.1.1 (by show x1.wt ≤ _; omega) k.is HLN3.out.2
            have hjj : (0 : Int) < ((kn - 1 : Nat) : Int) := by omega
            have hk1 : (1 : Int) < kn := by omega
            have HK2 := hide hk2
            clear hj hc1 hc1' hxs1 hRl hqe hgq hx1 hae hKq HQ hk2
            go_wp2_with fail
            refine HP.out.mono ?_
            rintro e w1 ⟨rfl, k1⟩
            have HW1 := hide k1
            have HT1 := hide (HTm.out w1 HW1.out)
            clear k1 HP HTm
            obtain ⟨c0, c1, c5, c6⟩ := HS.out w1 _ (HWj.out.trans HW1.out)
            go_wp2_with fail
            refine HT1.out.mono ?_
            rintro e w2 ⟨rfl, k2⟩
            have HW2 : Hid (Wr b T2 V0 w2) := by rw [← HE2.out]; exact HWj.out.trans (HW1.out.trans k2)
            clear k2 HT1 c0 c1 c5 c6
            go_wp2_with fail
            go_roundw
            case rel => exact ⟨1, T2, by go_num, by have := HK2.out; omega, .inr ⟨rfl, HK2.out, rfl⟩, HW2⟩
            case measure => simp [intOf]; omega
          · have hjj : ¬ (j : Int) < ((kn - 1 : Nat) : Int) := by omega
            obtain rfl : lj = T2 := by
              rcases hj.out with ⟨e1, e2⟩ | ⟨_, _, e⟩
              · rw [e2]
                exact HQ.out.1 (by have := HK0.out; omega)
              · exact e
            have HP := hide (put1 b ⟨#[32, 125, 41]⟩ lj wr HWj.out.is HL.out)
            clear hj HQ
            go_wp2_with fail
            refine HP.out.mono ?_
            rintro e w1 ⟨rfl, k1⟩
            have HW1 : Hid (Wr b (lj ++ [32, 125, 41]) W w1) := HW.out.trans (HWj.out.trans k1)
            clear k1 HP
            go_wp2_with fail
            go_end0
            exact ⟨rfl, HW1.out⟩

end Go.Proofs.Ytppfohpgcofkbaa
