import Derived.Test.YtppfohpgcofkbaaJG
namespace Go.Proofs.Ytppfohpgcofkbaa
open Go.RowKit Go.Joins

/-- Names and the texts bound to them. -/
def zw (L : List ByteArray) (K : List (List UInt8)) : List (List UInt8) := List.zipWith (fun n t => bs n ++ [32, 61, 32] ++ t) L K

set_option maxHeartbeats 8000000 in
set_option maxRecDepth 100000 in
theorem wk_7 (d : Nd) (b m : Nat) (ih : WtC b m) (na : Option Addr) (nc : Nat) (L : List ByteArray) (ka : Option Addr) (kn kc : Nat) (kk : Fo) (l : List UInt8) (W : World) (hd : d.b < b) (h4 : W.cell? ⟨d.b, d.o + 4, none⟩ = some (.slice na L.length nc)) (h5 : W.cell? ⟨d.b, d.o + 5, none⟩ = some (.slice ka kn kc)) (hsr : SR W (fun c => c < b) na nc L) (hne : L ≠ []) (hnx : L.length ≤ 16777216) (hk0 : kn = L.length + 1) (hf5 : Fit E kk (rep (E 3) kn)) (hs5 : kk.Sub W (fun c => c < b) ka kn kc) (hgd : (rdK kk).good) (hsz : kk.size ≤ m ∧ kk.wt ≤ 1048576) (h : Lib.IsBuilderF 55 5 b b (Lib.byteCells l) W) (T : List UInt8) (hT : l ++ [40, 108, 101, 116, 32] ++ sepB [59, 32] (zw L (KT kk)) = T) (Z : List UInt8) (hZ : T ++ [32, 105, 110, 32] ++ (KT kk).getD L.length [] ++ [41] = Z) (hl : Z.length ≤ 70368744177664) :
    Calls Try.prog 103 #[.agg #[d.ptr], .pointer (some ⟨b, 0, none⟩)] W fun e W' => e = .returned (.tuple #[]) ∧ Wr b Z W W' := by
  have hw := (Wr.start h).alloc (.cells #[d.ptr] 104)
  have hlt := isb_lt h
  obtain ⟨V0, hV0⟩ : ∃ V, W.alloc (.cells #[d.ptr] 104) = V := ⟨_, rfl⟩
  have b0 := below_alloc1 W (.cells #[d.ptr] 104)
  obtain ⟨nb2, no, rfl, hnb2, hrw⟩ := hsr.at_ hne
  obtain ⟨nn, hnn⟩ : ∃ nn, L.length = nn := ⟨_, rfl⟩
  rw [hnn] at h4 hnx hk0 hZ
  have hnp : 0 < nn := by rw [← hnn]; exact List.length_pos_iff.2 hne
  have c4 : (W.alloc (.cells #[d.ptr] 104)).cell? ⟨d.b, d.o + 4, none⟩ = some (.slice (some ⟨nb2, no, none⟩) nn nc) := (b0.cell (p := ⟨d.b, d.o + 4, none⟩) (by show d.b < _; omega)).trans h4
  have c5 : (W.alloc (.cells #[d.ptr] 104)).cell? ⟨d.b, d.o + 5, none⟩ = some (.slice ka kn kc) := (b0.cell (p := ⟨d.b, d.o + 5, none⟩) (by show d.b < _; omega)).trans h5
  have HS : Hid (∀ V l', Wr b l' V0 V → V.cell? ⟨W.heap.size, 0, none⟩ = some d.ptr ∧ V.cell? ⟨d.b, d.o + 4, none⟩ = some (.slice (some ⟨nb2, no, none⟩) nn nc) ∧ V.cell? ⟨d.b, d.o + 5, none⟩ = some (.slice ka kn kc)) := by
    rw [← hV0]
    exact fun V l' k => ⟨wr_box (T := 104) (by decide) h k, (k.low.cell (p := ⟨d.b, d.o + 4, none⟩) hd).trans c4, (k.low.cell (p := ⟨d.b, d.o + 5, none⟩) hd).trans c5⟩
  have HW : Hid (Wr b l W V0) := by rw [← hV0]; exact hw
  have HN : Hid (∀ V l', Wr b l' V0 V → ∀ j y, L[j]? = some y → V.cell? ⟨nb2, no + j, none⟩ = some (.string y)) := fun V l' k j y hj => ((HW.out.trans k).low.cell (p := ⟨nb2, no + j, none⟩) hnb2).trans (hrw j y hj)
  have HRD : Hid (Rd E (E 3) kn b ka 0 kk V0) := Rd.wr (Rd.start hf5 hs5) HW.out (by omega)
  have HI : Hid ((rdK kk).good ∧ (kk.size ≤ m ∧ kk.wt ≤ 1048576)) := ⟨hgd, hsz⟩
  have HIH := hide ih
  have HT := hide hT
  have HZ := hide hZ
  have HL := hide hl
  have HKN := hide hk0
  have HNN := hide hnn
  obtain ⟨c0, c4, c5⟩ := HS.out V0 l (Wr.start HW.out.is)
  have HV0 := hide hV0
  clear hV0 hw h b0 h4 h5 hT hZ hl hsz ih hf5 hs5 hgd hsr hrw hnn hk0
  unfold Nd.ptr at c0 HV0 HS ⊢
  go_enter Try.func103, Try.ntmps103
  go_upto_region 1 with fail
  rw [HV0.out]
  clear HV0
  go_wp2_with fail
  clear c0 c4 c5
  go_loopw [4, 5, 6, 14] (fun s4 _ _ s14 wr => ∃ (i : Nat) (r : Fo) (li : List UInt8) (u : ByteArray), s4 = .string u ∧ s14 = .int .i64 i ∧ i ≤ nn ∧ Hid (Rd E (E 3) kn b ka i r wr) ∧ Hid ((i = 0 ∧ u = ⟨#[40, 108, 101, 116, 32]⟩ ∧ li = l) ∨ (0 < i ∧ u = ⟨#[59, 32]⟩ ∧ li ++ restS [59, 32] false (zw (L.drop i) (KT r)) = T)) ∧ Hid ((KT kk).drop i = KT r ∧ (rdK r).good ∧ (r.size ≤ m ∧ r.wt ≤ 1048576)) ∧ Hid (Wr b li V0 wr)) (fun _ _ _ s14 _ => nn - (intOf s14).toNat)
  case atStart => exact ⟨0, kk, l, _, rfl, rfl, Nat.zero_le _, HRD, .inl ⟨rfl, rfl, rfl⟩, ⟨rfl, HI.out⟩, Wr.start HW.out.is⟩
  case round =>
    obtain ⟨i, r, li, u, rfl, rfl, hin, hRd, hinv, hr, HWi⟩ := hrel
    have hltw := isb_lt HWi.out.is
    have hik : i < kn := by have := HKN.out; omega
    obtain ⟨x, q, xb, o, rfl, hx, rfl, hb', hc, hxs, hR1⟩ := hRd.out.next hik (by decide)
    obtain ⟨g6, g2, ⟨g3, g4⟩⟩ := hr.out
    have g1 := hinv.out
    rw [KT_app hx] at g1 g6
    rw [goodK_app hx] at g2
    rw [Fo.app_size] at g3
    rw [Fo.app_wt] at g4
    have hik2 : (i : Int) < kn := by omega
    obtain ⟨c0, c4, c5⟩ := HS.out wr _ HWi.out
    have HTm : Hid (∀ V lv, Wr b lv wr V → lv.length + (fx x).length ≤ 70368744177664 → Calls Try.prog 20 #[.pointer (some ⟨b, 0, none⟩), .pointer (some ⟨xb, o + i * 7, none⟩)] V fun e W' => e = .returned (.tuple #[]) ∧ Wr b (lv ++ fx x) V W') := fun V lv k hlv =>
      HIH.out ⟨xb, o + i * 7, x⟩ lv V (by show x.size ≤ m; omega) ⟨hx, hc.below k.low hb', hxs.below k.low (fun _ hc => hc), hb'⟩ g2.1 (by show x.wt ≤ _; omega) k.is hlv
    by_cases hi : i < nn
    · have hii : (i : Int) < nn := by omega
      obtain ⟨y, hy⟩ : ∃ y, L[i]? = some y := ⟨_, List.getElem?_eq_getElem (by rw [HNN.out]; exact hi)⟩
      have hdr : L.drop i = y :: L.drop (i + 1) := by
        have hl : i < L.length := (List.getElem?_eq_some_iff.1 hy).1
        rw [List.drop_eq_getElem_cons hl, (List.getElem?_eq_some_iff.1 hy).2]
      have g7 : (KT kk).drop (i + 1) = KT q := by
        rw [← List.drop_drop, g6]
        rfl
      have HE : Hid ((li ++ (bs u ++ bs y ++ [32, 61, 32]) ++ fx x) ++ restS [59, 32] false (zw (L.drop (i + 1)) (KT q)) = T) := by
        show _ = _
        rcases g1 with ⟨rfl, rfl, rfl⟩ | ⟨_, rfl, g1⟩
        · have e1 : L = y :: L.drop 1 := by simpa using hdr
          have e2 : KT kk = fx x :: KT q := by simpa using g6
          rw [← HT.out, e2]
          conv => rhs; rw [e1]
          show _ ++ ([40, 108, 101, 116, 32] ++ _ ++ _) ++ _ ++ _ = _
          simp [zw, restS, sepB]
        · rw [← g1, hdr]
          show _ ++ ([59, 32] ++ _ ++ _) ++ _ ++ _ = _
          simp [zw, restS]
      have HLN : Hid (li.length + (bs u ++ bs y ++ bs ⟨#[32, 61, 32]⟩).length ≤ 70368744177664 ∧ (li ++ (bs u ++ bs y ++ [32, 61, 32])).length + (fx x).length ≤ 70368744177664) := by
        have h1 := congrArg List.length HE.out
        have h2 := HL.out
        rw [← HZ.out] at h2
        simp only [List.length_append, List.length_cons, List.length_nil] at h1 h2
        have e : (bs ⟨#[32, 61, 32]⟩).length = 3 := rfl
        refine ⟨?_, ?_⟩
        all_goals simp only [List.length_append, List.length_cons, List.length_nil, e]
        all_goals omega
      have HP := hide (put3 b u y ⟨#[32, 61, 32]⟩ li wr HWi.out.is HLN.out.1)
      have cy := HN.out wr _ HWi.out i y hy
      have HG : Hid ((KT kk).drop (i + 1) = KT q ∧ (rdK q).good ∧ (q.size ≤ m ∧ q.wt ≤ 1048576)) := ⟨g7, g2.2, by omega, by omega⟩
      have HRn : Hid (∀ l' V, Wr b l' wr V → Rd E (E 3) kn b (some ⟨xb, o, none⟩) (i + 1) q V) := fun l' V k => Rd.wr hR1 k (by omega)
      clear hRd hinv hr g1 g2 g3 g4 g6 g7 hc hxs hx hR1 hdr hy
      go_wp2_with fail
      refine HP.out.mono ?_
      rintro e w1 ⟨rfl, k1⟩
      have HW1 : Hid (Wr b (li ++ (bs u ++ bs y ++ [32, 61, 32])) wr w1) := k1
      have HT1 := hide (HTm.out w1 _ HW1.out HLN.out.2)
      clear k1 HP HTm c0 c4 c5 cy
      obtain ⟨c0, c4, c5⟩ := HS.out w1 _ (HWi.out.trans HW1.out)
      go_wp2_with fail
      refine HT1.out.mono ?_
      rintro e w2 ⟨rfl, k2⟩
      have HW2 := hide (HW1.out.trans k2)
      clear k2 HT1 c0 c4 c5
      go_wp2_with fail
      go_roundw
      case rel => exact ⟨i + 1, q, _, _, rfl, by go_num, by omega, HRn.out _ _ HW2.out, .inr ⟨by omega, rfl, HE.out⟩, HG, HWi.out.trans HW2.out⟩
      case measure => simp [intOf]; omega
    · have hin2 : i = nn := by omega
      subst hin2
      have hii : ¬ (i : Int) < i := by omega
      have HE : Hid (li = T) := by
        rcases g1 with ⟨e, _⟩ | ⟨_, _, g1⟩
        · omega
        · rw [List.drop_eq_nil_of_le (by rw [HNN.out]; exact Nat.le_refl _)] at g1
          have e : restS [59, 32] false (zw [] (fx x :: KT q)) = [] := rfl
          rw [e, List.append_nil] at g1
          exact g1
      have e3 : (KT kk).getD i [] = fx x := by
        rw [List.getD_eq_getElem?_getD, ← List.head?_drop, g6]
        rfl
      have HE2 : Hid (li ++ bs ⟨#[32, 105, 110, 32]⟩ ++ fx x ++ bs ⟨#[41]⟩ = Z) := by
        show _ = _
        rw [← HZ.out, e3, HE.out]
        rfl
      have HLN : Hid (li.length + 4 ≤ 70368744177664 ∧ (li ++ bs ⟨#[32, 105, 110, 32]⟩).length + (fx x).length ≤ 70368744177664 ∧ (li ++ bs ⟨#[32, 105, 110, 32]⟩ ++ fx x).length + 1 ≤ 70368744177664) := by
        have h2 := HL.out
        rw [← HE2.out] at h2
        have e4 : (bs ⟨#[32, 105, 110, 32]⟩).length = 4 := rfl
        have e5 : (bs ⟨#[41]⟩).length = 1 := rfl
        simp only [List.length_append, e4, e5] at h2 ⊢
        exact ⟨by omega, by omega, by omega⟩
      have HP := hide (put1 b ⟨#[32, 105, 110, 32]⟩ li wr HWi.out.is HLN.out.1)
      have HP2 : Hid (∀ V, Wr b (li ++ bs ⟨#[32, 105, 110, 32]⟩ ++ fx x) wr V → _) := fun V k => put1 b ⟨#[41]⟩ _ V k.is HLN.out.2.2
      clear hRd hinv hr g1 g2 g3 g4 g6 hc hxs hx hR1 e3
      go_wp2_with fail
      refine HP.out.mono ?_
      rintro e w1 ⟨rfl, k1⟩
      have HW1 := hide k1
      have HD1 : Hid (Wr b (li ++ bs ⟨#[32, 105, 110, 32]⟩) wr w1.drew) := HW1.out.next (Below.refl _ _).drew
      have HT1 := hide (HTm.out w1.drew _ HD1.out HLN.out.2.1)
      clear k1 HP HTm c0 c4 c5
      have kk0 := HS.out w1.drew _ (HWi.out.trans HD1.out)
      go_upto_region 10 with fail
      go_region_held3 (fun V => V.cell? ⟨W.heap.size, 0, none⟩ = some (.pointer (some ⟨d.b, d.o, none⟩)) ∧ V.cell? ⟨d.b, d.o + 4, none⟩ = some (.slice (some ⟨nb2, no, none⟩) i nc) ∧ V.cell? ⟨d.b, d.o + 5, none⟩ = some (.slice (some ⟨xb, o, none⟩) kn kc))
        (first | with_reducible exact kk0 | with_reducible exact kk1)
        (first
          | (go_at_call 20; refine HT1.out.mono ?_; rintro e w2 ⟨rfl, k2⟩; have HW2 := hide (HD1.out.trans k2); have kk1 := HS.out w2 _ (HWi.out.trans HW2.out); have HP3 := hide (HP2.out w2 HW2.out); clear k2)
          | fail)
      all_goals
        clear kk0 kk1 HT1 HP2
        go_wp2_with fail
        refine HP3.out.mono ?_
        rintro e w3 ⟨rfl, k3⟩
        have HW3 : Hid (Wr b Z W w3) := by rw [← HE2.out]; exact HW.out.trans (HWi.out.trans (HW2.out.trans k3))
        clear k3 HP3
        go_wp2_with fail
        go_end0
        exact ⟨rfl, HW3.out⟩

end Go.Proofs.Ytppfohpgcofkbaa
