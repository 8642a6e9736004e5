import Derived.Test.YtcnokpaicnjkfaaMa
namespace Go.Proofs.Ytcnokpaicnjkfaa
open Go.RowKit Go.Joins

theorem FI.name {V1 wr : World} {v0 v : Value} {M : List ByteArray} {nb : Nat} {a : Option Addr} {c : Nat} {NS : List ByteArray} (h : FI V1 wr v0 v M) (hs : SR V1 (fun c => c < nb) a c NS) (hz : nb ≤ V1.heap.size) (hv : ∀ g, v0.ownBlock = some g → nb ≤ g) {i : Nat} (hi : i < NS.length) :
    ∃ b o x, a = some ⟨b, o, none⟩ ∧ NS.drop i = x :: NS.drop (i + 1) ∧ wr.cell? ⟨b, o + i, none⟩ = some (.string x) := by
  obtain ⟨b, o, e, hb, hc⟩ := hs.at_ (fun e => by rw [e] at hi; simp at hi)
  refine ⟨b, o, NS[i], e, List.drop_eq_getElem_cons hi, ?_⟩
  have hb' : b < nb := hb
  exact (h.kp.cell (p := ⟨b, o + i, none⟩) (by show b < _; omega) ⟨by show b < _; omega, fun e => by have := hv _ e; have : nb ≤ b := this; omega⟩).trans (hc i _ (List.getElem?_eq_getElem hi))

theorem adds_cons (L : List ByteArray) (x : ByteArray) (M : List ByteArray) : adds L (x :: M) = adds (adds L [x]) M := adds_append [x] M L

theorem adds1_len (L : List ByteArray) (x : ByteArray) : (adds L [x]).length ≤ L.length + 1 := adds_len [x] L

theorem ne_text {nm : ByteArray} (g1 : ¬ nm = ⟨#[]⟩) : nm.toList.isEmpty = false := by
  cases hh : nm.toList with
  | nil => exact absurd ((empty_iff nm).1 hh) g1
  | cons a b => rfl

set_option maxHeartbeats 8000000 in
set_option maxRecDepth 100000 in
theorem all_step (nb m : Nat) (ih : AllC nb m) : AllC nb (m + 1) := by
  intro F W v L hm hf hs hnb hv ho hL
  obtain ⟨k, nm, mn, la, ln, lc, lk, na, nn, nc, nk, ka, kn, kc, kk, aa, an, ac, ak, rfl, -, hnm, h3, h4, h5, h6⟩ := core_open hf
  obtain ⟨hs3, hs4, hs5, hs6, -⟩ := hs
  rw [rdK_nd, rdK_nil]
  simp only [Fo.size] at hm hL
  simp only [Fo.vals]
  obtain ⟨oa, oc, rfl, -, -⟩ := sr_row ho
  obtain ⟨on, hon⟩ : ∃ n, n = L.length := ⟨_, rfl⟩
  rw [← hon] at ho hv
  rw [← hon]
  have hnx : nn ≤ 9223372036854775807 := sub_facts hs4
  have hkx : kn ≤ 9223372036854775807 := sub_facts hs5
  have hax : an ≤ 9223372036854775807 := sub_facts hs6
  obtain ⟨V1, hV1⟩ : ∃ V, W.alloc (.cells #[.int .i64 k, .string nm, .bool mn, .slice la ln lc, .slice na nn nc, .slice ka kn kc, .slice aa an ac] 36) = V := ⟨_, rfl⟩
  have b0 : Below W.heap.size W V1 := by rw [← hV1]; exact below_alloc1 _ _
  have z0 : V1.heap.size = W.heap.size + 1 := by rw [← hV1]; simp
  have q0 : Bx V1 W.heap.size [.int .i64 k, .string nm, .bool mn, .slice la ln lc, .slice na nn nc, .slice ka kn kc, .slice aa an ac] := by rw [← hV1]; exact Bx.new _ _ _
  have hvo : ∀ c, (Value.slice oa on oc).ownBlock = some c → c < W.heap.size := own_lt ho
  obtain ⟨sn, eln⟩ := sr_of h4 hs4
  obtain ⟨NS, hNS⟩ : ∃ X, rdS nk = X := ⟨_, rfl⟩
  rw [hNS] at sn eln ⊢
  have hnl : NS.length ≤ nk.size := by rw [← hNS]; exact rdS_le nk
  have HSN : Hid (SR V1 (fun c => c < nb) na nc NS) := sn.below b0 (fun c hc => by show c < _; have : c < nb := hc; omega)
  have HEL := hide eln
  have HON := hide hon
  have HFI : Hid (FI V1 V1 (.slice oa on oc) (.slice oa on oc) L) := FI.start (by rw [← hon]; exact ownsRow_kept ho (kt (S := fun _ => True) b0) (fun _ _ => trivial))
  have HRK := hide ((Rd.start h5 hs5).below b0 hnb)
  have HRA := hide ((Rd.start h6 hs6).below b0 hnb)
  have HQK : Hid (∀ V, Kept (fun c => c < V1.heap.size ∧ (Value.slice oa on oc).ownBlock ≠ some c) V1 V → Bx V W.heap.size [.int .i64 k, .string nm, .bool mn, .slice la ln lc, .slice na nn nc, .slice ka kn kc, .slice aa an ac]) := fun V k => q0.kept k ⟨by omega, fun e => by have := hvo _ e; omega⟩
  have HV := hide hv
  have HNZ : Hid (nb ≤ V1.heap.size) := by show _ ≤ _; omega
  have HM : Hid (kk.size ≤ m ∧ ak.size ≤ m) := ⟨by omega, by omega⟩
  have HSZ : Hid (L.length + 1 + NS.length + kk.size + ak.size ≤ 16777216) := by show _ ≤ _; omega
  have HEND : Hid (∀ wr a n c M, FI V1 wr (.slice oa on oc) (.slice a n c) M → n = M.length → M = adds (adds (adds (adds L (own1 k nm)) NS) (rdK kk).all) (rdA ak).all → FrP (.slice oa on oc) (adds L (Tm.nd ⟨⟨#[]⟩, [], k, nm, mn, rdU lk, NS⟩ (rdK kk) (rdA ak) .nil).all) W (.returned (.slice a n c)) wr) := fun wr a n c M h1 h2 h3 => by
    have e : adds L (Tm.nd ⟨⟨#[]⟩, [], k, nm, mn, rdU lk, NS⟩ (rdK kk) (rdA ak) .nil).all = M := by
      rw [h3]
      simp only [Tm.all, List.nil_append, List.append_nil]
      rw [adds_append, adds_append, adds_append]
    rw [e]
    exact h1.frp h2 (kt b0)
  have HAD := hide (m_add (.slice oa on oc) L nm V1 (by rw [← hon]; exact ownsRow_kept ho (kt (S := fun _ => True) b0) (fun _ _ => trivial)) (by omega))
  have HV1 := hide hV1
  have c0 := q0.cel 0 _ rfl
  have c1 := q0.cel 1 _ rfl
  have HO1 : Hid ((nm = ⟨#[]⟩ → own1 k nm = []) ∧ (¬ nm = ⟨#[]⟩ → k = 1 ∨ k = 8 → own1 k nm = [nm]) ∧ (¬ k = 1 → ¬ k = 8 → own1 k nm = [])) := by
    refine ⟨fun h => if_neg (fun e => e.1 h), fun h1 h2 => if_pos ⟨h1, h2⟩, fun h1 h2 => if_neg (fun e => e.2.elim h1 h2)⟩
  clear hV1 b0 q0 z0 ho hvo hs3 hs4 hs5 hs6 hv hf hm hL h3 h4 h5 h6 hon sn eln hNS hnl hnm
  have hcs : nm = ⟨#[]⟩ ∨ (¬ nm = ⟨#[]⟩ ∧ k = 1) ∨ (¬ nm = ⟨#[]⟩ ∧ k = 8) ∨ (¬ nm = ⟨#[]⟩ ∧ ¬ k = 1 ∧ ¬ k = 8) := by
    by_cases h1 : nm = ⟨#[]⟩
    · exact .inl h1
    · by_cases h2 : k = 1
      · exact .inr (.inl ⟨h1, h2⟩)
      · by_cases h3 : k = 8
        · exact .inr (.inr (.inl ⟨h1, h3⟩))
        · exact .inr (.inr (.inr ⟨h1, h2, h3⟩))
  obtain ⟨T1, hT1⟩ : ∃ T, adds L (own1 k nm) = T := ⟨_, rfl⟩
  rw [hT1] at HEND
  rcases hcs with hn0 | ⟨hn1, hk1⟩ | ⟨hn1, hk1⟩ | ⟨hn1, hk1, hk2⟩
  · have HT : Hid (T1 = L) := by unfold Hid; rw [← hT1, HO1.out.1 hn0]; rfl
    have g1 : nm.toList.isEmpty = true := by rw [(empty_iff nm).2 hn0]; rfl
    clear hn0 hT1 HO1 HAD
    go_enter Try.func42, Try.ntmps42
    go_upto_region 1 with fail
    rw [HV1.out]
    clear HV1
    go_upto_region 3 with fail
    clear c0 c1
    go_upto_region 4 with fail
    go_loopw [1, 5] (fun s1 s5 wr => ∃ (i : Nat) (M : List ByteArray) (a : Option Addr) (n c : Nat), s1 = .slice a n c ∧ s5 = .int .i64 i ∧ i ≤ nn ∧ Hid (n = M.length) ∧ Hid (adds M (NS.drop i) = adds T1 NS ∧ M.length + (NS.length - i) + kk.size + ak.size ≤ 16777216) ∧ Hid (FI V1 wr (.slice oa on oc) (.slice a n c) M)) (fun _ s5 _ => nn - (intOf s5).toNat)
    case atStart => exact ⟨0, L, _, _, _, rfl, rfl, Nat.zero_le _, HON, ⟨by rw [List.drop_zero, HT.out], by have := HSZ.out; omega⟩, HFI⟩
    case round =>
      obtain ⟨i, M, a, n, c, rfl, rfl, hin, hlen, hinv, hFI⟩ := hrel
      have c4 := (HQK.out wr hFI.out.kp).cel 4 _ rfl
      by_cases hi : i < nn
      · obtain ⟨b, o, x, rfl, hdr, hcx⟩ := hFI.out.name HSN.out HNZ.out HV.out (i := i) (by rw [HEL.out]; exact hi)
        obtain ⟨g3, g4⟩ := hinv.out
        have hii : (i : Int) < nn := by omega
        have eln := HEL.out
        rw [hdr, adds_cons] at g3
        have HC := hide (m_add (.slice a n c) M x wr hFI.out.own (by omega))
        obtain ⟨M2, hM2⟩ : ∃ M2, adds M [x] = M2 := ⟨_, rfl⟩
        rw [hM2] at g3 HC
        have HG : Hid (adds M2 (NS.drop (i + 1)) = adds T1 NS ∧ M2.length + (NS.length - (i + 1)) + kk.size + ak.size ≤ 16777216) := ⟨g3, by have := adds1_len M x; rw [hM2] at this; omega⟩
        clear g3 g4 hinv hdr eln hM2
        go_wp2_with (go_at_call 54; refine HC.out.mono ?_; rintro e w2 ⟨a2, c2, rfl, ho2, hk2', hg2⟩; have HF2 := hide (hFI.out.call ho2 hk2' hg2); clear ho2 hk2' hg2)
        go_roundw
        case rel => exact ⟨i + 1, M2, _, _, _, rfl, by go_num, by omega, rfl, HG, HF2⟩
        case measure => simp [intOf]; omega
      · have hji : ¬ (i : Int) < nn := by omega
        have HG : Hid (M = adds T1 NS ∧ M.length + kk.size + ak.size ≤ 16777216) := by
          obtain ⟨g3, g4⟩ := hinv.out
          rw [List.drop_eq_nil_of_le (by rw [HEL.out]; omega)] at g3
          exact ⟨g3, by omega⟩
        have HRK2 := hide (hFI.out.rd HRK.out HNZ.out HV.out)
        clear hinv
        go_upto_region 8 with fail
        go_loopw [1, 6] (fun s1 s6 wr => ∃ (i : Nat) (r : Fo) (M : List ByteArray) (a : Option Addr) (n c : Nat), s1 = .slice a n c ∧ s6 = .int .i64 i ∧ i ≤ kn ∧ Hid (n = M.length) ∧ Hid (adds M (rdK r).all = adds (adds T1 NS) (rdK kk).all ∧ M.length + r.size + ak.size ≤ 16777216 ∧ r.size ≤ kk.size) ∧ Hid (Rd E (E 3) kn nb ka i r wr) ∧ Hid (FI V1 wr (.slice oa on oc) (.slice a n c) M)) (fun _ s6 _ => kn - (intOf s6).toNat)
        case atStart => exact ⟨0, kk, M, _, _, _, rfl, rfl, Nat.zero_le _, hlen, ⟨by rw [HG.out.1], by have := HG.out.2; omega, Nat.le_refl _⟩, HRK2, hFI⟩
        case round =>
          clear HG hFI hlen HRK2
          obtain ⟨i, r, M, a, n, c, rfl, rfl, hin, hlen, hinv, hRd, hFI⟩ := hrel
          have c5 := (HQK.out wr hFI.out.kp).cel 5 _ rfl
          by_cases hi : i < kn
          · obtain ⟨x, rr, b, o, rfl, hx, rfl, hb, hc, hxs, hR1⟩ := hRd.out.next hi (by decide)
            obtain ⟨g1, g3, g4⟩ := hinv.out
            rw [allK_app hx, adds_append] at g1
            rw [Fo.app_size] at g3 g4
            have hii : (i : Int) < kn := by omega
            have hvg : ∀ g, (Value.slice a n c).ownBlock = some g → nb ≤ g := fun g hg => by
              rcases hFI.out.at_ g hg with e | e
              · exact HV.out g e
              · have := HNZ.out; omega
            have HC := hide (ih x wr (.slice a n c) M (by have := HM.out; omega) hx hxs (by have := HNZ.out; have := hFI.out.kp.size; omega) hvg hFI.out.own (by omega))
            obtain ⟨M2, hM2⟩ : ∃ M2, M2 = adds M (rdK x).all := ⟨_, rfl⟩
            rw [← hM2] at HC g1
            have HG : Hid (adds M2 (rdK rr).all = adds (adds T1 NS) (rdK kk).all ∧ M2.length + rr.size + ak.size ≤ 16777216 ∧ rr.size ≤ kk.size) := by
              refine ⟨g1, ?_, by omega⟩
              have h1 := adds_len (rdK x).all M
              have h2 := allK_le x
              rw [← hM2] at h1
              omega
            have HR1 := hide hR1
            have HVG := hide hvg
            obtain ⟨xk, xnm, xmn, xla, xln, xlc, xlk, xna, xnn, xnc, xnk, xka, xkn, xkc, xkk, xaa, xan, xac, xak, rfl, -⟩ := core_open hx
            simp only [Fo.vals] at HC hc
            have p0 : wr.cell? ⟨b, o + i * 7, none⟩ = some (.int .i64 xk) := hc 0 _ rfl
            have p1 : wr.cell? ⟨b, o + i * 7 + 1, none⟩ = some (.string xnm) := hc 1 _ rfl
            have p2 : wr.cell? ⟨b, o + i * 7 + 2, none⟩ = some (.bool xmn) := hc 2 _ rfl
            have p3 : wr.cell? ⟨b, o + i * 7 + 3, none⟩ = some (.slice xla xln xlc) := hc 3 _ rfl
            have p4 : wr.cell? ⟨b, o + i * 7 + 4, none⟩ = some (.slice xna xnn xnc) := hc 4 _ rfl
            have p5 : wr.cell? ⟨b, o + i * 7 + 5, none⟩ = some (.slice xka xkn xkc) := hc 5 _ rfl
            have p6 : wr.cell? ⟨b, o + i * 7 + 6, none⟩ = some (.slice xaa xan xac) := hc 6 _ rfl
            clear hc hxs hx g1 g3 g4 hinv hRd hR1 hvg hM2
            go_wp2_with fail
            refine HC.out.mono ?_
            clear HC
            rintro e w1 ⟨a1, c1, rfl, ho1, hk1, hg1⟩
            have HF1 := hide (hFI.out.call ho1 hk1 hg1)
            have HRn := hide (HR1.out.kept hk1 (by have := HNZ.out; have := hFI.out.kp.size; omega) (fun c' hc' e => by have := HVG.out c' e; omega))
            obtain ⟨n2, hn2⟩ : ∃ n2, n2 = M2.length := ⟨_, rfl⟩
            rw [← hn2] at HF1
            rw [← hn2]
            have HN2 := hide hn2
            clear ho1 hk1 hg1 hn2 HVG p0 p1 p2 p3 p4 p5 p6
            go_wp2_with fail
            go_roundw
            case rel => exact ⟨i + 1, rr, M2, _, _, _, rfl, by go_num, by omega, HN2, HG, HRn, HF1⟩
            case measure => simp [intOf]; omega
          · have hji : ¬ (i : Int) < kn := by omega
            obtain ⟨rfl, -⟩ := hRd.out.done hi
            have HG : Hid (M = adds (adds T1 NS) (rdK kk).all ∧ M.length + ak.size ≤ 16777216) := by
              obtain ⟨g3, g4, g5⟩ := hinv.out
              rw [rdK_nil] at g3
              simp only [Fo.size] at g4
              exact ⟨g3, by omega⟩
            have HRA2 := hide (hFI.out.rd HRA.out HNZ.out HV.out)
            clear hinv hRd
            go_upto_region 12 with fail
            go_loopw [1, 7] (fun s1 s7 wr => ∃ (i : Nat) (r : Fo) (M : List ByteArray) (a : Option Addr) (n c : Nat), s1 = .slice a n c ∧ s7 = .int .i64 i ∧ i ≤ an ∧ Hid (n = M.length) ∧ Hid (adds M (rdA r).all = adds (adds (adds T1 NS) (rdK kk).all) (rdA ak).all ∧ M.length + r.size ≤ 16777216 ∧ r.size ≤ ak.size) ∧ Hid (Rd E (E 2) an nb aa i r wr) ∧ Hid (FI V1 wr (.slice oa on oc) (.slice a n c) M)) (fun _ s7 _ => an - (intOf s7).toNat)
            case atStart => exact ⟨0, ak, M, _, _, _, rfl, rfl, Nat.zero_le _, hlen, ⟨by rw [HG.out.1], by have := HG.out.2; omega, Nat.le_refl _⟩, HRA2, hFI⟩
            case round =>
              clear HG hFI hlen HRA2
              obtain ⟨i, r, M, a, n, c, rfl, rfl, hin, hlen, hinv, hRd, hFI⟩ := hrel
              have c6 := (HQK.out wr hFI.out.kp).cel 6 _ rfl
              by_cases hi : i < an
              · obtain ⟨x, rr, b, o, rfl, hx, rfl, hb, hc, hxs, hR1⟩ := hRd.out.next hi (by decide)
                obtain ⟨con, ca, cn, cc, ck, y, rfl, hcon, hck, hy, hal⟩ := allA_app hx rr
                obtain ⟨g1, g3, g4⟩ := hinv.out
                rw [hal, adds_append, adds_append] at g1
                rw [Fo.app_size] at g3 g4
                simp only [Fo.size] at g3 g4
                have hii : (i : Int) < an := by omega
                obtain ⟨hxs1, hxs2⟩ := hxs
                obtain ⟨sc, ecn⟩ := sr_of hck hxs1
                have hcl : (rdS ck).length ≤ ck.size := rdS_le ck
                obtain ⟨CS, hCS⟩ : ∃ X, rdS ck = X := ⟨_, rfl⟩
                rw [hCS] at sc ecn hcl g1
                have hcx : cn ≤ 9223372036854775807 := sub_facts hxs1
                obtain ⟨Ty, hTy⟩ : ∃ T, adds M CS = T := ⟨_, rfl⟩
                have HG0 : Hid (adds M (CS.drop 0) = Ty ∧ M.length + (CS.length - 0) + y.size + rr.size ≤ 16777216) := ⟨by rw [List.drop_zero]; exact hTy, by omega⟩
                rw [hTy] at g1
                have HG1 : Hid (adds (adds Ty (rdK y).all) (rdA rr).all = adds (adds (adds T1 NS) (rdK kk).all) (rdA ak).all ∧ y.size ≤ m ∧ rr.size ≤ ak.size) := ⟨g1, by have := HM.out; omega, by omega⟩
                have hvg : ∀ g, (Value.slice a n c).ownBlock = some g → nb ≤ g := fun g hg => by
                  rcases hFI.out.at_ g hg with e | e
                  · exact HV.out g e
                  · have := HNZ.out; omega
                have hzw := hFI.out.kp.size
                obtain ⟨U, hU⟩ : ∃ U, U = wr := ⟨_, rfl⟩
                have HFU : Hid (FI U U (.slice a n c) (.slice a n c) M) := by rw [hU]; exact FI.start hFI.out.own
                have HUZ : Hid (nb ≤ U.heap.size) := by unfold Hid; rw [hU]; have := HNZ.out; omega
                have HUV := hide hvg
                have HSC : Hid (SR U (fun c => c < nb) ca cc CS) := by rw [hU]; exact sc
                have HEC := hide ecn
                have HR1 : Hid (Rd E (E 2) an nb (some ⟨b, o, none⟩) (i + 1) rr U) := by rw [hU]; exact hR1
                have HUF : Hid (FI V1 U (.slice oa on oc) (.slice a n c) M) := by rw [hU]; exact hFI.out
                have HYS : Hid (y.Subs U (fun c => c < nb)) := by rw [hU]; exact hxs2
                have HYF := hide hy
                have HYC : Hid (∀ V, Kept (fun d => d < U.heap.size ∧ (Value.slice a n c).ownBlock ≠ some d) U V → V.cell? ⟨W.heap.size, 6, none⟩ = some (.slice (some ⟨b, o, none⟩) an ac) ∧ Cel V (Value.string con :: Value.slice ca cn cc :: y.vals) b (o + i * 9)) := fun V kV => by
                  have hb1 : b < nb := hb
                  have hz1 := HUZ.out
                  refine ⟨?_, ?_⟩
                  · have h6 := (HQK.out V (HUF.out.kp.trans2 kV (fun c' hc' hs' => ⟨by have := HUF.out.kp.size; omega, fun e => by
                      rcases HUF.out.at_ c' e with e2 | e2
                      · exact hs'.2 e2
                      · omega⟩))).cel 6 _ rfl
                    exact h6
                  · have hc2 : Cel U (Fo.v (.string con) (.s ca cn cc ck y)).vals b (o + i * (E 2).length) := by rw [hU]; exact hc
                    exact hc2.kept kV (by omega) ⟨by omega, fun e => by have := HUV.out _ e; omega⟩
                clear g1 g3 g4 hinv hRd hR1 hvg hTy sc ecn hcl hCS hxs1 hxs2 hc hal hx hck hy hb hzw hcon
                go_upto_region 15 with fail
                rw [← hU]
                rw [← hU] at c6
                clear hU
                go_loopw [1, 8] (fun s1 s8 wr => ∃ (j : Nat) (M2 : List ByteArray) (a2 : Option Addr) (n2 c2 : Nat), s1 = .slice a2 n2 c2 ∧ s8 = .int .i64 j ∧ j ≤ cn ∧ Hid (n2 = M2.length) ∧ Hid (adds M2 (CS.drop j) = Ty ∧ M2.length + (CS.length - j) + y.size + rr.size ≤ 16777216) ∧ Hid (FI U wr (.slice a n c) (.slice a2 n2 c2) M2)) (fun _ s8 _ => cn - (intOf s8).toNat)
                case atStart => exact ⟨0, M, _, _, _, rfl, rfl, Nat.zero_le _, hlen, HG0, HFU⟩
                case round =>
                  obtain ⟨j, M2, a2, n2, c2, rfl, rfl, hjn, hlen2, hinv, hFJ⟩ := hrel
                  obtain ⟨d6, dc⟩ := HYC.out wr hFJ.out.kp
                  have d1 : wr.cell? ⟨b, o + i * 9 + 1, none⟩ = some (.slice ca cn cc) := dc 1 _ rfl
                  by_cases hj : j < cn
                  · obtain ⟨b2, o2, x2, rfl, hdr, hcx2⟩ := hFJ.out.name HSC.out HUZ.out HUV.out (i := j) (by rw [HEC.out]; exact hj)
                    obtain ⟨g3, g4⟩ := hinv.out
                    have hjj : (j : Int) < cn := by omega
                    have ecn := HEC.out
                    rw [hdr, adds_cons] at g3
                    have HC := hide (m_add (.slice a2 n2 c2) M2 x2 wr hFJ.out.own (by omega))
                    obtain ⟨M3, hM3⟩ : ∃ M3, adds M2 [x2] = M3 := ⟨_, rfl⟩
                    rw [hM3] at g3 HC
                    have HG : Hid (adds M3 (CS.drop (j + 1)) = Ty ∧ M3.length + (CS.length - (j + 1)) + y.size + rr.size ≤ 16777216) := ⟨g3, by have := adds1_len M2 x2; rw [hM3] at this; omega⟩
                    clear g3 g4 hinv hdr ecn hM3 dc
                    go_wp2_with (go_at_call 54; refine HC.out.mono ?_; rintro e w2 ⟨a3, c3, rfl, ho2, hk2', hg2⟩; have HF2 := hide (hFJ.out.call ho2 hk2' hg2); clear ho2 hk2' hg2)
                    go_roundw
                    case rel => exact ⟨j + 1, M3, _, _, _, rfl, by go_num, by omega, rfl, HG, HF2⟩
                    case measure => simp [intOf]; omega
                  · have hjj : ¬ (j : Int) < cn := by omega
                    obtain ⟨g3, g4⟩ := hinv.out
                    rw [List.drop_eq_nil_of_le (by rw [HEC.out]; omega)] at g3
                    have e3 : M2 = Ty := g3
                    subst e3
                    have hvg : ∀ g, (Value.slice a2 n2 c2).ownBlock = some g → nb ≤ g := fun g hg => by
                      rcases hFJ.out.at_ g hg with e | e
                      · exact HUV.out g e
                      · have := HUZ.out; omega
                    have HC := hide (ih y wr (.slice a2 n2 c2) M2 HG1.out.2.1 HYF.out (HYS.out.kept hFJ.out.kp (fun c hc => ⟨⟨by have := HUZ.out; have : c < nb := hc; omega, fun e => by have := HUV.out _ e; have : c < nb := hc; omega⟩, by have := HUZ.out; have : c < nb := hc; omega⟩)) (by have := HUZ.out; have := hFJ.out.kp.size; omega) hvg hFJ.out.own (by omega))
                    obtain ⟨M3, hM3⟩ : ∃ M3, M3 = adds M2 (rdK y).all := ⟨_, rfl⟩
                    rw [← hM3] at HC
                    have HG : Hid (adds M3 (rdA rr).all = adds (adds (adds T1 NS) (rdK kk).all) (rdA ak).all ∧ M3.length + rr.size ≤ 16777216 ∧ rr.size ≤ ak.size) := by
                      obtain ⟨h1, h2, h3⟩ := HG1.out
                      rw [← hM3] at h1
                      refine ⟨h1, ?_, h3⟩
                      have h4 := adds_len (rdK y).all M2
                      have h5 := allK_le y
                      rw [← hM3] at h4
                      omega
                    have HVG := hide hvg
                    have HRR := hide (hFJ.out.rd HR1.out HUZ.out HUV.out)
                    have HFV : Hid (FI V1 wr (.slice oa on oc) (.slice a2 n2 c2) M2) := by
                      have hz := HUF.out.kp.size
                      refine ⟨hFJ.out.own, fun g hg => ?_, HUF.out.kp.trans2 hFJ.out.kp (fun c' hc' hs' => ⟨by omega, fun e => ?_⟩)⟩
                      · rcases hFJ.out.at_ g hg with e | e
                        · exact HUF.out.at_ g e
                        · exact .inr (by omega)
                      · rcases HUF.out.at_ c' e with e2 | e2
                        · exact hs'.2 e2
                        · omega
                    obtain ⟨xk, xnm, xmn, xla, xln, xlc, xlk, xna, xnn, xnc, xnk, xka, xkn, xkc, xkk, xaa, xan, xac, xak, rfl, -⟩ := core_open HYF.out
                    simp only [Fo.vals] at HC dc
                    have p0 : wr.cell? ⟨b, o + i * 9 + 2, none⟩ = some (.int .i64 xk) := dc 2 _ rfl
                    have p1 : wr.cell? ⟨b, o + i * 9 + 2 + 1, none⟩ = some (.string xnm) := dc 3 _ rfl
                    have p2 : wr.cell? ⟨b, o + i * 9 + 2 + 2, none⟩ = some (.bool xmn) := dc 4 _ rfl
                    have p3 : wr.cell? ⟨b, o + i * 9 + 2 + 3, none⟩ = some (.slice xla xln xlc) := dc 5 _ rfl
                    have p4 : wr.cell? ⟨b, o + i * 9 + 2 + 4, none⟩ = some (.slice xna xnn xnc) := dc 6 _ rfl
                    have p5 : wr.cell? ⟨b, o + i * 9 + 2 + 5, none⟩ = some (.slice xka xkn xkc) := dc 7 _ rfl
                    have p6 : wr.cell? ⟨b, o + i * 9 + 2 + 6, none⟩ = some (.slice xaa xan xac) := dc 8 _ rfl
                    clear dc hinv g3 g4 hvg hM3 HYC HYS HYF HUF HR1 HSC HG0 HFU HG1 HEC
                    go_wp2_with fail
                    refine HC.out.mono ?_
                    clear HC
                    rintro e w1 ⟨a1, c1, rfl, ho1, hk1, hg1⟩
                    have HF1 := hide (HFV.out.call ho1 hk1 hg1)
                    have HRn := hide (HRR.out.kept hk1 (by have := HUZ.out; have := hFJ.out.kp.size; omega) (fun c' hc' e => by have := HVG.out c' e; omega))
                    obtain ⟨n3, hn3⟩ : ∃ n3, n3 = M3.length := ⟨_, rfl⟩
                    rw [← hn3] at HF1
                    rw [← hn3]
                    have HN3 := hide hn3
                    clear ho1 hk1 hg1 hn3 HVG p0 p1 p2 p3 p4 p5 p6
                    go_wp2_with fail
                    go_roundw
                    case rel => exact ⟨i + 1, rr, M3, _, _, _, rfl, by go_num, by omega, HN3, HG, HRn, HF1⟩
                    case measure => simp [intOf]; omega
              · have hji : ¬ (i : Int) < an := by omega
                obtain ⟨rfl, -⟩ := hRd.out.done hi
                have HG : Hid (M = adds (adds (adds T1 NS) (rdK kk).all) (rdA ak).all) := by
                  obtain ⟨g3, g4, g5⟩ := hinv.out
                  rw [rdA_nil] at g3
                  exact g3
                clear hinv hRd
                go_wp2_with fail
                go_ret
                exact HEND.out wr a n c M hFI.out hlen.out HG.out
  · have HT : Hid (T1 = adds L [nm]) := by unfold Hid; rw [← hT1, HO1.out.2.1 hn1 (.inl hk1)]
    have g1 := ne_text hn1
    clear hT1 HO1 hn1
    subst hk1
    go_enter Try.func42, Try.ntmps42
    go_upto_region 1 with fail
    rw [HV1.out]
    clear HV1
    go_upto_region 3 with (go_at_call 54; refine HAD.out.mono ?_; rintro e w1 ⟨a1, n1, rfl, ho1, hk1, hg1⟩; have HF1 := hide (HFI.out.call ho1 hk1 hg1); clear ho1 hk1 hg1)
    clear c0 c1
    go_upto_region 4 with fail
    go_loopw [1, 5] (fun s1 s5 wr => ∃ (i : Nat) (M : List ByteArray) (a : Option Addr) (n c : Nat), s1 = .slice a n c ∧ s5 = .int .i64 i ∧ i ≤ nn ∧ Hid (n = M.length) ∧ Hid (adds M (NS.drop i) = adds T1 NS ∧ M.length + (NS.length - i) + kk.size + ak.size ≤ 16777216) ∧ Hid (FI V1 wr (.slice oa on oc) (.slice a n c) M)) (fun _ s5 _ => nn - (intOf s5).toNat)
    case atStart => exact ⟨0, adds L [nm], _, _, _, rfl, rfl, Nat.zero_le _, rfl, ⟨by rw [List.drop_zero, HT.out], by have := HSZ.out; have := adds1_len L nm; omega⟩, HF1⟩
    case round =>
      obtain ⟨i, M, a, n, c, rfl, rfl, hin, hlen, hinv, hFI⟩ := hrel
      have c4 := (HQK.out wr hFI.out.kp).cel 4 _ rfl
      by_cases hi : i < nn
      · obtain ⟨b, o, x, rfl, hdr, hcx⟩ := hFI.out.name HSN.out HNZ.out HV.out (i := i) (by rw [HEL.out]; exact hi)
        obtain ⟨g3, g4⟩ := hinv.out
        have hii : (i : Int) < nn := by omega
        have eln := HEL.out
        rw [hdr, adds_cons] at g3
        have HC := hide (m_add (.slice a n c) M x wr hFI.out.own (by omega))
        obtain ⟨M2, hM2⟩ : ∃ M2, adds M [x] = M2 := ⟨_, rfl⟩
        rw [hM2] at g3 HC
        have HG : Hid (adds M2 (NS.drop (i + 1)) = adds T1 NS ∧ M2.length + (NS.length - (i + 1)) + kk.size + ak.size ≤ 16777216) := ⟨g3, by have := adds1_len M x; rw [hM2] at this; omega⟩
        clear g3 g4 hinv hdr eln hM2
        go_wp2_with (go_at_call 54; refine HC.out.mono ?_; rintro e w2 ⟨a2, c2, rfl, ho2, hk2', hg2⟩; have HF2 := hide (hFI.out.call ho2 hk2' hg2); clear ho2 hk2' hg2)
        go_roundw
        case rel => exact ⟨i + 1, M2, _, _, _, rfl, by go_num, by omega, rfl, HG, HF2⟩
        case measure => simp [intOf]; omega
      · have hji : ¬ (i : Int) < nn := by omega
        have HG : Hid (M = adds T1 NS ∧ M.length + kk.size + ak.size ≤ 16777216) := by
          obtain ⟨g3, g4⟩ := hinv.out
          rw [List.drop_eq_nil_of_le (by rw [HEL.out]; omega)] at g3
          exact ⟨g3, by omega⟩
        have HRK2 := hide (hFI.out.rd HRK.out HNZ.out HV.out)
        clear hinv
        go_upto_region 8 with fail
        go_loopw [1, 6] (fun s1 s6 wr => ∃ (i : Nat) (r : Fo) (M : List ByteArray) (a : Option Addr) (n c : Nat), s1 = .slice a n c ∧ s6 = .int .i64 i ∧ i ≤ kn ∧ Hid (n = M.length) ∧ Hid (adds M (rdK r).all = adds (adds T1 NS) (rdK kk).all ∧ M.length + r.size + ak.size ≤ 16777216 ∧ r.size ≤ kk.size) ∧ Hid (Rd E (E 3) kn nb ka i r wr) ∧ Hid (FI V1 wr (.slice oa on oc) (.slice a n c) M)) (fun _ s6 _ => kn - (intOf s6).toNat)
        case atStart => exact ⟨0, kk, M, _, _, _, rfl, rfl, Nat.zero_le _, hlen, ⟨by rw [HG.out.1], by have := HG.out.2; omega, Nat.le_refl _⟩, HRK2, hFI⟩
        case round =>
          clear HG hFI hlen HRK2
          obtain ⟨i, r, M, a, n, c, rfl, rfl, hin, hlen, hinv, hRd, hFI⟩ := hrel
          have c5 := (HQK.out wr hFI.out.kp).cel 5 _ rfl
          by_cases hi : i < kn
          · obtain ⟨x, rr, b, o, rfl, hx, rfl, hb, hc, hxs, hR1⟩ := hRd.out.next hi (by decide)
            obtain ⟨g1, g3, g4⟩ := hinv.out
            rw [allK_app hx, adds_append] at g1
            rw [Fo.app_size] at g3 g4
            have hii : (i : Int) < kn := by omega
            have hvg : ∀ g, (Value.slice a n c).ownBlock = some g → nb ≤ g := fun g hg => by
              rcases hFI.out.at_ g hg with e | e
              · exact HV.out g e
              · have := HNZ.out; omega
            have HC := hide (ih x wr (.slice a n c) M (by have := HM.out; omega) hx hxs (by have := HNZ.out; have := hFI.out.kp.size; omega) hvg hFI.out.own (by omega))
            obtain ⟨M2, hM2⟩ : ∃ M2, M2 = adds M (rdK x).all := ⟨_, rfl⟩
            rw [← hM2] at HC g1
            have HG : Hid (adds M2 (rdK rr).all = adds (adds T1 NS) (rdK kk).all ∧ M2.length + rr.size + ak.size ≤ 16777216 ∧ rr.size ≤ kk.size) := by
              refine ⟨g1, ?_, by omega⟩
              have h1 := adds_len (rdK x).all M
              have h2 := allK_le x
              rw [← hM2] at h1
              omega
            have HR1 := hide hR1
            have HVG := hide hvg
            obtain ⟨xk, xnm, xmn, xla, xln, xlc, xlk, xna, xnn, xnc, xnk, xka, xkn, xkc, xkk, xaa, xan, xac, xak, rfl, -⟩ := core_open hx
            simp only [Fo.vals] at HC hc
            have p0 : wr.cell? ⟨b, o + i * 7, none⟩ = some (.int .i64 xk) := hc 0 _ rfl
            have p1 : wr.cell? ⟨b, o + i * 7 + 1, none⟩ = some (.string xnm) := hc 1 _ rfl
            have p2 : wr.cell? ⟨b, o + i * 7 + 2, none⟩ = some (.bool xmn) := hc 2 _ rfl
            have p3 : wr.cell? ⟨b, o + i * 7 + 3, none⟩ = some (.slice xla xln xlc) := hc 3 _ rfl
            have p4 : wr.cell? ⟨b, o + i * 7 + 4, none⟩ = some (.slice xna xnn xnc) := hc 4 _ rfl
            have p5 : wr.cell? ⟨b, o + i * 7 + 5, none⟩ = some (.slice xka xkn xkc) := hc 5 _ rfl
            have p6 : wr.cell? ⟨b, o + i * 7 + 6, none⟩ = some (.slice xaa xan xac) := hc 6 _ rfl
            clear hc hxs hx g1 g3 g4 hinv hRd hR1 hvg hM2
            go_wp2_with fail
            refine HC.out.mono ?_
            clear HC
            rintro e w1 ⟨a1, c1, rfl, ho1, hk1, hg1⟩
            have HF1 := hide (hFI.out.call ho1 hk1 hg1)
            have HRn := hide (HR1.out.kept hk1 (by have := HNZ.out; have := hFI.out.kp.size; omega) (fun c' hc' e => by have := HVG.out c' e; omega))
            obtain ⟨n2, hn2⟩ : ∃ n2, n2 = M2.length := ⟨_, rfl⟩
            rw [← hn2] at HF1
            rw [← hn2]
            have HN2 := hide hn2
            clear ho1 hk1 hg1 hn2 HVG p0 p1 p2 p3 p4 p5 p6
            go_wp2_with fail
            go_roundw
            case rel => exact ⟨i + 1, rr, M2, _, _, _, rfl, by go_num, by omega, HN2, HG, HRn, HF1⟩
            case measure => simp [intOf]; omega
          · have hji : ¬ (i : Int) < kn := by omega
            obtain ⟨rfl, -⟩ := hRd.out.done hi
            have HG : Hid (M = adds (adds T1 NS) (rdK kk).all ∧ M.length + ak.size ≤ 16777216) := by
              obtain ⟨g3, g4, g5⟩ := hinv.out
              rw [rdK_nil] at g3
              simp only [Fo.size] at g4
              exact ⟨g3, by omega⟩
            have HRA2 := hide (hFI.out.rd HRA.out HNZ.out HV.out)
            clear hinv hRd
            go_upto_region 12 with fail
            go_loopw [1, 7] (fun s1 s7 wr => ∃ (i : Nat) (r : Fo) (M : List ByteArray) (a : Option Addr) (n c : Nat), s1 = .slice a n c ∧ s7 = .int .i64 i ∧ i ≤ an ∧ Hid (n = M.length) ∧ Hid (adds M (rdA r).all = adds (adds (adds T1 NS) (rdK kk).all) (rdA ak).all ∧ M.length + r.size ≤ 16777216 ∧ r.size ≤ ak.size) ∧ Hid (Rd E (E 2) an nb aa i r wr) ∧ Hid (FI V1 wr (.slice oa on oc) (.slice a n c) M)) (fun _ s7 _ => an - (intOf s7).toNat)
            case atStart => exact ⟨0, ak, M, _, _, _, rfl, rfl, Nat.zero_le _, hlen, ⟨by rw [HG.out.1], by have := HG.out.2; omega, Nat.le_refl _⟩, HRA2, hFI⟩
            case round =>
              clear HG hFI hlen HRA2
              obtain ⟨i, r, M, a, n, c, rfl, rfl, hin, hlen, hinv, hRd, hFI⟩ := hrel
              have c6 := (HQK.out wr hFI.out.kp).cel 6 _ rfl
              by_cases hi : i < an
              · obtain ⟨x, rr, b, o, rfl, hx, rfl, hb, hc, hxs, hR1⟩ := hRd.out.next hi (by decide)
                obtain ⟨con, ca, cn, cc, ck, y, rfl, hcon, hck, hy, hal⟩ := allA_app hx rr
                obtain ⟨g1, g3, g4⟩ := hinv.out
                rw [hal, adds_append, adds_append] at g1
                rw [Fo.app_size] at g3 g4
                simp only [Fo.size] at g3 g4
                have hii : (i : Int) < an := by omega
                obtain ⟨hxs1, hxs2⟩ := hxs
                obtain ⟨sc, ecn⟩ := sr_of hck hxs1
                have hcl : (rdS ck).length ≤ ck.size := rdS_le ck
                obtain ⟨CS, hCS⟩ : ∃ X, rdS ck = X := ⟨_, rfl⟩
                rw [hCS] at sc ecn hcl g1
                have hcx : cn ≤ 9223372036854775807 := sub_facts hxs1
                obtain ⟨Ty, hTy⟩ : ∃ T, adds M CS = T := ⟨_, rfl⟩
                have HG0 : Hid (adds M (CS.drop 0) = Ty ∧ M.length + (CS.length - 0) + y.size + rr.size ≤ 16777216) := ⟨by rw [List.drop_zero]; exact hTy, by omega⟩
                rw [hTy] at g1
                have HG1 : Hid (adds (adds Ty (rdK y).all) (rdA rr).all = adds (adds (adds T1 NS) (rdK kk).all) (rdA ak).all ∧ y.size ≤ m ∧ rr.size ≤ ak.size) := ⟨g1, by have := HM.out; omega, by omega⟩
                have hvg : ∀ g, (Value.slice a n c).ownBlock = some g → nb ≤ g := fun g hg => by
                  rcases hFI.out.at_ g hg with e | e
                  · exact HV.out g e
                  · have := HNZ.out; omega
                have hzw := hFI.out.kp.size
                obtain ⟨U, hU⟩ : ∃ U, U = wr := ⟨_, rfl⟩
                have HFU : Hid (FI U U (.slice a n c) (.slice a n c) M) := by rw [hU]; exact FI.start hFI.out.own
                have HUZ : Hid (nb ≤ U.heap.size) := by unfold Hid; rw [hU]; have := HNZ.out; omega
                have HUV := hide hvg
                have HSC : Hid (SR U (fun c => c < nb) ca cc CS) := by rw [hU]; exact sc
                have HEC := hide ecn
                have HR1 : Hid (Rd E (E 2) an nb (some ⟨b, o, none⟩) (i + 1) rr U) := by rw [hU]; exact hR1
                have HUF : Hid (FI V1 U (.slice oa on oc) (.slice a n c) M) := by rw [hU]; exact hFI.out
                have HYS : Hid (y.Subs U (fun c => c < nb)) := by rw [hU]; exact hxs2
                have HYF := hide hy
                have HYC : Hid (∀ V, Kept (fun d => d < U.heap.size ∧ (Value.slice a n c).ownBlock ≠ some d) U V → V.cell? ⟨W.heap.size, 6, none⟩ = some (.slice (some ⟨b, o, none⟩) an ac) ∧ Cel V (Value.string con :: Value.slice ca cn cc :: y.vals) b (o + i * 9)) := fun V kV => by
                  have hb1 : b < nb := hb
                  have hz1 := HUZ.out
                  refine ⟨?_, ?_⟩
                  · have h6 := (HQK.out V (HUF.out.kp.trans2 kV (fun c' hc' hs' => ⟨by have := HUF.out.kp.size; omega, fun e => by
                      rcases HUF.out.at_ c' e with e2 | e2
                      · exact hs'.2 e2
                      · omega⟩))).cel 6 _ rfl
                    exact h6
                  · have hc2 : Cel U (Fo.v (.string con) (.s ca cn cc ck y)).vals b (o + i * (E 2).length) := by rw [hU]; exact hc
                    exact hc2.kept kV (by omega) ⟨by omega, fun e => by have := HUV.out _ e; omega⟩
                clear g1 g3 g4 hinv hRd hR1 hvg hTy sc ecn hcl hCS hxs1 hxs2 hc hal hx hck hy hb hzw hcon
                go_upto_region 15 with fail
                rw [← hU]
                rw [← hU] at c6
                clear hU
                go_loopw [1, 8] (fun s1 s8 wr => ∃ (j : Nat) (M2 : List ByteArray) (a2 : Option Addr) (n2 c2 : Nat), s1 = .slice a2 n2 c2 ∧ s8 = .int .i64 j ∧ j ≤ cn ∧ Hid (n2 = M2.length) ∧ Hid (adds M2 (CS.drop j) = Ty ∧ M2.length + (CS.length - j) + y.size + rr.size ≤ 16777216) ∧ Hid (FI U wr (.slice a n c) (.slice a2 n2 c2) M2)) (fun _ s8 _ => cn - (intOf s8).toNat)
                case atStart => exact ⟨0, M, _, _, _, rfl, rfl, Nat.zero_le _, hlen, HG0, HFU⟩
                case round =>
                  obtain ⟨j, M2, a2, n2, c2, rfl, rfl, hjn, hlen2, hinv, hFJ⟩ := hrel
                  obtain ⟨d6, dc⟩ := HYC.out wr hFJ.out.kp
                  have d1 : wr.cell? ⟨b, o + i * 9 + 1, none⟩ = some (.slice ca cn cc) := dc 1 _ rfl
                  by_cases hj : j < cn
                  · obtain ⟨b2, o2, x2, rfl, hdr, hcx2⟩ := hFJ.out.name HSC.out HUZ.out HUV.out (i := j) (by rw [HEC.out]; exact hj)
                    obtain ⟨g3, g4⟩ := hinv.out
                    have hjj : (j : Int) < cn := by omega
                    have ecn := HEC.out
                    rw [hdr, adds_cons] at g3
                    have HC := hide (m_add (.slice a2 n2 c2) M2 x2 wr hFJ.out.own (by omega))
                    obtain ⟨M3, hM3⟩ : ∃ M3, adds M2 [x2] = M3 := ⟨_, rfl⟩
                    rw [hM3] at g3 HC
                    have HG : Hid (adds M3 (CS.drop (j + 1)) = Ty ∧ M3.length + (CS.length - (j + 1)) + y.size + rr.size ≤ 16777216) := ⟨g3, by have := adds1_len M2 x2; rw [hM3] at this; omega⟩
                    clear g3 g4 hinv hdr ecn hM3 dc
                    go_wp2_with (go_at_call 54; refine HC.out.mono ?_; rintro e w2 ⟨a3, c3, rfl, ho2, hk2', hg2⟩; have HF2 := hide (hFJ.out.call ho2 hk2' hg2); clear ho2 hk2' hg2)
                    go_roundw
                    case rel => exact ⟨j + 1, M3, _, _, _, rfl, by go_num, by omega, rfl, HG, HF2⟩
                    case measure => simp [intOf]; omega
                  · have hjj : ¬ (j : Int) < cn := by omega
                    obtain ⟨g3, g4⟩ := hinv.out
                    rw [List.drop_eq_nil_of_le (by rw [HEC.out]; omega)] at g3
                    have e3 : M2 = Ty := g3
                    subst e3
                    have hvg : ∀ g, (Value.slice a2 n2 c2).ownBlock = some g → nb ≤ g := fun g hg => by
                      rcases hFJ.out.at_ g hg with e | e
                      · exact HUV.out g e
                      · have := HUZ.out; omega
                    have HC := hide (ih y wr (.slice a2 n2 c2) M2 HG1.out.2.1 HYF.out (HYS.out.kept hFJ.out.kp (fun c hc => ⟨⟨by have := HUZ.out; have : c < nb := hc; omega, fun e => by have := HUV.out _ e; have : c < nb := hc; omega⟩, by have := HUZ.out; have : c < nb := hc; omega⟩)) (by have := HUZ.out; have := hFJ.out.kp.size; omega) hvg hFJ.out.own (by omega))
                    obtain ⟨M3, hM3⟩ : ∃ M3, M3 = adds M2 (rdK y).all := ⟨_, rfl⟩
                    rw [← hM3] at HC
                    have HG : Hid (adds M3 (rdA rr).all = adds (adds (adds T1 NS) (rdK kk).all) (rdA ak).all ∧ M3.length + rr.size ≤ 16777216 ∧ rr.size ≤ ak.size) := by
                      obtain ⟨h1, h2, h3⟩ := HG1.out
                      rw [← hM3] at h1
                      refine ⟨h1, ?_, h3⟩
                      have h4 := adds_len (rdK y).all M2
                      have h5 := allK_le y
                      rw [← hM3] at h4
                      omega
                    have HVG := hide hvg
                    have HRR := hide (hFJ.out.rd HR1.out HUZ.out HUV.out)
                    have HFV : Hid (FI V1 wr (.slice oa on oc) (.slice a2 n2 c2) M2) := by
                      have hz := HUF.out.kp.size
                      refine ⟨hFJ.out.own, fun g hg => ?_, HUF.out.kp.trans2 hFJ.out.kp (fun c' hc' hs' => ⟨by omega, fun e => ?_⟩)⟩
                      · rcases hFJ.out.at_ g hg with e | e
                        · exact HUF.out.at_ g e
                        · exact .inr (by omega)
                      · rcases HUF.out.at_ c' e with e2 | e2
                        · exact hs'.2 e2
                        · omega
                    obtain ⟨xk, xnm, xmn, xla, xln, xlc, xlk, xna, xnn, xnc, xnk, xka, xkn, xkc, xkk, xaa, xan, xac, xak, rfl, -⟩ := core_open HYF.out
                    simp only [Fo.vals] at HC dc
                    have p0 : wr.cell? ⟨b, o + i * 9 + 2, none⟩ = some (.int .i64 xk) := dc 2 _ rfl
                    have p1 : wr.cell? ⟨b, o + i * 9 + 2 + 1, none⟩ = some (.string xnm) := dc 3 _ rfl
                    have p2 : wr.cell? ⟨b, o + i * 9 + 2 + 2, none⟩ = some (.bool xmn) := dc 4 _ rfl
                    have p3 : wr.cell? ⟨b, o + i * 9 + 2 + 3, none⟩ = some (.slice xla xln xlc) := dc 5 _ rfl
                    have p4 : wr.cell? ⟨b, o + i * 9 + 2 + 4, none⟩ = some (.slice xna xnn xnc) := dc 6 _ rfl
                    have p5 : wr.cell? ⟨b, o + i * 9 + 2 + 5, none⟩ = some (.slice xka xkn xkc) := dc 7 _ rfl
                    have p6 : wr.cell? ⟨b, o + i * 9 + 2 + 6, none⟩ = some (.slice xaa xan xac) := dc 8 _ rfl
                    clear dc hinv g3 g4 hvg hM3 HYC HYS HYF HUF HR1 HSC HG0 HFU HG1 HEC
                    go_wp2_with fail
                    refine HC.out.mono ?_
                    clear HC
                    rintro e w1 ⟨a1, c1, rfl, ho1, hk1, hg1⟩
                    have HF1 := hide (HFV.out.call ho1 hk1 hg1)
                    have HRn := hide (HRR.out.kept hk1 (by have := HUZ.out; have := hFJ.out.kp.size; omega) (fun c' hc' e => by have := HVG.out c' e; omega))
                    obtain ⟨n3, hn3⟩ : ∃ n3, n3 = M3.length := ⟨_, rfl⟩
                    rw [← hn3] at HF1
                    rw [← hn3]
                    have HN3 := hide hn3
                    clear ho1 hk1 hg1 hn3 HVG p0 p1 p2 p3 p4 p5 p6
                    go_wp2_with fail
                    go_roundw
                    case rel => exact ⟨i + 1, rr, M3, _, _, _, rfl, by go_num, by omega, HN3, HG, HRn, HF1⟩
                    case measure => simp [intOf]; omega
              · have hji : ¬ (i : Int) < an := by omega
                obtain ⟨rfl, -⟩ := hRd.out.done hi
                have HG : Hid (M = adds (adds (adds T1 NS) (rdK kk).all) (rdA ak).all) := by
                  obtain ⟨g3, g4, g5⟩ := hinv.out
                  rw [rdA_nil] at g3
                  exact g3
                clear hinv hRd
                go_wp2_with fail
                go_ret
                exact HEND.out wr a n c M hFI.out hlen.out HG.out
  · have HT : Hid (T1 = adds L [nm]) := by unfold Hid; rw [← hT1, HO1.out.2.1 hn1 (.inr hk1)]
    have g1 := ne_text hn1
    clear hT1 HO1 hn1
    subst hk1
    go_enter Try.func42, Try.ntmps42
    go_upto_region 1 with fail
    rw [HV1.out]
    clear HV1
    go_upto_region 3 with (go_at_call 54; refine HAD.out.mono ?_; rintro e w1 ⟨a1, n1, rfl, ho1, hk1, hg1⟩; have HF1 := hide (HFI.out.call ho1 hk1 hg1); clear ho1 hk1 hg1)
    clear c0 c1
    go_upto_region 4 with fail
    go_loopw [1, 5] (fun s1 s5 wr => ∃ (i : Nat) (M : List ByteArray) (a : Option Addr) (n c : Nat), s1 = .slice a n c ∧ s5 = .int .i64 i ∧ i ≤ nn ∧ Hid (n = M.length) ∧ Hid (adds M (NS.drop i) = adds T1 NS ∧ M.length + (NS.length - i) + kk.size + ak.size ≤ 16777216) ∧ Hid (FI V1 wr (.slice oa on oc) (.slice a n c) M)) (fun _ s5 _ => nn - (intOf s5).toNat)
    case atStart => exact ⟨0, adds L [nm], _, _, _, rfl, rfl, Nat.zero_le _, rfl, ⟨by rw [List.drop_zero, HT.out], by have := HSZ.out; have := adds1_len L nm; omega⟩, HF1⟩
    case round =>
      obtain ⟨i, M, a, n, c, rfl, rfl, hin, hlen, hinv, hFI⟩ := hrel
      have c4 := (HQK.out wr hFI.out.kp).cel 4 _ rfl
      by_cases hi : i < nn
      · obtain ⟨b, o, x, rfl, hdr, hcx⟩ := hFI.out.name HSN.out HNZ.out HV.out (i := i) (by rw [HEL.out]; exact hi)
        obtain ⟨g3, g4⟩ := hinv.out
        have hii : (i : Int) < nn := by omega
        have eln := HEL.out
        rw [hdr, adds_cons] at g3
        have HC := hide (m_add (.slice a n c) M x wr hFI.out.own (by omega))
        obtain ⟨M2, hM2⟩ : ∃ M2, adds M [x] = M2 := ⟨_, rfl⟩
        rw [hM2] at g3 HC
        have HG : Hid (adds M2 (NS.drop (i + 1)) = adds T1 NS ∧ M2.length + (NS.length - (i + 1)) + kk.size + ak.size ≤ 16777216) := ⟨g3, by have := adds1_len M x; rw [hM2] at this; omega⟩
        clear g3 g4 hinv hdr eln hM2
        go_wp2_with (go_at_call 54; refine HC.out.mono ?_; rintro e w2 ⟨a2, c2, rfl, ho2, hk2', hg2⟩; have HF2 := hide (hFI.out.call ho2 hk2' hg2); clear ho2 hk2' hg2)
        go_roundw
        case rel => exact ⟨i + 1, M2, _, _, _, rfl, by go_num, by omega, rfl, HG, HF2⟩
        case measure => simp [intOf]; omega
      · have hji : ¬ (i : Int) < nn := by omega
        have HG : Hid (M = adds T1 NS ∧ M.length + kk.size + ak.size ≤ 16777216) := by
          obtain ⟨g3, g4⟩ := hinv.out
          rw [List.drop_eq_nil_of_le (by rw [HEL.out]; omega)] at g3
          exact ⟨g3, by omega⟩
        have HRK2 := hide (hFI.out.rd HRK.out HNZ.out HV.out)
        clear hinv
        go_upto_region 8 with fail
        go_loopw [1, 6] (fun s1 s6 wr => ∃ (i : Nat) (r : Fo) (M : List ByteArray) (a : Option Addr) (n c : Nat), s1 = .slice a n c ∧ s6 = .int .i64 i ∧ i ≤ kn ∧ Hid (n = M.length) ∧ Hid (adds M (rdK r).all = adds (adds T1 NS) (rdK kk).all ∧ M.length + r.size + ak.size ≤ 16777216 ∧ r.size ≤ kk.size) ∧ Hid (Rd E (E 3) kn nb ka i r wr) ∧ Hid (FI V1 wr (.slice oa on oc) (.slice a n c) M)) (fun _ s6 _ => kn - (intOf s6).toNat)
        case atStart => exact ⟨0, kk, M, _, _, _, rfl, rfl, Nat.zero_le _, hlen, ⟨by rw [HG.out.1], by have := HG.out.2; omega, Nat.le_refl _⟩, HRK2, hFI⟩
        case round =>
          clear HG hFI hlen HRK2
          obtain ⟨i, r, M, a, n, c, rfl, rfl, hin, hlen, hinv, hRd, hFI⟩ := hrel
          have c5 := (HQK.out wr hFI.out.kp).cel 5 _ rfl
          by_cases hi : i < kn
          · obtain ⟨x, rr, b, o, rfl, hx, rfl, hb, hc, hxs, hR1⟩ := hRd.out.next hi (by decide)
            obtain ⟨g1, g3, g4⟩ := hinv.out
            rw [allK_app hx, adds_append] at g1
            rw [Fo.app_size] at g3 g4
            have hii : (i : Int) < kn := by omega
            have hvg : ∀ g, (Value.slice a n c).ownBlock = some g → nb ≤ g := fun g hg => by
              rcases hFI.out.at_ g hg with e | e
              · exact HV.out g e
              · have := HNZ.out; omega
            have HC := hide (ih x wr (.slice a n c) M (by have := HM.out; omega) hx hxs (by have := HNZ.out; have := hFI.out.kp.size; omega) hvg hFI.out.own (by omega))
            obtain ⟨M2, hM2⟩ : ∃ M2, M2 = adds M (rdK x).all := ⟨_, rfl⟩
            rw [← hM2] at HC g1
            have HG : Hid (adds M2 (rdK rr).all = adds (adds T1 NS) (rdK kk).all ∧ M2.length + rr.size + ak.size ≤ 16777216 ∧ rr.size ≤ kk.size) := by
              refine ⟨g1, ?_, by omega⟩
              have h1 := adds_len (rdK x).all M
              have h2 := allK_le x
              rw [← hM2] at h1
              omega
            have HR1 := hide hR1
            have HVG := hide hvg
            obtain ⟨xk, xnm, xmn, xla, xln, xlc, xlk, xna, xnn, xnc, xnk, xka, xkn, xkc, xkk, xaa, xan, xac, xak, rfl, -⟩ := core_open hx
            simp only [Fo.vals] at HC hc
            have p0 : wr.cell? ⟨b, o + i * 7, none⟩ = some (.int .i64 xk) := hc 0 _ rfl
            have p1 : wr.cell? ⟨b, o + i * 7 + 1, none⟩ = some (.string xnm) := hc 1 _ rfl
            have p2 : wr.cell? ⟨b, o + i * 7 + 2, none⟩ = some (.bool xmn) := hc 2 _ rfl
            have p3 : wr.cell? ⟨b, o + i * 7 + 3, none⟩ = some (.slice xla xln xlc) := hc 3 _ rfl
            have p4 : wr.cell? ⟨b, o + i * 7 + 4, none⟩ = some (.slice xna xnn xnc) := hc 4 _ rfl
            have p5 : wr.cell? ⟨b, o + i * 7 + 5, none⟩ = some (.slice xka xkn xkc) := hc 5 _ rfl
            have p6 : wr.cell? ⟨b, o + i * 7 + 6, none⟩ = some (.slice xaa xan xac) := hc 6 _ rfl
            clear hc hxs hx g1 g3 g4 hinv hRd hR1 hvg hM2
            go_wp2_with fail
            refine HC.out.mono ?_
            clear HC
            rintro e w1 ⟨a1, c1, rfl, ho1, hk1, hg1⟩
            have HF1 := hide (hFI.out.call ho1 hk1 hg1)
            have HRn := hide (HR1.out.kept hk1 (by have := HNZ.out; have := hFI.out.kp.size; omega) (fun c' hc' e => by have := HVG.out c' e; omega))
            obtain ⟨n2, hn2⟩ : ∃ n2, n2 = M2.length := ⟨_, rfl⟩
            rw [← hn2] at HF1
            rw [← hn2]
            have HN2 := hide hn2
            clear ho1 hk1 hg1 hn2 HVG p0 p1 p2 p3 p4 p5 p6
            go_wp2_with fail
            go_roundw
            case rel => exact ⟨i + 1, rr, M2, _, _, _, rfl, by go_num, by omega, HN2, HG, HRn, HF1⟩
            case measure => simp [intOf]; omega
          · have hji : ¬ (i : Int) < kn := by omega
            obtain ⟨rfl, -⟩ := hRd.out.done hi
            have HG : Hid (M = adds (adds T1 NS) (rdK kk).all ∧ M.length + ak.size ≤ 16777216) := by
              obtain ⟨g3, g4, g5⟩ := hinv.out
              rw [rdK_nil] at g3
              simp only [Fo.size] at g4
              exact ⟨g3, by omega⟩
            have HRA2 := hide (hFI.out.rd HRA.out HNZ.out HV.out)
            clear hinv hRd
            go_upto_region 12 with fail
            go_loopw [1, 7] (fun s1 s7 wr => ∃ (i : Nat) (r : Fo) (M : List ByteArray) (a : Option Addr) (n c : Nat), s1 = .slice a n c ∧ s7 = .int .i64 i ∧ i ≤ an ∧ Hid (n = M.length) ∧ Hid (adds M (rdA r).all = adds (adds (adds T1 NS) (rdK kk).all) (rdA ak).all ∧ M.length + r.size ≤ 16777216 ∧ r.size ≤ ak.size) ∧ Hid (Rd E (E 2) an nb aa i r wr) ∧ Hid (FI V1 wr (.slice oa on oc) (.slice a n c) M)) (fun _ s7 _ => an - (intOf s7).toNat)
            case atStart => exact ⟨0, ak, M, _, _, _, rfl, rfl, Nat.zero_le _, hlen, ⟨by rw [HG.out.1], by have := HG.out.2; omega, Nat.le_refl _⟩, HRA2, hFI⟩
            case round =>
              clear HG hFI hlen HRA2
              obtain ⟨i, r, M, a, n, c, rfl, rfl, hin, hlen, hinv, hRd, hFI⟩ := hrel
              have c6 := (HQK.out wr hFI.out.kp).cel 6 _ rfl
              by_cases hi : i < an
              · obtain ⟨x, rr, b, o, rfl, hx, rfl, hb, hc, hxs, hR1⟩ := hRd.out.next hi (by decide)
                obtain ⟨con, ca, cn, cc, ck, y, rfl, hcon, hck, hy, hal⟩ := allA_app hx rr
                obtain ⟨g1, g3, g4⟩ := hinv.out
                rw [hal, adds_append, adds_append] at g1
                rw [Fo.app_size] at g3 g4
                simp only [Fo.size] at g3 g4
                have hii : (i : Int) < an := by omega
                obtain ⟨hxs1, hxs2⟩ := hxs
                obtain ⟨sc, ecn⟩ := sr_of hck hxs1
                have hcl : (rdS ck).length ≤ ck.size := rdS_le ck
                obtain ⟨CS, hCS⟩ : ∃ X, rdS ck = X := ⟨_, rfl⟩
                rw [hCS] at sc ecn hcl g1
                have hcx : cn ≤ 9223372036854775807 := sub_facts hxs1
                obtain ⟨Ty, hTy⟩ : ∃ T, adds M CS = T := ⟨_, rfl⟩
                have HG0 : Hid (adds M (CS.drop 0) = Ty ∧ M.length + (CS.length - 0) + y.size + rr.size ≤ 16777216) := ⟨by rw [List.drop_zero]; exact hTy, by omega⟩
                rw [hTy] at g1
                have HG1 : Hid (adds (adds Ty (rdK y).all) (rdA rr).all = adds (adds (adds T1 NS) (rdK kk).all) (rdA ak).all ∧ y.size ≤ m ∧ rr.size ≤ ak.size) := ⟨g1, by have := HM.out; omega, by omega⟩
                have hvg : ∀ g, (Value.slice a n c).ownBlock = some g → nb ≤ g := fun g hg => by
                  rcases hFI.out.at_ g hg with e | e
                  · exact HV.out g e
                  · have := HNZ.out; omega
                have hzw := hFI.out.kp.size
                obtain ⟨U, hU⟩ : ∃ U, U = wr := ⟨_, rfl⟩
                have HFU : Hid (FI U U (.slice a n c) (.slice a n c) M) := by rw [hU]; exact FI.start hFI.out.own
                have HUZ : Hid (nb ≤ U.heap.size) := by unfold Hid; rw [hU]; have := HNZ.out; omega
                have HUV := hide hvg
                have HSC : Hid (SR U (fun c => c < nb) ca cc CS) := by rw [hU]; exact sc
                have HEC := hide ecn
                have HR1 : Hid (Rd E (E 2) an nb (some ⟨b, o, none⟩) (i + 1) rr U) := by rw [hU]; exact hR1
                have HUF : Hid (FI V1 U (.slice oa on oc) (.slice a n c) M) := by rw [hU]; exact hFI.out
                have HYS : Hid (y.Subs U (fun c => c < nb)) := by rw [hU]; exact hxs2
                have HYF := hide hy
                have HYC : Hid (∀ V, Kept (fun d => d < U.heap.size ∧ (Value.slice a n c).ownBlock ≠ some d) U V → V.cell? ⟨W.heap.size, 6, none⟩ = some (.slice (some ⟨b, o, none⟩) an ac) ∧ Cel V (Value.string con :: Value.slice ca cn cc :: y.vals) b (o + i * 9)) := fun V kV => by
                  have hb1 : b < nb := hb
                  have hz1 := HUZ.out
                  refine ⟨?_, ?_⟩
                  · have h6 := (HQK.out V (HUF.out.kp.trans2 kV (fun c' hc' hs' => ⟨by have := HUF.out.kp.size; omega, fun e => by
                      rcases HUF.out.at_ c' e with e2 | e2
                      · exact hs'.2 e2
                      · omega⟩))).cel 6 _ rfl
                    exact h6
                  · have hc2 : Cel U (Fo.v (.string con) (.s ca cn cc ck y)).vals b (o + i * (E 2).length) := by rw [hU]; exact hc
                    exact hc2.kept kV (by omega) ⟨by omega, fun e => by have := HUV.out _ e; omega⟩
                clear g1 g3 g4 hinv hRd hR1 hvg hTy sc ecn hcl hCS hxs1 hxs2 hc hal hx hck hy hb hzw hcon
                go_upto_region 15 with fail
                rw [← hU]
                rw [← hU] at c6
                clear hU
                go_loopw [1, 8] (fun s1 s8 wr => ∃ (j : Nat) (M2 : List ByteArray) (a2 : Option Addr) (n2 c2 : Nat), s1 = .slice a2 n2 c2 ∧ s8 = .int .i64 j ∧ j ≤ cn ∧ Hid (n2 = M2.length) ∧ Hid (adds M2 (CS.drop j) = Ty ∧ M2.length + (CS.length - j) + y.size + rr.size ≤ 16777216) ∧ Hid (FI U wr (.slice a n c) (.slice a2 n2 c2) M2)) (fun _ s8 _ => cn - (intOf s8).toNat)
                case atStart => exact ⟨0, M, _, _, _, rfl, rfl, Nat.zero_le _, hlen, HG0, HFU⟩
                case round =>
                  obtain ⟨j, M2, a2, n2, c2, rfl, rfl, hjn, hlen2, hinv, hFJ⟩ := hrel
                  obtain ⟨d6, dc⟩ := HYC.out wr hFJ.out.kp
                  have d1 : wr.cell? ⟨b, o + i * 9 + 1, none⟩ = some (.slice ca cn cc) := dc 1 _ rfl
                  by_cases hj : j < cn
                  · obtain ⟨b2, o2, x2, rfl, hdr, hcx2⟩ := hFJ.out.name HSC.out HUZ.out HUV.out (i := j) (by rw [HEC.out]; exact hj)
                    obtain ⟨g3, g4⟩ := hinv.out
                    have hjj : (j : Int) < cn := by omega
                    have ecn := HEC.out
                    rw [hdr, adds_cons] at g3
                    have HC := hide (m_add (.slice a2 n2 c2) M2 x2 wr hFJ.out.own (by omega))
                    obtain ⟨M3, hM3⟩ : ∃ M3, adds M2 [x2] = M3 := ⟨_, rfl⟩
                    rw [hM3] at g3 HC
                    have HG : Hid (adds M3 (CS.drop (j + 1)) = Ty ∧ M3.length + (CS.length - (j + 1)) + y.size + rr.size ≤ 16777216) := ⟨g3, by have := adds1_len M2 x2; rw [hM3] at this; omega⟩
                    clear g3 g4 hinv hdr ecn hM3 dc
                    go_wp2_with (go_at_call 54; refine HC.out.mono ?_; rintro e w2 ⟨a3, c3, rfl, ho2, hk2', hg2⟩; have HF2 := hide (hFJ.out.call ho2 hk2' hg2); clear ho2 hk2' hg2)
                    go_roundw
                    case rel => exact ⟨j + 1, M3, _, _, _, rfl, by go_num, by omega, rfl, HG, HF2⟩
                    case measure => simp [intOf]; omega
                  · have hjj : ¬ (j : Int) < cn := by omega
                    obtain ⟨g3, g4⟩ := hinv.out
                    rw [List.drop_eq_nil_of_le (by rw [HEC.out]; omega)] at g3
                    have e3 : M2 = Ty := g3
                    subst e3
                    have hvg : ∀ g, (Value.slice a2 n2 c2).ownBlock = some g → nb ≤ g := fun g hg => by
                      rcases hFJ.out.at_ g hg with e | e
                      · exact HUV.out g e
                      · have := HUZ.out; omega
                    have HC := hide (ih y wr (.slice a2 n2 c2) M2 HG1.out.2.1 HYF.out (HYS.out.kept hFJ.out.kp (fun c hc => ⟨⟨by have := HUZ.out; have : c < nb := hc; omega, fun e => by have := HUV.out _ e; have : c < nb := hc; omega⟩, by have := HUZ.out; have : c < nb := hc; omega⟩)) (by have := HUZ.out; have := hFJ.out.kp.size; omega) hvg hFJ.out.own (by omega))
                    obtain ⟨M3, hM3⟩ : ∃ M3, M3 = adds M2 (rdK y).all := ⟨_, rfl⟩
                    rw [← hM3] at HC
                    have HG : Hid (adds M3 (rdA rr).all = adds (adds (adds T1 NS) (rdK kk).all) (rdA ak).all ∧ M3.length + rr.size ≤ 16777216 ∧ rr.size ≤ ak.size) := by
                      obtain ⟨h1, h2, h3⟩ := HG1.out
                      rw [← hM3] at h1
                      refine ⟨h1, ?_, h3⟩
                      have h4 := adds_len (rdK y).all M2
                      have h5 := allK_le y
                      rw [← hM3] at h4
                      omega
                    have HVG := hide hvg
                    have HRR := hide (hFJ.out.rd HR1.out HUZ.out HUV.out)
                    have HFV : Hid (FI V1 wr (.slice oa on oc) (.slice a2 n2 c2) M2) := by
                      have hz := HUF.out.kp.size
                      refine ⟨hFJ.out.own, fun g hg => ?_, HUF.out.kp.trans2 hFJ.out.kp (fun c' hc' hs' => ⟨by omega, fun e => ?_⟩)⟩
                      · rcases hFJ.out.at_ g hg with e | e
                        · exact HUF.out.at_ g e
                        · exact .inr (by omega)
                      · rcases HUF.out.at_ c' e with e2 | e2
                        · exact hs'.2 e2
                        · omega
                    obtain ⟨xk, xnm, xmn, xla, xln, xlc, xlk, xna, xnn, xnc, xnk, xka, xkn, xkc, xkk, xaa, xan, xac, xak, rfl, -⟩ := core_open HYF.out
                    simp only [Fo.vals] at HC dc
                    have p0 : wr.cell? ⟨b, o + i * 9 + 2, none⟩ = some (.int .i64 xk) := dc 2 _ rfl
                    have p1 : wr.cell? ⟨b, o + i * 9 + 2 + 1, none⟩ = some (.string xnm) := dc 3 _ rfl
                    have p2 : wr.cell? ⟨b, o + i * 9 + 2 + 2, none⟩ = some (.bool xmn) := dc 4 _ rfl
                    have p3 : wr.cell? ⟨b, o + i * 9 + 2 + 3, none⟩ = some (.slice xla xln xlc) := dc 5 _ rfl
                    have p4 : wr.cell? ⟨b, o + i * 9 + 2 + 4, none⟩ = some (.slice xna xnn xnc) := dc 6 _ rfl
                    have p5 : wr.cell? ⟨b, o + i * 9 + 2 + 5, none⟩ = some (.slice xka xkn xkc) := dc 7 _ rfl
                    have p6 : wr.cell? ⟨b, o + i * 9 + 2 + 6, none⟩ = some (.slice xaa xan xac) := dc 8 _ rfl
                    clear dc hinv g3 g4 hvg hM3 HYC HYS HYF HUF HR1 HSC HG0 HFU HG1 HEC
                    go_wp2_with fail
                    refine HC.out.mono ?_
                    clear HC
                    rintro e w1 ⟨a1, c1, rfl, ho1, hk1, hg1⟩
                    have HF1 := hide (HFV.out.call ho1 hk1 hg1)
                    have HRn := hide (HRR.out.kept hk1 (by have := HUZ.out; have := hFJ.out.kp.size; omega) (fun c' hc' e => by have := HVG.out c' e; omega))
                    obtain ⟨n3, hn3⟩ : ∃ n3, n3 = M3.length := ⟨_, rfl⟩
                    rw [← hn3] at HF1
                    rw [← hn3]
                    have HN3 := hide hn3
                    clear ho1 hk1 hg1 hn3 HVG p0 p1 p2 p3 p4 p5 p6
                    go_wp2_with fail
                    go_roundw
                    case rel => exact ⟨i + 1, rr, M3, _, _, _, rfl, by go_num, by omega, HN3, HG, HRn, HF1⟩
                    case measure => simp [intOf]; omega
              · have hji : ¬ (i : Int) < an := by omega
                obtain ⟨rfl, -⟩ := hRd.out.done hi
                have HG : Hid (M = adds (adds (adds T1 NS) (rdK kk).all) (rdA ak).all) := by
                  obtain ⟨g3, g4, g5⟩ := hinv.out
                  rw [rdA_nil] at g3
                  exact g3
                clear hinv hRd
                go_wp2_with fail
                go_ret
                exact HEND.out wr a n c M hFI.out hlen.out HG.out
  · have HT : Hid (T1 = L) := by unfold Hid; rw [← hT1, HO1.out.2.2 hk1 hk2]; rfl
    have g1 := ne_text hn1
    replace hk1 : (k == 1) = false := beq_eq_false_iff_ne.2 hk1
    replace hk2 : (k == 8) = false := beq_eq_false_iff_ne.2 hk2
    clear hT1 HO1 HAD hn1
    go_enter Try.func42, Try.ntmps42
    go_upto_region 1 with fail
    rw [HV1.out]
    clear HV1
    go_upto_region 3 with fail
    clear c0 c1
    go_upto_region 4 with fail
    go_loopw [1, 5] (fun s1 s5 wr => ∃ (i : Nat) (M : List ByteArray) (a : Option Addr) (n c : Nat), s1 = .slice a n c ∧ s5 = .int .i64 i ∧ i ≤ nn ∧ Hid (n = M.length) ∧ Hid (adds M (NS.drop i) = adds T1 NS ∧ M.length + (NS.length - i) + kk.size + ak.size ≤ 16777216) ∧ Hid (FI V1 wr (.slice oa on oc) (.slice a n c) M)) (fun _ s5 _ => nn - (intOf s5).toNat)
    case atStart => exact ⟨0, L, _, _, _, rfl, rfl, Nat.zero_le _, HON, ⟨by rw [List.drop_zero, HT.out], by have := HSZ.out; omega⟩, HFI⟩
    case round =>
      obtain ⟨i, M, a, n, c, rfl, rfl, hin, hlen, hinv, hFI⟩ := hrel
      have c4 := (HQK.out wr hFI.out.kp).cel 4 _ rfl
      by_cases hi : i < nn
      · obtain ⟨b, o, x, rfl, hdr, hcx⟩ := hFI.out.name HSN.out HNZ.out HV.out (i := i) (by rw [HEL.out]; exact hi)
        obtain ⟨g3, g4⟩ := hinv.out
        have hii : (i : Int) < nn := by omega
        have eln := HEL.out
        rw [hdr, adds_cons] at g3
        have HC := hide (m_add (.slice a n c) M x wr hFI.out.own (by omega))
        obtain ⟨M2, hM2⟩ : ∃ M2, adds M [x] = M2 := ⟨_, rfl⟩
        rw [hM2] at g3 HC
        have HG : Hid (adds M2 (NS.drop (i + 1)) = adds T1 NS ∧ M2.length + (NS.length - (i + 1)) + kk.size + ak.size ≤ 16777216) := ⟨g3, by have := adds1_len M x; rw [hM2] at this; omega⟩
        clear g3 g4 hinv hdr eln hM2
        go_wp2_with (go_at_call 54; refine HC.out.mono ?_; rintro e w2 ⟨a2, c2, rfl, ho2, hk2', hg2⟩; have HF2 := hide (hFI.out.call ho2 hk2' hg2); clear ho2 hk2' hg2)
        go_roundw
        case rel => exact ⟨i + 1, M2, _, _, _, rfl, by go_num, by omega, rfl, HG, HF2⟩
        case measure => simp [intOf]; omega
      · have hji : ¬ (i : Int) < nn := by omega
        have HG : Hid (M = adds T1 NS ∧ M.length + kk.size + ak.size ≤ 16777216) := by
          obtain ⟨g3, g4⟩ := hinv.out
          rw [List.drop_eq_nil_of_le (by rw [HEL.out]; omega)] at g3
          exact ⟨g3, by omega⟩
        have HRK2 := hide (hFI.out.rd HRK.out HNZ.out HV.out)
        clear hinv
        go_upto_region 8 with fail
        go_loopw [1, 6] (fun s1 s6 wr => ∃ (i : Nat) (r : Fo) (M : List ByteArray) (a : Option Addr) (n c : Nat), s1 = .slice a n c ∧ s6 = .int .i64 i ∧ i ≤ kn ∧ Hid (n = M.length) ∧ Hid (adds M (rdK r).all = adds (adds T1 NS) (rdK kk).all ∧ M.length + r.size + ak.size ≤ 16777216 ∧ r.size ≤ kk.size) ∧ Hid (Rd E (E 3) kn nb ka i r wr) ∧ Hid (FI V1 wr (.slice oa on oc) (.slice a n c) M)) (fun _ s6 _ => kn - (intOf s6).toNat)
        case atStart => exact ⟨0, kk, M, _, _, _, rfl, rfl, Nat.zero_le _, hlen, ⟨by rw [HG.out.1], by have := HG.out.2; omega, Nat.le_refl _⟩, HRK2, hFI⟩
        case round =>
          clear HG hFI hlen HRK2
          obtain ⟨i, r, M, a, n, c, rfl, rfl, hin, hlen, hinv, hRd, hFI⟩ := hrel
          have c5 := (HQK.out wr hFI.out.kp).cel 5 _ rfl
          by_cases hi : i < kn
          · obtain ⟨x, rr, b, o, rfl, hx, rfl, hb, hc, hxs, hR1⟩ := hRd.out.next hi (by decide)
            obtain ⟨g1, g3, g4⟩ := hinv.out
            rw [allK_app hx, adds_append] at g1
            rw [Fo.app_size] at g3 g4
            have hii : (i : Int) < kn := by omega
            have hvg : ∀ g, (Value.slice a n c).ownBlock = some g → nb ≤ g := fun g hg => by
              rcases hFI.out.at_ g hg with e | e
              · exact HV.out g e
              · have := HNZ.out; omega
            have HC := hide (ih x wr (.slice a n c) M (by have := HM.out; omega) hx hxs (by have := HNZ.out; have := hFI.out.kp.size; omega) hvg hFI.out.own (by omega))
            obtain ⟨M2, hM2⟩ : ∃ M2, M2 = adds M (rdK x).all := ⟨_, rfl⟩
            rw [← hM2] at HC g1
            have HG : Hid (adds M2 (rdK rr).all = adds (adds T1 NS) (rdK kk).all ∧ M2.length + rr.size + ak.size ≤ 16777216 ∧ rr.size ≤ kk.size) := by
              refine ⟨g1, ?_, by omega⟩
              have h1 := adds_len (rdK x).all M
              have h2 := allK_le x
              rw [← hM2] at h1
              omega
            have HR1 := hide hR1
            have HVG := hide hvg
            obtain ⟨xk, xnm, xmn, xla, xln, xlc, xlk, xna, xnn, xnc, xnk, xka, xkn, xkc, xkk, xaa, xan, xac, xak, rfl, -⟩ := core_open hx
            simp only [Fo.vals] at HC hc
            have p0 : wr.cell? ⟨b, o + i * 7, none⟩ = some (.int .i64 xk) := hc 0 _ rfl
            have p1 : wr.cell? ⟨b, o + i * 7 + 1, none⟩ = some (.string xnm) := hc 1 _ rfl
            have p2 : wr.cell? ⟨b, o + i * 7 + 2, none⟩ = some (.bool xmn) := hc 2 _ rfl
            have p3 : wr.cell? ⟨b, o + i * 7 + 3, none⟩ = some (.slice xla xln xlc) := hc 3 _ rfl
            have p4 : wr.cell? ⟨b, o + i * 7 + 4, none⟩ = some (.slice xna xnn xnc) := hc 4 _ rfl
            have p5 : wr.cell? ⟨b, o + i * 7 + 5, none⟩ = some (.slice xka xkn xkc) := hc 5 _ rfl
            have p6 : wr.cell? ⟨b, o + i * 7 + 6, none⟩ = some (.slice xaa xan xac) := hc 6 _ rfl
            clear hc hxs hx g1 g3 g4 hinv hRd hR1 hvg hM2
            go_wp2_with fail
            refine HC.out.mono ?_
            clear HC
            rintro e w1 ⟨a1, c1, rfl, ho1, hk1, hg1⟩
            have HF1 := hide (hFI.out.call ho1 hk1 hg1)
            have HRn := hide (HR1.out.kept hk1 (by have := HNZ.out; have := hFI.out.kp.size; omega) (fun c' hc' e => by have := HVG.out c' e; omega))
            obtain ⟨n2, hn2⟩ : ∃ n2, n2 = M2.length := ⟨_, rfl⟩
            rw [← hn2] at HF1
            rw [← hn2]
            have HN2 := hide hn2
            clear ho1 hk1 hg1 hn2 HVG p0 p1 p2 p3 p4 p5 p6
            go_wp2_with fail
            go_roundw
            case rel => exact ⟨i + 1, rr, M2, _, _, _, rfl, by go_num, by omega, HN2, HG, HRn, HF1⟩
            case measure => simp [intOf]; omega
          · have hji : ¬ (i : Int) < kn := by omega
            obtain ⟨rfl, -⟩ := hRd.out.done hi
            have HG : Hid (M = adds (adds T1 NS) (rdK kk).all ∧ M.length + ak.size ≤ 16777216) := by
              obtain ⟨g3, g4, g5⟩ := hinv.out
              rw [rdK_nil] at g3
              simp only [Fo.size] at g4
              exact ⟨g3, by omega⟩
            have HRA2 := hide (hFI.out.rd HRA.out HNZ.out HV.out)
            clear hinv hRd
            go_upto_region 12 with fail
            go_loopw [1, 7] (fun s1 s7 wr => ∃ (i : Nat) (r : Fo) (M : List ByteArray) (a : Option Addr) (n c : Nat), s1 = .slice a n c ∧ s7 = .int .i64 i ∧ i ≤ an ∧ Hid (n = M.length) ∧ Hid (adds M (rdA r).all = adds (adds (adds T1 NS) (rdK kk).all) (rdA ak).all ∧ M.length + r.size ≤ 16777216 ∧ r.size ≤ ak.size) ∧ Hid (Rd E (E 2) an nb aa i r wr) ∧ Hid (FI V1 wr (.slice oa on oc) (.slice a n c) M)) (fun _ s7 _ => an - (intOf s7).toNat)
            case atStart => exact ⟨0, ak, M, _, _, _, rfl, rfl, Nat.zero_le _, hlen, ⟨by rw [HG.out.1], by have := HG.out.2; omega, Nat.le_refl _⟩, HRA2, hFI⟩
            case round =>
              clear HG hFI hlen HRA2
              obtain ⟨i, r, M, a, n, c, rfl, rfl, hin, hlen, hinv, hRd, hFI⟩ := hrel
              have c6 := (HQK.out wr hFI.out.kp).cel 6 _ rfl
              by_cases hi : i < an
              · obtain ⟨x, rr, b, o, rfl, hx, rfl, hb, hc, hxs, hR1⟩ := hRd.out.next hi (by decide)
                obtain ⟨con, ca, cn, cc, ck, y, rfl, hcon, hck, hy, hal⟩ := allA_app hx rr
                obtain ⟨g1, g3, g4⟩ := hinv.out
                rw [hal, adds_append, adds_append] at g1
                rw [Fo.app_size] at g3 g4
                simp only [Fo.size] at g3 g4
                have hii : (i : Int) < an := by omega
                obtain ⟨hxs1, hxs2⟩ := hxs
                obtain ⟨sc, ecn⟩ := sr_of hck hxs1
                have hcl : (rdS ck).length ≤ ck.size := rdS_le ck
                obtain ⟨CS, hCS⟩ : ∃ X, rdS ck = X := ⟨_, rfl⟩
                rw [hCS] at sc ecn hcl g1
                have hcx : cn ≤ 9223372036854775807 := sub_facts hxs1
                obtain ⟨Ty, hTy⟩ : ∃ T, adds M CS = T := ⟨_, rfl⟩
                have HG0 : Hid (adds M (CS.drop 0) = Ty ∧ M.length + (CS.length - 0) + y.size + rr.size ≤ 16777216) := ⟨by rw [List.drop_zero]; exact hTy, by omega⟩
                rw [hTy] at g1
                have HG1 : Hid (adds (adds Ty (rdK y).all) (rdA rr).all = adds (adds (adds T1 NS) (rdK kk).all) (rdA ak).all ∧ y.size ≤ m ∧ rr.size ≤ ak.size) := ⟨g1, by have := HM.out; omega, by omega⟩
                have hvg : ∀ g, (Value.slice a n c).ownBlock = some g → nb ≤ g := fun g hg => by
                  rcases hFI.out.at_ g hg with e | e
                  · exact HV.out g e
                  · have := HNZ.out; omega
                have hzw := hFI.out.kp.size
                obtain ⟨U, hU⟩ : ∃ U, U = wr := ⟨_, rfl⟩
                have HFU : Hid (FI U U (.slice a n c) (.slice a n c) M) := by rw [hU]; exact FI.start hFI.out.own
                have HUZ : Hid (nb ≤ U.heap.size) := by unfold Hid; rw [hU]; have := HNZ.out; omega
                have HUV := hide hvg
                have HSC : Hid (SR U (fun c => c < nb) ca cc CS) := by rw [hU]; exact sc
                have HEC := hide ecn
                have HR1 : Hid (Rd E (E 2) an nb (some ⟨b, o, none⟩) (i + 1) rr U) := by rw [hU]; exact hR1
                have HUF : Hid (FI V1 U (.slice oa on oc) (.slice a n c) M) := by rw [hU]; exact hFI.out
                have HYS : Hid (y.Subs U (fun c => c < nb)) := by rw [hU]; exact hxs2
                have HYF := hide hy
                have HYC : Hid (∀ V, Kept (fun d => d < U.heap.size ∧ (Value.slice a n c).ownBlock ≠ some d) U V → V.cell? ⟨W.heap.size, 6, none⟩ = some (.slice (some ⟨b, o, none⟩) an ac) ∧ Cel V (Value.string con :: Value.slice ca cn cc :: y.vals) b (o + i * 9)) := fun V kV => by
                  have hb1 : b < nb := hb
                  have hz1 := HUZ.out
                  refine ⟨?_, ?_⟩
                  · have h6 := (HQK.out V (HUF.out.kp.trans2 kV (fun c' hc' hs' => ⟨by have := HUF.out.kp.size; omega, fun e => by
                      rcases HUF.out.at_ c' e with e2 | e2
                      · exact hs'.2 e2
                      · omega⟩))).cel 6 _ rfl
                    exact h6
                  · have hc2 : Cel U (Fo.v (.string con) (.s ca cn cc ck y)).vals b (o + i * (E 2).length) := by rw [hU]; exact hc
                    exact hc2.kept kV (by omega) ⟨by omega, fun e => by have := HUV.out _ e; omega⟩
                clear g1 g3 g4 hinv hRd hR1 hvg hTy sc ecn hcl hCS hxs1 hxs2 hc hal hx hck hy hb hzw hcon
                go_upto_region 15 with fail
                rw [← hU]
                rw [← hU] at c6
                clear hU
                go_loopw [1, 8] (fun s1 s8 wr => ∃ (j : Nat) (M2 : List ByteArray) (a2 : Option Addr) (n2 c2 : Nat), s1 = .slice a2 n2 c2 ∧ s8 = .int .i64 j ∧ j ≤ cn ∧ Hid (n2 = M2.length) ∧ Hid (adds M2 (CS.drop j) = Ty ∧ M2.length + (CS.length - j) + y.size + rr.size ≤ 16777216) ∧ Hid (FI U wr (.slice a n c) (.slice a2 n2 c2) M2)) (fun _ s8 _ => cn - (intOf s8).toNat)
                case atStart => exact ⟨0, M, _, _, _, rfl, rfl, Nat.zero_le _, hlen, HG0, HFU⟩
                case round =>
                  obtain ⟨j, M2, a2, n2, c2, rfl, rfl, hjn, hlen2, hinv, hFJ⟩ := hrel
                  obtain ⟨d6, dc⟩ := HYC.out wr hFJ.out.kp
                  have d1 : wr.cell? ⟨b, o + i * 9 + 1, none⟩ = some (.slice ca cn cc) := dc 1 _ rfl
                  by_cases hj : j < cn
                  · obtain ⟨b2, o2, x2, rfl, hdr, hcx2⟩ := hFJ.out.name HSC.out HUZ.out HUV.out (i := j) (by rw [HEC.out]; exact hj)
                    obtain ⟨g3, g4⟩ := hinv.out
                    have hjj : (j : Int) < cn := by omega
                    have ecn := HEC.out
                    rw [hdr, adds_cons] at g3
                    have HC := hide (m_add (.slice a2 n2 c2) M2 x2 wr hFJ.out.own (by omega))
                    obtain ⟨M3, hM3⟩ : ∃ M3, adds M2 [x2] = M3 := ⟨_, rfl⟩
                    rw [hM3] at g3 HC
                    have HG : Hid (adds M3 (CS.drop (j + 1)) = Ty ∧ M3.length + (CS.length - (j + 1)) + y.size + rr.size ≤ 16777216) := ⟨g3, by have := adds1_len M2 x2; rw [hM3] at this; omega⟩
                    clear g3 g4 hinv hdr ecn hM3 dc
                    go_wp2_with (go_at_call 54; refine HC.out.mono ?_; rintro e w2 ⟨a3, c3, rfl, ho2, hk2', hg2⟩; have HF2 := hide (hFJ.out.call ho2 hk2' hg2); clear ho2 hk2' hg2)
                    go_roundw
                    case rel => exact ⟨j + 1, M3, _, _, _, rfl, by go_num, by omega, rfl, HG, HF2⟩
                    case measure => simp [intOf]; omega
                  · have hjj : ¬ (j : Int) < cn := by omega
                    obtain ⟨g3, g4⟩ := hinv.out
                    rw [List.drop_eq_nil_of_le (by rw [HEC.out]; omega)] at g3
                    have e3 : M2 = Ty := g3
                    subst e3
                    have hvg : ∀ g, (Value.slice a2 n2 c2).ownBlock = some g → nb ≤ g := fun g hg => by
                      rcases hFJ.out.at_ g hg with e | e
                      · exact HUV.out g e
                      · have := HUZ.out; omega
                    have HC := hide (ih y wr (.slice a2 n2 c2) M2 HG1.out.2.1 HYF.out (HYS.out.kept hFJ.out.kp (fun c hc => ⟨⟨by have := HUZ.out; have : c < nb := hc; omega, fun e => by have := HUV.out _ e; have : c < nb := hc; omega⟩, by have := HUZ.out; have : c < nb := hc; omega⟩)) (by have := HUZ.out; have := hFJ.out.kp.size; omega) hvg hFJ.out.own (by omega))
                    obtain ⟨M3, hM3⟩ : ∃ M3, M3 = adds M2 (rdK y).all := ⟨_, rfl⟩
                    rw [← hM3] at HC
                    have HG : Hid (adds M3 (rdA rr).all = adds (adds (adds T1 NS) (rdK kk).all) (rdA ak).all ∧ M3.length + rr.size ≤ 16777216 ∧ rr.size ≤ ak.size) := by
                      obtain ⟨h1, h2, h3⟩ := HG1.out
                      rw [← hM3] at h1
                      refine ⟨h1, ?_, h3⟩
                      have h4 := adds_len (rdK y).all M2
                      have h5 := allK_le y
                      rw [← hM3] at h4
                      omega
                    have HVG := hide hvg
                    have HRR := hide (hFJ.out.rd HR1.out HUZ.out HUV.out)
                    have HFV : Hid (FI V1 wr (.slice oa on oc) (.slice a2 n2 c2) M2) := by
                      have hz := HUF.out.kp.size
                      refine ⟨hFJ.out.own, fun g hg => ?_, HUF.out.kp.trans2 hFJ.out.kp (fun c' hc' hs' => ⟨by omega, fun e => ?_⟩)⟩
                      · rcases hFJ.out.at_ g hg with e | e
                        · exact HUF.out.at_ g e
                        · exact .inr (by omega)
                      · rcases HUF.out.at_ c' e with e2 | e2
                        · exact hs'.2 e2
                        · omega
                    obtain ⟨xk, xnm, xmn, xla, xln, xlc, xlk, xna, xnn, xnc, xnk, xka, xkn, xkc, xkk, xaa, xan, xac, xak, rfl, -⟩ := core_open HYF.out
                    simp only [Fo.vals] at HC dc
                    have p0 : wr.cell? ⟨b, o + i * 9 + 2, none⟩ = some (.int .i64 xk) := dc 2 _ rfl
                    have p1 : wr.cell? ⟨b, o + i * 9 + 2 + 1, none⟩ = some (.string xnm) := dc 3 _ rfl
                    have p2 : wr.cell? ⟨b, o + i * 9 + 2 + 2, none⟩ = some (.bool xmn) := dc 4 _ rfl
                    have p3 : wr.cell? ⟨b, o + i * 9 + 2 + 3, none⟩ = some (.slice xla xln xlc) := dc 5 _ rfl
                    have p4 : wr.cell? ⟨b, o + i * 9 + 2 + 4, none⟩ = some (.slice xna xnn xnc) := dc 6 _ rfl
                    have p5 : wr.cell? ⟨b, o + i * 9 + 2 + 5, none⟩ = some (.slice xka xkn xkc) := dc 7 _ rfl
                    have p6 : wr.cell? ⟨b, o + i * 9 + 2 + 6, none⟩ = some (.slice xaa xan xac) := dc 8 _ rfl
                    clear dc hinv g3 g4 hvg hM3 HYC HYS HYF HUF HR1 HSC HG0 HFU HG1 HEC
                    go_wp2_with fail
                    refine HC.out.mono ?_
                    clear HC
                    rintro e w1 ⟨a1, c1, rfl, ho1, hk1, hg1⟩
                    have HF1 := hide (HFV.out.call ho1 hk1 hg1)
                    have HRn := hide (HRR.out.kept hk1 (by have := HUZ.out; have := hFJ.out.kp.size; omega) (fun c' hc' e => by have := HVG.out c' e; omega))
                    obtain ⟨n3, hn3⟩ : ∃ n3, n3 = M3.length := ⟨_, rfl⟩
                    rw [← hn3] at HF1
                    rw [← hn3]
                    have HN3 := hide hn3
                    clear ho1 hk1 hg1 hn3 HVG p0 p1 p2 p3 p4 p5 p6
                    go_wp2_with fail
                    go_roundw
                    case rel => exact ⟨i + 1, rr, M3, _, _, _, rfl, by go_num, by omega, HN3, HG, HRn, HF1⟩
                    case measure => simp [intOf]; omega
              · have hji : ¬ (i : Int) < an := by omega
                obtain ⟨rfl, -⟩ := hRd.out.done hi
                have HG : Hid (M = adds (adds (adds T1 NS) (rdK kk).all) (rdA ak).all) := by
                  obtain ⟨g3, g4, g5⟩ := hinv.out
                  rw [rdA_nil] at g3
                  exact g3
                clear hinv hRd
                go_wp2_with fail
                go_ret
                exact HEND.out wr a n c M hFI.out hlen.out HG.out

end Go.Proofs.Ytcnokpaicnjkfaa
