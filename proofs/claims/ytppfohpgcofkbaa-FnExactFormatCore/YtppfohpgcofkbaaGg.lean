import Derived.Test.YtppfohpgcofkbaaJN
namespace Go.Proofs.Ytppfohpgcofkbaa
open Go.RowKit Go.Joins

/-- What is left of texts with a text between. -/
def restS (s : List UInt8) (b : Bool) (L : List (List UInt8)) : List UInt8 := if b = true then sepB s L else L.flatMap (fun t => s ++ t)

theorem restS_cons (s : List UInt8) (b : Bool) (x : List UInt8) (L : List (List UInt8)) : restS s b (x :: L) = (if b = true then [] else s) ++ x ++ restS s false L := by
  cases b <;> simp [restS, sepB]

theorem restS_nil (s : List UInt8) (b : Bool) : restS s b [] = [] := by cases b <;> rfl

set_option maxHeartbeats 8000000 in
set_option maxRecDepth 100000 in
theorem fm_7 (p : Prop) (nb m : Nat) (ih : FmC nb m) (nm : ByteArray) (mn : Bool) (la : Option Addr) (ln lc : Nat) (na : Option Addr) (nn nc : Nat) (ka : Option Addr) (kn kc : Nat) (aa : Option Addr) (an ac : Nat) (L : List ByteArray) (kk : Fo) (W : World) (v : Value) (l : List UInt8) (hp : p → 2 ≤ l.length) (hnb : nb ≤ W.heap.size) (hv : BR nb W v l) (hsr : SR W (fun c => c < nb) na nc L) (hnn : nn = L.length) (hnx : nn ≤ 16777216) (h5 : Fit E kk (rep (E 3) kn)) (hs5 : kk.Sub W (fun c => c < nb) ka kn kc) (hgd : (rdK kk).good) (hsz : kk.size ≤ m ∧ kk.wt ≤ 1048576) (hk0 : kn = nn + 1) (hl : l.length + ([40, 108, 101, 116, 32] ++ sepB [59, 32] (List.zipWith (fun n t => bs n ++ [32, 61, 32] ++ t) L (KT kk)) ++ [32, 105, 110, 32] ++ (KT kk).getD L.length [] ++ [41]).length ≤ 35184372088832) :
    Calls Try.prog 14 #[v, .agg #[.int .i64 7, .string nm, .bool mn, .slice la ln lc, .slice na nn nc, .slice ka kn kc, .slice aa an ac]] W (FmP p nb W (l ++ ([40, 108, 101, 116, 32] ++ sepB [59, 32] (List.zipWith (fun n t => bs n ++ [32, 61, 32] ++ t) L (KT kk)) ++ [32, 105, 110, 32] ++ (KT kk).getD L.length [] ++ [41]))) := by
  obtain ⟨V0, hV0⟩ : ∃ V, W.alloc (.cells #[.int .i64 7, .string nm, .bool mn, .slice la ln lc, .slice na nn nc, .slice ka kn kc, .slice aa an ac] 36) = V := ⟨_, rfl⟩
  have b0 : Below W.heap.size W V0 := by rw [← hV0]; exact below_alloc1 _ _
  have z0 : V0.heap.size = W.heap.size + 1 := by rw [← hV0]; simp
  have q0 : V0.heap[W.heap.size]? = some (.cells #[.int .i64 7, .string nm, .bool mn, .slice la ln lc, .slice na nn nc, .slice ka kn kc, .slice aa an ac] 36) := by rw [← hV0]; exact (MapKept.heap_alloc W _).1
  have HR := hide (hv.below b0)
  have HK := hide (BK.of (p := p) hnb b0)
  have HPP := hide hp
  have HQ : Hid (∀ V, BK p nb V0 V → V.cell? ⟨W.heap.size, 0, none⟩ = some (.int .i64 7) ∧ V.cell? ⟨W.heap.size, 4, none⟩ = some (.slice na nn nc) ∧ V.cell? ⟨W.heap.size, 5, none⟩ = some (.slice ka kn kc)) := fun V h => by
    have q := h.box (by decide) q0
    exact ⟨box_cell (i := 0) q rfl, box_cell (i := 4) q rfl, box_cell (i := 5) q rfl⟩
  have HNB : Hid (nb ≤ V0.heap.size) := by show _ ≤ _; omega
  have HSR : Hid (∀ V, BK p nb V0 V → SR V (fun c => c < nb) na nc L) := fun V h => (hsr.below b0 (fun c hc => by omega)).below h.1 (fun c hc => hc)
  have HRD := hide ((Rd.start h5 hs5).below b0 hnb)
  have HGD := hide hgd
  have HIH := hide ih
  have HSZ := hide hsz
  have HL := hide hl
  obtain ⟨X, hX⟩ : ∃ X, ([40, 108, 101, 116, 32] ++ sepB [59, 32] (List.zipWith (fun n t => bs n ++ [32, 61, 32] ++ t) L (KT kk)) ++ [32, 105, 110, 32] ++ (KT kk).getD L.length [] ++ [41]) = X := ⟨_, rfl⟩
  rw [hX]
  have HX0 := hide hX
  have HNN := hide hnn
  have HKN := hide hk0
  obtain ⟨c0, c4, c5⟩ := HQ.out V0 (BK.refl _ _ _)
  have HL1 : Hid (l.length + (bs ⟨#[40, 108, 101, 116, 32]⟩).length ≤ 70368744177664) := by
    have h := HL.out
    simp only [List.length_append, List.length_cons, List.length_nil] at h
    show l.length + 5 ≤ _
    omega
  have HV0 := hide hV0
  clear hV0 b0 q0 hv hnb z0 hl hX hp h5 hs5 hgd ih hsz hsr hnn hk0
  go_enter Try.func14, Try.ntmps14
  go_upto_region 1 with fail
  rw [HV0.out]
  clear HV0
  go_upto_region 34 with (at_builtin; refine str_step rfl _ _ rfl nb V0 v l ⟨#[40, 108, 101, 116, 32]⟩ rfl rfl HPP.out HNB.out HR.out HL1.out ?_; intro v1 w1 h1 k1; have HR1 := hide h1; have HK1 := hide k1; clear h1 k1)
  clear c0 c4 c5 HR
  have HRD1 := hide (HRD.out.bk HK1.out HNB.out)
  go_wp2_with fail
  go_loopw [0, 7] (fun s0 s7 wr => ∃ (i : Nat) (r : Fo) (vi : Value) (li : List UInt8), s0 = vi ∧ s7 = .int .i64 i ∧ i ≤ nn ∧ Hid (Rd E (E 3) kn nb ka i r wr) ∧ Hid ((li ++ restS [59, 32] (decide (i = 0)) (List.zipWith (fun n t => bs n ++ [32, 61, 32] ++ t) (L.drop i) (KT r)) = l ++ [40, 108, 101, 116, 32] ++ sepB [59, 32] (List.zipWith (fun n t => bs n ++ [32, 61, 32] ++ t) L (KT kk)) ∧ (KT kk).drop i = KT r) ∧ (rdK r).good ∧ (r.size ≤ m ∧ r.wt ≤ 1048576) ∧ l.length + 5 ≤ li.length) ∧ Hid (BR nb wr vi li) ∧ Hid (BK p nb V0 wr)) (fun _ s7 _ => nn - (intOf s7).toNat)
  case atStart => exact ⟨0, kk, v1, l ++ [40, 108, 101, 116, 32], rfl, rfl, Nat.zero_le _, HRD1, ⟨⟨by simp [restS], rfl⟩, HGD.out, HSZ.out, by simp⟩, HR1, HK1⟩
  case round =>
    obtain ⟨i, r, vi, li, rfl, rfl, hin, hRd, hinv, hBR, hBK⟩ := hrel
    obtain ⟨c0, c4, c5⟩ := HQ.out wr hBK.out
    have hNw : Hid (nb ≤ wr.heap.size) := Nat.le_trans HNB.out hBK.out.size
    have hik : i < kn := by have := HKN.out; omega
    obtain ⟨x, q, b, o, rfl, hx, rfl, hb', hc, hxs, hR1⟩ := hRd.out.next hik (by decide)
    obtain ⟨⟨g1, g6⟩, g2, ⟨g3, g4⟩, g5⟩ := hinv.out
    rw [KT_app hx] at g1 g6
    rw [goodK_app hx] at g2
    rw [Fo.app_size] at g3
    rw [Fo.app_wt] at g4
    have HT : Hid ((l ++ [40, 108, 101, 116, 32] ++ sepB [59, 32] (List.zipWith (fun n t => bs n ++ [32, 61, 32] ++ t) L (KT kk))).length ≤ 35184372088832) := by
      have h := HL.out
      simp only [List.length_append, List.length_cons, List.length_nil] at h
      show _ ≤ _
      simp only [List.length_append, List.length_cons, List.length_nil]
      omega
    by_cases hi : i < nn
    · have hii : (i : Int) < nn := by omega
      have hii2 : (i : Int) < kn := by omega
      obtain ⟨y, hy⟩ : ∃ y, L[i]? = some y := ⟨_, List.getElem?_eq_getElem (by rw [← HNN.out]; exact hi)⟩
      have hdr : L.drop i = y :: L.drop (i + 1) := by
        have hl : i < L.length := (List.getElem?_eq_some_iff.1 hy).1
        rw [List.drop_eq_getElem_cons hl, (List.getElem?_eq_some_iff.1 hy).2]
      rw [hdr, List.zipWith_cons_cons, restS_cons] at g1
      have g7 : (KT kk).drop (i + 1) = KT q := by
        rw [← List.drop_drop, g6]
        rfl
      have hne : L ≠ [] := fun e => by rw [e] at hy; simp at hy
      obtain ⟨nb2, no, rfl, hnb2, hrw⟩ := (HSR.out wr hBK.out).at_ hne
      have HCE : Hid (∀ V, BK p nb wr V → V.cell? ⟨nb2, no + i, none⟩ = some (.string y)) := fun V k => (k.1.cell (p := ⟨nb2, no + i, none⟩) hnb2).trans (hrw i y hy)
      obtain ⟨xk, xnm, xmn, xla, xln, xlc, xlk, xna, xnn, xnc, xnk, xka, xkn, xkc, xkk, xaa, xan, xac, xak, hxe, -⟩ := core_open hx
      have HVX : Hid (x.vals.toArray = #[.int .i64 xk, .string xnm, .bool xmn, .slice xla xln xlc, .slice xna xnn xnc, .slice xka xkn xkc, .slice xaa xan xac]) := by rw [hxe]; rfl
      have HS : Hid (∀ V, BK p nb V0 V → BK p nb wr V → V.cell? ⟨W.heap.size, 4, none⟩ = some (.slice (some ⟨nb2, no, none⟩) nn nc) ∧ V.cell? ⟨W.heap.size, 5, none⟩ = some (.slice (some ⟨b, o, none⟩) kn kc) ∧ V.cell? ⟨nb2, no + i, none⟩ = some (.string y) ∧ V.cell? ⟨b, o + i * 7, none⟩ = some (.int .i64 xk) ∧ V.cell? ⟨b, o + i * 7 + 1, none⟩ = some (.string xnm) ∧ V.cell? ⟨b, o + i * 7 + 2, none⟩ = some (.bool xmn) ∧ V.cell? ⟨b, o + i * 7 + 3, none⟩ = some (.slice xla xln xlc) ∧ V.cell? ⟨b, o + i * 7 + 4, none⟩ = some (.slice xna xnn xnc) ∧ V.cell? ⟨b, o + i * 7 + 5, none⟩ = some (.slice xka xkn xkc) ∧ V.cell? ⟨b, o + i * 7 + 6, none⟩ = some (.slice xaa xan xac)) := fun V h k => by
        obtain ⟨d0, d4, d5⟩ := HQ.out V h
        have hcx : Cel V x.vals b (o + i * 7) := hc.below k.1 hb'
        rw [hxe] at hcx
        exact ⟨d4, d5, HCE.out V k, hcx 0 _ rfl, hcx 1 _ rfl, hcx 2 _ rfl, hcx 3 _ rfl, hcx 4 _ rfl, hcx 5 _ rfl, hcx 6 _ rfl⟩
      have HC : Hid (∀ V u lu, BK p nb wr V → BR nb V u lu → 2 ≤ lu.length → lu.length + (fx x).length ≤ 35184372088832 → Calls Try.prog 14 #[u, .agg #[.int .i64 xk, .string xnm, .bool xmn, .slice xla xln xlc, .slice xna xnn xnc, .slice xka xkn xkc, .slice xaa xan xac]] V (FmP True nb V (lu ++ fx x))) := fun V u lu k hu hpu hlu => by
        rw [← HVX.out]
        exact HIH.out True x V u lu (fun _ => hpu) (by omega) hx g2.1 (by omega) (sub_bk hxs k) (Nat.le_trans hNw.out k.size) hu hlu
      have HG : Hid ((rdK q).good ∧ q.size ≤ m ∧ q.wt ≤ 1048576 ∧ (KT kk).drop (i + 1) = KT q) := ⟨g2.2, by omega, by omega, g7⟩
      have HR1' := hide hR1
      by_cases hi0 : i = 0
      · have hd : ¬ (0 : Int) < i := by omega
        have hd2 : ¬ 0 < i := by omega
        have HE : Hid ((li ++ bs y ++ [32, 61, 32] ++ fx x) ++ restS [59, 32] (decide (i + 1 = 0)) (List.zipWith (fun n t => bs n ++ [32, 61, 32] ++ t) (L.drop (i + 1)) (KT q)) = l ++ [40, 108, 101, 116, 32] ++ sepB [59, 32] (List.zipWith (fun n t => bs n ++ [32, 61, 32] ++ t) L (KT kk))) := by
          show _ = _
          rw [← g1]
          have e1 : decide (i = 0) = true := by simpa using hi0
          have e2 : decide (i + 1 = 0) = false := by simp
          rw [e1, e2]
          simp
        have HLN : Hid (li.length + 2 ≤ 70368744177664 ∧ li.length + (bs y).length ≤ 70368744177664 ∧ (li ++ bs y).length + 3 ≤ 70368744177664 ∧ 2 ≤ (li ++ bs y ++ [32, 61, 32]).length ∧ (li ++ bs y ++ [32, 61, 32]).length + (fx x).length ≤ 35184372088832) := by
          have h1 := congrArg List.length HE.out
          have h2 := HT.out
          rw [← h1] at h2
          simp only [List.length_append, List.length_cons, List.length_nil] at h2
          refine ⟨by omega, ?_, ?_, ?_, ?_⟩
          all_goals try simp only [List.length_append, List.length_cons, List.length_nil]
          all_goals omega
        have HPi : Hid (2 ≤ li.length ∧ 2 ≤ li.length ∧ 2 ≤ (li ++ bs y).length ∧ l.length + 5 ≤ li.length) := by
          refine ⟨by omega, ?_, ?_, g5⟩
          all_goals try simp only [List.length_append]
          all_goals omega
        clear hRd hinv g1 g2 g3 g4 g5 g6 g7 hc hxs hx hR1 hxe hi0 hrw hy hne hdr
        have HW5 : Hid (BK p nb wr wr) := BK.refl _ _ _
        go_upto_region 39 with fail
        have HD1 : Hid (BK p nb wr wr.drew) := HW5.out.trans (BK.of (Nat.le_trans hNw.out HW5.out.size) ((Below.refl _ _).drew))
        have HRa : Hid (BR nb wr.drew u0 li) := hBR.out.below ((Below.refl _ _).drew)
        have HNa : Hid (nb ≤ wr.drew.heap.size) := Nat.le_trans hNw.out HW5.out.size
        have kk0 := HS.out _ (hBK.out.trans HD1.out) HD1.out
        clear c0 c4 c5
        go_region_held3 (fun V => V.cell? ⟨W.heap.size, 4, none⟩ = some (.slice (some ⟨nb2, no, none⟩) nn nc) ∧ V.cell? ⟨W.heap.size, 5, none⟩ = some (.slice (some ⟨b, o, none⟩) kn kc) ∧ V.cell? ⟨nb2, no + i, none⟩ = some (.string y) ∧ V.cell? ⟨b, o + i * 7, none⟩ = some (.int .i64 xk) ∧ V.cell? ⟨b, o + i * 7 + 1, none⟩ = some (.string xnm) ∧ V.cell? ⟨b, o + i * 7 + 2, none⟩ = some (.bool xmn) ∧ V.cell? ⟨b, o + i * 7 + 3, none⟩ = some (.slice xla xln xlc) ∧ V.cell? ⟨b, o + i * 7 + 4, none⟩ = some (.slice xna xnn xnc) ∧ V.cell? ⟨b, o + i * 7 + 5, none⟩ = some (.slice xka xkn xkc) ∧ V.cell? ⟨b, o + i * 7 + 6, none⟩ = some (.slice xaa xan xac))
          (first | with_reducible exact kk0 | with_reducible exact kk1 | with_reducible exact kk2 | with_reducible exact kk3)
          (first
            | (refine str_draw (p := True) (by rfl) _ _ (by rfl) nb wr.drew u0 li y (by rfl) (by rfl) (fun _ => HPi.out.2.1) HNa.out HRa.out HLN.out.2.1 ?_; intro v1 w1 h1 k1; have HR1 := hide h1; have HW1 : Hid (BK p nb wr w1) := HD1.out.trans k1.any; have HN1 : Hid (nb ≤ w1.heap.size) := Nat.le_trans hNw.out HW1.out.size; have kk1 := HS.out w1 (hBK.out.trans HW1.out) HW1.out; clear h1 k1)
            | (refine str_draw (p := True) (by rfl) _ _ (by rfl) nb w1 v1 (li ++ bs y) ⟨#[32, 61, 32]⟩ (by rfl) (by rfl) (fun _ => HPi.out.2.2.1) HN1.out HR1.out HLN.out.2.2.1 ?_; intro v2 w2 h2 k2; have HR2 : Hid (BR nb w2 v2 (li ++ bs y ++ [32, 61, 32])) := h2; have HW2 : Hid (BK p nb wr w2) := HW1.out.trans k2.any; have HN2 : Hid (nb ≤ w2.heap.size) := Nat.le_trans hNw.out HW2.out.size; have kk2 := HS.out w2 (hBK.out.trans HW2.out) HW2.out; clear h2 k2)
            | (go_at_call 14; refine (HC.out w2 v2 (li ++ bs y ++ [32, 61, 32]) HW2.out HR2.out HLN.out.2.2.2.1 HLN.out.2.2.2.2).mono ?_; rintro e w3 ⟨v3, rfl, h3, k3⟩; have HR3 := hide h3; have HW3 : Hid (BK p nb wr w3) := HW2.out.trans k3.any; have kk3 := HS.out w3 (hBK.out.trans HW3.out) HW3.out; clear h3 k3)
            | fail)
        all_goals
          have HRn := hide (HR1'.out.bk HW3.out hNw.out)
          have HKn : Hid (BK p nb V0 w3) := hBK.out.trans HW3.out
          clear kk0 kk1 kk2 kk3
          go_wp2_with fail
          go_roundw
          case rel => exact ⟨i + 1, q, v3, _, rfl, by go_num, by omega, HRn, ⟨⟨HE.out, HG.out.2.2.2⟩, HG.out.1, ⟨HG.out.2.1, HG.out.2.2.1⟩, by have := HPi.out.2.2.2; simp only [List.length_append]; omega⟩, HR3, HKn⟩
          case measure => simp [intOf]; omega
      · have hd : (0 : Int) < i := by omega
        have hd2 : 0 < i := by omega
        have HE : Hid (((li ++ [59, 32]) ++ bs y ++ [32, 61, 32] ++ fx x) ++ restS [59, 32] (decide (i + 1 = 0)) (List.zipWith (fun n t => bs n ++ [32, 61, 32] ++ t) (L.drop (i + 1)) (KT q)) = l ++ [40, 108, 101, 116, 32] ++ sepB [59, 32] (List.zipWith (fun n t => bs n ++ [32, 61, 32] ++ t) L (KT kk))) := by
          show _ = _
          rw [← g1]
          have e1 : decide (i = 0) = false := by simpa using hi0
          have e2 : decide (i + 1 = 0) = false := by simp
          rw [e1, e2]
          simp
        have HLN : Hid (li.length + 2 ≤ 70368744177664 ∧ (li ++ [59, 32]).length + (bs y).length ≤ 70368744177664 ∧ ((li ++ [59, 32]) ++ bs y).length + 3 ≤ 70368744177664 ∧ 2 ≤ ((li ++ [59, 32]) ++ bs y ++ [32, 61, 32]).length ∧ ((li ++ [59, 32]) ++ bs y ++ [32, 61, 32]).length + (fx x).length ≤ 35184372088832) := by
          have h1 := congrArg List.length HE.out
          have h2 := HT.out
          rw [← h1] at h2
          simp only [List.length_append, List.length_cons, List.length_nil] at h2
          refine ⟨by omega, ?_, ?_, ?_, ?_⟩
          all_goals try simp only [List.length_append, List.length_cons, List.length_nil]
          all_goals omega
        have HPi : Hid (2 ≤ li.length ∧ 2 ≤ (li ++ [59, 32]).length ∧ 2 ≤ ((li ++ [59, 32]) ++ bs y).length ∧ l.length + 5 ≤ li.length) := by
          refine ⟨by omega, ?_, ?_, g5⟩
          all_goals try simp only [List.length_append, List.length_cons, List.length_nil]
          all_goals omega
        clear hRd hinv g1 g2 g3 g4 g5 g6 g7 hc hxs hx hR1 hxe hi0 hrw hy hne hdr
        go_upto_region 39 with (at_builtin; refine str_step (p := True) rfl _ _ rfl nb wr _ li ⟨#[59, 32]⟩ rfl rfl (fun _ => HPi.out.1) hNw.out (by exact hBR.out) HLN.out.1 ?_; intro v5 w5 h5 k5; have HR5 : Hid (BR nb w5 v5 (li ++ [59, 32])) := h5; have HW5 : Hid (BK p nb wr w5) := k5.any; clear h5 k5 c0 c4 c5; obtain ⟨c0, c4, c5⟩ := HQ.out w5 (hBK.out.trans HW5.out))
        have HD1 : Hid (BK p nb wr w5.drew) := HW5.out.trans (BK.of (Nat.le_trans hNw.out HW5.out.size) ((Below.refl _ _).drew))
        have HRa : Hid (BR nb w5.drew v5 (li ++ [59, 32])) := HR5.out.below ((Below.refl _ _).drew)
        have HNa : Hid (nb ≤ w5.drew.heap.size) := Nat.le_trans hNw.out HW5.out.size
        have kk0 := HS.out _ (hBK.out.trans HD1.out) HD1.out
        clear c0 c4 c5
        go_region_held3 (fun V => V.cell? ⟨W.heap.size, 4, none⟩ = some (.slice (some ⟨nb2, no, none⟩) nn nc) ∧ V.cell? ⟨W.heap.size, 5, none⟩ = some (.slice (some ⟨b, o, none⟩) kn kc) ∧ V.cell? ⟨nb2, no + i, none⟩ = some (.string y) ∧ V.cell? ⟨b, o + i * 7, none⟩ = some (.int .i64 xk) ∧ V.cell? ⟨b, o + i * 7 + 1, none⟩ = some (.string xnm) ∧ V.cell? ⟨b, o + i * 7 + 2, none⟩ = some (.bool xmn) ∧ V.cell? ⟨b, o + i * 7 + 3, none⟩ = some (.slice xla xln xlc) ∧ V.cell? ⟨b, o + i * 7 + 4, none⟩ = some (.slice xna xnn xnc) ∧ V.cell? ⟨b, o + i * 7 + 5, none⟩ = some (.slice xka xkn xkc) ∧ V.cell? ⟨b, o + i * 7 + 6, none⟩ = some (.slice xaa xan xac))
          (first | with_reducible exact kk0 | with_reducible exact kk1 | with_reducible exact kk2 | with_reducible exact kk3)
          (first
            | (refine str_draw (p := True) (by rfl) _ _ (by rfl) nb w5.drew v5 (li ++ [59, 32]) y (by rfl) (by rfl) (fun _ => HPi.out.2.1) HNa.out HRa.out HLN.out.2.1 ?_; intro v1 w1 h1 k1; have HR1 := hide h1; have HW1 : Hid (BK p nb wr w1) := HD1.out.trans k1.any; have HN1 : Hid (nb ≤ w1.heap.size) := Nat.le_trans hNw.out HW1.out.size; have kk1 := HS.out w1 (hBK.out.trans HW1.out) HW1.out; clear h1 k1)
            | (refine str_draw (p := True) (by rfl) _ _ (by rfl) nb w1 v1 ((li ++ [59, 32]) ++ bs y) ⟨#[32, 61, 32]⟩ (by rfl) (by rfl) (fun _ => HPi.out.2.2.1) HN1.out HR1.out HLN.out.2.2.1 ?_; intro v2 w2 h2 k2; have HR2 : Hid (BR nb w2 v2 ((li ++ [59, 32]) ++ bs y ++ [32, 61, 32])) := h2; have HW2 : Hid (BK p nb wr w2) := HW1.out.trans k2.any; have HN2 : Hid (nb ≤ w2.heap.size) := Nat.le_trans hNw.out HW2.out.size; have kk2 := HS.out w2 (hBK.out.trans HW2.out) HW2.out; clear h2 k2)
            | (go_at_call 14; refine (HC.out w2 v2 ((li ++ [59, 32]) ++ bs y ++ [32, 61, 32]) HW2.out HR2.out HLN.out.2.2.2.1 HLN.out.2.2.2.2).mono ?_; rintro e w3 ⟨v3, rfl, h3, k3⟩; have HR3 := hide h3; have HW3 : Hid (BK p nb wr w3) := HW2.out.trans k3.any; have kk3 := HS.out w3 (hBK.out.trans HW3.out) HW3.out; clear h3 k3)
            | fail)
        all_goals
          have HRn := hide (HR1'.out.bk HW3.out hNw.out)
          have HKn : Hid (BK p nb V0 w3) := hBK.out.trans HW3.out
          clear kk0 kk1 kk2 kk3
          go_wp2_with fail
          go_roundw
          case rel => exact ⟨i + 1, q, v3, _, rfl, by go_num, by omega, HRn, ⟨⟨HE.out, HG.out.2.2.2⟩, HG.out.1, ⟨HG.out.2.1, HG.out.2.2.1⟩, by have := HPi.out.2.2.2; simp only [List.length_append]; omega⟩, HR3, HKn⟩
          case measure => simp [intOf]; omega
    · obtain rfl : i = nn := by omega
      have hii : ¬ (i : Int) < i := by omega
      have hik2 : (i : Int) < kn := by omega
      have HE : Hid (li ++ [32, 105, 110, 32] ++ fx x ++ [41] = l ++ X) := by
        have e : L.drop i = [] := List.drop_eq_nil_of_le (by rw [HNN.out]; exact Nat.le_refl _)
        rw [e, List.zipWith_nil_left, restS_nil, List.append_nil] at g1
        have e2 : (KT kk).getD L.length [] = fx x := by
          rw [← HNN.out, List.getD_eq_getElem?_getD]
          have h := congrArg (fun M => M[0]?) g6
          simp only [List.getElem?_drop, Nat.add_zero, List.getElem?_cons_zero] at h
          rw [h]
          rfl
        show _ = _
        rw [g1, ← HX0.out, e2]
        simp
      have HT2 : Hid (li.length + 4 + (fx x).length + 1 ≤ 35184372088832) := by
        have h1 := congrArg List.length HE.out
        have h2 := HL.out
        rw [HX0.out] at h2
        simp only [List.length_append, List.length_cons, List.length_nil] at h1 h2
        show _ ≤ _
        omega
      have HPi : Hid (2 ≤ li.length) := by show _ ≤ _; omega
      obtain ⟨xk, xnm, xmn, xla, xln, xlc, xlk, xna, xnn, xnc, xnk, xka, xkn, xkc, xkk, xaa, xan, xac, xak, hxe, -⟩ := core_open hx
      have HVX : Hid (x.vals.toArray = #[.int .i64 xk, .string xnm, .bool xmn, .slice xla xln xlc, .slice xna xnn xnc, .slice xka xkn xkc, .slice xaa xan xac]) := by rw [hxe]; rfl
      have HS : Hid (∀ V, BK p nb V0 V → BK p nb wr V → V.cell? ⟨W.heap.size, 4, none⟩ = some (.slice na i nc) ∧ V.cell? ⟨W.heap.size, 5, none⟩ = some (.slice (some ⟨b, o, none⟩) kn kc) ∧ V.cell? ⟨b, o + i * 7, none⟩ = some (.int .i64 xk) ∧ V.cell? ⟨b, o + i * 7 + 1, none⟩ = some (.string xnm) ∧ V.cell? ⟨b, o + i * 7 + 2, none⟩ = some (.bool xmn) ∧ V.cell? ⟨b, o + i * 7 + 3, none⟩ = some (.slice xla xln xlc) ∧ V.cell? ⟨b, o + i * 7 + 4, none⟩ = some (.slice xna xnn xnc) ∧ V.cell? ⟨b, o + i * 7 + 5, none⟩ = some (.slice xka xkn xkc) ∧ V.cell? ⟨b, o + i * 7 + 6, none⟩ = some (.slice xaa xan xac)) := fun V h k => by
        obtain ⟨d0, d4, d5⟩ := HQ.out V h
        have hcx : Cel V x.vals b (o + i * 7) := hc.below k.1 hb'
        rw [hxe] at hcx
        exact ⟨d4, d5, hcx 0 _ rfl, hcx 1 _ rfl, hcx 2 _ rfl, hcx 3 _ rfl, hcx 4 _ rfl, hcx 5 _ rfl, hcx 6 _ rfl⟩
      have HC : Hid (∀ V u lu, BK p nb wr V → BR nb V u lu → 2 ≤ lu.length → lu.length + (fx x).length ≤ 35184372088832 → Calls Try.prog 14 #[u, .agg #[.int .i64 xk, .string xnm, .bool xmn, .slice xla xln xlc, .slice xna xnn xnc, .slice xka xkn xkc, .slice xaa xan xac]] V (FmP True nb V (lu ++ fx x))) := fun V u lu k hu hpu hlu => by
        rw [← HVX.out]
        exact HIH.out True x V u lu (fun _ => hpu) (by omega) hx g2.1 (by omega) (sub_bk hxs k) (Nat.le_trans hNw.out k.size) hu hlu
      have d1 : BK p nb wr wr.drew := BK.of hNw.out ((Below.refl _ _).drew)
      have d2 : BK p nb wr (wr.alloc (.cells #[.int .u8 41] 5)).drew := BK.of hNw.out ((below_alloc1 _ _).drew)
      have kk0 := HS.out _ (hBK.out.trans d1) d1
      have kk1 := HS.out _ (hBK.out.trans d2) d2
      have HD1 := hide d1
      have HD2 := hide d2
      have HRa : Hid (BR nb wr.drew u0 li) := hBR.out.below ((Below.refl _ _).drew)
      have HRb : Hid (BR nb (wr.alloc (.cells #[.int .u8 41] 5)).drew u0 li) := hBR.out.below ((below_alloc1 _ _).drew)
      have HBb : Hid ((wr.alloc (.cells #[.int .u8 41] 5)).drew.heap[wr.heap.size]? = some (.cells #[.int .u8 41] 5)) := (MapKept.heap_alloc wr _).1
      have HNb : Hid (nb ≤ (wr.alloc (.cells #[.int .u8 41] 5)).drew.heap.size) := Nat.le_trans hNw.out d2.size
      have HT1 : Hid (li.length + (bs ⟨#[32, 105, 110, 32]⟩).length ≤ 70368744177664 ∧ 2 ≤ (li ++ [32, 105, 110, 32]).length ∧ (li ++ [32, 105, 110, 32]).length + (fx x).length ≤ 35184372088832 ∧ 2 ≤ (li ++ [32, 105, 110, 32] ++ fx x).length ∧ (li ++ [32, 105, 110, 32] ++ fx x).length + 1 ≤ 70368744177664) := by
        have h := HT2.out
        have h2 := HPi.out
        have e : (bs ⟨#[32, 105, 110, 32]⟩).length = 4 := rfl
        rw [e]
        simp only [List.length_append, List.length_cons, List.length_nil]
        exact ⟨by omega, by omega, by omega, by omega, by omega⟩
      have HKA : Hid (∀ w1, BK p nb wr w1 → BK p nb wr (w1.alloc (.cells #[.int .u8 41] 5))) := fun w1 k => k.trans (BK.of (Nat.le_trans hNw.out k.size) (below_alloc1 _ _))
      clear d1 d2 hinv g1 g2 g3 g4 g5 g6 hi hRd hc hxs hx hR1 hxe
      go_upto_region 40 with fail
      clear c0 c4 c5
      go_region_held3 (fun V => V.cell? ⟨W.heap.size, 4, none⟩ = some (.slice na i nc) ∧ V.cell? ⟨W.heap.size, 5, none⟩ = some (.slice (some ⟨b, o, none⟩) kn kc) ∧ V.cell? ⟨b, o + i * 7, none⟩ = some (.int .i64 xk) ∧ V.cell? ⟨b, o + i * 7 + 1, none⟩ = some (.string xnm) ∧ V.cell? ⟨b, o + i * 7 + 2, none⟩ = some (.bool xmn) ∧ V.cell? ⟨b, o + i * 7 + 3, none⟩ = some (.slice xla xln xlc) ∧ V.cell? ⟨b, o + i * 7 + 4, none⟩ = some (.slice xna xnn xnc) ∧ V.cell? ⟨b, o + i * 7 + 5, none⟩ = some (.slice xka xkn xkc) ∧ V.cell? ⟨b, o + i * 7 + 6, none⟩ = some (.slice xaa xan xac))
        (first | with_reducible exact kk0 | with_reducible exact kk1 | with_reducible exact kk2 | with_reducible exact kk2b | with_reducible exact kk3 | with_reducible exact kk3b | with_reducible exact kk4)
        (first
          | (refine str_draw (p := True) (by rfl) _ _ (by rfl) nb wr.drew u0 li ⟨#[32, 105, 110, 32]⟩ (by rfl) (by rfl) (fun _ => HPi.out) hNw.out HRa.out HT1.out.1 ?_; intro v1 w1 h1 k1; have HR1 : Hid (BR nb w1 v1 (li ++ [32, 105, 110, 32])) := h1; have HK1 : Hid (BK p nb wr w1) := HD1.out.trans k1.any; have HN1 : Hid (nb ≤ w1.heap.size) := Nat.le_trans hNw.out HK1.out.size; have kk2 := HS.out w1 (hBK.out.trans HK1.out) HK1.out; have kk2b := HS.out _ (hBK.out.trans (HKA.out w1 HK1.out)) (HKA.out w1 HK1.out); clear h1 k1)
          | (refine str_draw (p := True) (by rfl) _ _ (by rfl) nb (wr.alloc (.cells #[.int .u8 41] 5)).drew u0 li ⟨#[32, 105, 110, 32]⟩ (by rfl) (by rfl) (fun _ => HPi.out) HNb.out HRb.out HT1.out.1 ?_; intro v1 w1 h1 k1; have HR1 : Hid (BR nb w1 v1 (li ++ [32, 105, 110, 32])) := h1; have HK1 : Hid (BK p nb wr w1) := HD2.out.trans k1.any; have HN1 : Hid (nb ≤ w1.heap.size) := Nat.le_trans hNw.out HK1.out.size; have HBB : Hid (w1.heap[wr.heap.size]? = some (.cells #[.int .u8 41] 5)) := k1.2.2 trivial _ _ HBb.out; have kk2 := HS.out w1 (hBK.out.trans HK1.out) HK1.out; have kk2b := HS.out _ (hBK.out.trans (HKA.out w1 HK1.out)) (HKA.out w1 HK1.out); clear h1 k1)
          | (go_at_call 14; refine (HC.out w1 v1 (li ++ [32, 105, 110, 32]) HK1.out HR1.out HT1.out.2.1 HT1.out.2.2.1).mono ?_; rintro e w2 ⟨v2, rfl, h2, k2⟩; have HR2 := hide h2; have HK2 : Hid (BK p nb wr w2) := HK1.out.trans k2.any; have HN2 : Hid (nb ≤ w2.heap.size) := Nat.le_trans hNw.out HK2.out.size; have kk3 := HS.out w2 (hBK.out.trans HK2.out) HK2.out; have kk3b := HS.out _ (hBK.out.trans (HKA.out w2 HK2.out)) (HKA.out w2 HK2.out); (first | (have HBB2 := hide (k2.2.2 trivial _ _ HBB.out)) | skip); clear h2 k2)
          | (go_at_call 14; refine (HC.out (w1.alloc (.cells #[.int .u8 41] 5)) v1 (li ++ [32, 105, 110, 32]) (HKA.out w1 HK1.out) (HR1.out.below (below_alloc1 _ _)) HT1.out.2.1 HT1.out.2.2.1).mono ?_; rintro e w2 ⟨v2, rfl, h2, k2⟩; have HR2 := hide h2; have HK2 : Hid (BK p nb wr w2) := (HKA.out w1 HK1.out).trans k2.any; have HN2 : Hid (nb ≤ w2.heap.size) := Nat.le_trans hNw.out HK2.out.size; have kk3 := HS.out w2 (hBK.out.trans HK2.out) HK2.out; have HBB2 : Hid (w2.heap[w1.heap.size]? = some (.cells #[.int .u8 41] 5)) := k2.2.2 trivial _ _ (MapKept.heap_alloc w1 _).1; clear h2 k2)
          | (refine one_draw (p := True) (by rfl) _ _ (by rfl) nb w2 v2 (li ++ [32, 105, 110, 32] ++ fx x) [41] 1 rfl _ rfl _ (by rfl) (by rfl) (fun _ => HT1.out.2.2.2.1) HN2.out HR2.out HBB2.out HT1.out.2.2.2.2 ?_; intro v3 w3 h3 k3; have HR3 := hide h3; have HK3 : Hid (BK p nb wr w3) := HK2.out.trans k3.any; have kk4 := HS.out w3 (hBK.out.trans HK3.out) HK3.out; clear h3 k3)
          | (refine one_draw (p := True) (by rfl) _ _ (by rfl) nb (w2.alloc (.cells #[.int .u8 41] 5)) v2 (li ++ [32, 105, 110, 32] ++ fx x) [41] 1 rfl _ rfl w2.heap.size (by rfl) (by rfl) (fun _ => HT1.out.2.2.2.1) (Nat.le_trans HN2.out (by simp)) (HR2.out.below (below_alloc1 _ _)) (MapKept.heap_alloc w2 _).1 HT1.out.2.2.2.2 ?_; intro v3 w3 h3 k3; have HR3 := hide h3; have HK3 : Hid (BK p nb wr w3) := (HKA.out w2 HK2.out).trans k3.any; have kk4 := HS.out w3 (hBK.out.trans HK3.out) HK3.out; clear h3 k3)
          | fail)
      all_goals
        go_wp2_with fail
        go_ret
        exact ⟨_, rfl, by rw [← HE.out]; exact HR3.out, (HK.out.trans hBK.out).trans HK3.out⟩

end Go.Proofs.Ytppfohpgcofkbaa
