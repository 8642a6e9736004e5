import Derived.Test.YtppfohpgcofkbaaGg
namespace Go.Proofs.Ytppfohpgcofkbaa
open Go.RowKit Go.Joins

/-- A kid in memory. -/
theorem kid_at {nb : Nat} {V0 : World} {x : Fo} {b o : Nat} (hx : Fit E x (E 3)) (hc : Cel V0 x.vals b o) (hb : b < nb) : ∃ (xk : Int) (xnm : ByteArray) (xmn : Bool) (xla : Option Addr) (xln xlc : Nat) (xna : Option Addr) (xnn xnc : Nat) (xka : Option Addr) (xkn xkc : Nat) (xaa : Option Addr) (xan xac : Nat), x.vals.toArray = #[.int .i64 xk, .string xnm, .bool xmn, .slice xla xln xlc, .slice xna xnn xnc, .slice xka xkn xkc, .slice xaa xan xac] ∧ ∀ (p : Prop) (V : World), BK p nb V0 V → V.cell? ⟨b, o, none⟩ = some (.int .i64 xk) ∧ V.cell? ⟨b, o + 1, none⟩ = some (.string xnm) ∧ V.cell? ⟨b, o + 2, none⟩ = some (.bool xmn) ∧ V.cell? ⟨b, o + 3, none⟩ = some (.slice xla xln xlc) ∧ V.cell? ⟨b, o + 4, none⟩ = some (.slice xna xnn xnc) ∧ V.cell? ⟨b, o + 5, none⟩ = some (.slice xka xkn xkc) ∧ V.cell? ⟨b, o + 6, none⟩ = some (.slice xaa xan xac) := by
  obtain ⟨xk, xnm, xmn, xla, xln, xlc, xlk, xna, xnn, xnc, xnk, xka, xkn, xkc, xkk, xaa, xan, xac, xak, hxe, -⟩ := core_open hx
  refine ⟨xk, xnm, xmn, xla, xln, xlc, xna, xnn, xnc, xka, xkn, xkc, xaa, xan, xac, by rw [hxe]; rfl, fun p V h => ?_⟩
  have hcx : Cel V x.vals b o := hc.below h.1 hb
  rw [hxe] at hcx
  exact ⟨hcx 0 _ rfl, hcx 1 _ rfl, hcx 2 _ rfl, hcx 3 _ rfl, hcx 4 _ rfl, hcx 5 _ rfl, hcx 6 _ rfl⟩

set_option maxHeartbeats 8000000 in
set_option maxRecDepth 100000 in
theorem fm_8 (p : Prop) (nb m : Nat) (ih : FmC nb m) (nm : ByteArray) (mn : Bool) (la : Option Addr) (ln lc : Nat) (na : Option Addr) (nn nc : Nat) (ka : Option Addr) (kn kc : Nat) (aa : Option Addr) (an ac : Nat) (NP : List UInt8) (kk ak : Fo) (W : World) (v : Value) (l : List UInt8) (hp : p → 2 ≤ l.length) (hnb : nb ≤ W.heap.size) (hv : BR nb W v l) (hNP : (nm.toList = [] ∧ NP = []) ∨ (¬ nm.toList = [] ∧ NP = bs nm ++ [32])) (h5 : Fit E kk (rep (E 3) kn)) (hs5 : kk.Sub W (fun c => c < nb) ka kn kc) (hgd : (rdK kk).good) (h6 : Fit E ak (rep (E 2) an)) (hs6 : ak.Sub W (fun c => c < nb) aa an ac) (hga : (rdA ak).good) (hsz : (kk.size ≤ m ∧ kk.wt ≤ 1048576) ∧ ak.size ≤ m ∧ ak.wt ≤ 1048576) (hk0 : kn = 1 ∨ kn = 2) (hax : an ≤ 16777216) (hl : l.length + ([40, 99, 97, 115, 101, 32] ++ (KT kk).headD [] ++ [32, 111, 102, 32] ++ NP ++ [123, 32] ++ sepB [59, 32] (AT ak ++ ((KT kk).drop 1).map (fun t => [95, 32, 45, 62, 32] ++ t)) ++ [32, 125, 41]).length ≤ 35184372088832) :
    Calls Try.prog 14 #[v, .agg #[.int .i64 8, .string nm, .bool mn, .slice la ln lc, .slice na nn nc, .slice ka kn kc, .slice aa an ac]] W (FmP p nb W (l ++ ([40, 99, 97, 115, 101, 32] ++ (KT kk).headD [] ++ [32, 111, 102, 32] ++ NP ++ [123, 32] ++ sepB [59, 32] (AT ak ++ ((KT kk).drop 1).map (fun t => [95, 32, 45, 62, 32] ++ t)) ++ [32, 125, 41]))) := by
  obtain ⟨V0, hV0⟩ : ∃ V, W.alloc (.cells #[.int .i64 8, .string nm, .bool mn, .slice la ln lc, .slice na nn nc, .slice ka kn kc, .slice aa an ac] 36) = V := ⟨_, rfl⟩
  have b0 : Below W.heap.size W V0 := by rw [← hV0]; exact below_alloc1 _ _
  have z0 : V0.heap.size = W.heap.size + 1 := by rw [← hV0]; simp
  have q0 : V0.heap[W.heap.size]? = some (.cells #[.int .i64 8, .string nm, .bool mn, .slice la ln lc, .slice na nn nc, .slice ka kn kc, .slice aa an ac] 36) := by rw [← hV0]; exact (MapKept.heap_alloc W _).1
  have HR := hide (hv.below b0)
  have HK := hide (BK.of (p := p) hnb b0)
  have HPP := hide hp
  obtain ⟨x, q, b, o, rfl, hx, rfl, hb', hc, hxs, hR1⟩ := ((Rd.start h5 hs5).below b0 hnb).next (by rcases hk0 with h | h <;> omega) (by decide)
  rw [KT_app hx, List.headD_cons, List.drop_succ_cons, List.drop_zero] at hl ⊢
  rw [goodK_app hx] at hgd
  rw [Fo.app_size, Fo.app_wt] at hsz
  obtain ⟨xk, xnm, xmn, xla, xln, xlc, xna, xnn, xnc, xka, xkn, xkc, xaa, xan, xac, hvx, hkx⟩ := kid_at hx (o := o) (by simpa using hc) hb'
  have HQ : Hid (∀ V, BK p nb V0 V → V.cell? ⟨W.heap.size, 0, none⟩ = some (.int .i64 8) ∧ V.cell? ⟨W.heap.size, 1, none⟩ = some (.string nm) ∧ V.cell? ⟨W.heap.size, 5, none⟩ = some (.slice (some ⟨b, o, none⟩) kn kc) ∧ V.cell? ⟨W.heap.size, 6, none⟩ = some (.slice aa an ac)) := fun V h => by
    have q := h.box (by decide) q0
    exact ⟨box_cell (i := 0) q rfl, box_cell (i := 1) q rfl, box_cell (i := 5) q rfl, box_cell (i := 6) q rfl⟩
  have HS0 : Hid (∀ V, BK p nb V0 V → V.cell? ⟨W.heap.size, 5, none⟩ = some (.slice (some ⟨b, o, none⟩) kn kc) ∧ V.cell? ⟨b, o, none⟩ = some (.int .i64 xk) ∧ V.cell? ⟨b, o + 1, none⟩ = some (.string xnm) ∧ V.cell? ⟨b, o + 2, none⟩ = some (.bool xmn) ∧ V.cell? ⟨b, o + 3, none⟩ = some (.slice xla xln xlc) ∧ V.cell? ⟨b, o + 4, none⟩ = some (.slice xna xnn xnc) ∧ V.cell? ⟨b, o + 5, none⟩ = some (.slice xka xkn xkc) ∧ V.cell? ⟨b, o + 6, none⟩ = some (.slice xaa xan xac)) := fun V h => ⟨(HQ.out V h).2.2.1, hkx p V h⟩
  have HNB : Hid (nb ≤ V0.heap.size) := by show _ ≤ _; omega
  have HC0 : Hid (∀ V u lu, BK p nb V0 V → BR nb V u lu → 2 ≤ lu.length → lu.length + (fx x).length ≤ 35184372088832 → Calls Try.prog 14 #[u, .agg #[.int .i64 xk, .string xnm, .bool xmn, .slice xla xln xlc, .slice xna xnn xnc, .slice xka xkn xkc, .slice xaa xan xac]] V (FmP True nb V (lu ++ fx x))) := fun V u lu k hu hpu hlu => by
    rw [← hvx]
    exact ih True x V u lu (fun _ => hpu) (by omega) hx hgd.1 (by omega) (sub_bk hxs k) (Nat.le_trans HNB.out k.size) hu hlu
  have HRA := hide ((Rd.start h6 hs6).below b0 hnb)
  have HRK := hide hR1
  have HGD : Hid ((rdK q).good ∧ (rdA ak).good) := ⟨hgd.2, hga⟩
  have HSZ : Hid ((q.size ≤ m ∧ q.wt ≤ 1048576) ∧ ak.size ≤ m ∧ ak.wt ≤ 1048576) := by
    obtain ⟨⟨h1, h2⟩, h3⟩ := hsz
    exact ⟨⟨by omega, by omega⟩, h3⟩
  have HIH := hide ih
  have HL := hide hl
  have HK0 := hide hk0
  obtain ⟨D, hD⟩ : ∃ D, (KT q).map (fun t => [95, 32, 45, 62, 32] ++ t) = D := ⟨_, rfl⟩
  obtain ⟨X, hX⟩ : ∃ X, ([40, 99, 97, 115, 101, 32] ++ fx x ++ [32, 111, 102, 32] ++ NP ++ [123, 32] ++ sepB [59, 32] (AT ak ++ (KT q).map (fun t => [95, 32, 45, 62, 32] ++ t)) ++ [32, 125, 41]) = X := ⟨_, rfl⟩
  rw [hX]
  rw [hX] at HL
  rw [hD] at hX
  have HX0 := hide hX
  have HD := hide hD
  obtain ⟨l2, hl2⟩ : ∃ l2, l2 = l ++ [40, 99, 97, 115, 101, 32] ++ fx x ++ [32, 111, 102, 32] ++ NP := ⟨_, rfl⟩
  have HL2 := hide hl2
  have HLX : Hid (l2.length + 2 + (sepB [59, 32] (AT ak ++ D)).length + 3 ≤ 35184372088832 ∧ l.length + 6 + (fx x).length + 4 + NP.length ≤ 35184372088832 ∧ l.length + 6 ≤ l2.length) := by
    have h := HL.out
    rw [← HX0.out] at h
    rw [hl2]
    simp only [List.length_append, List.length_cons, List.length_nil] at h ⊢
    exact ⟨by omega, by omega, by omega⟩
  obtain ⟨c0, c1, c5, c6⟩ := HQ.out V0 (BK.refl _ _ _)
  have HL1 : Hid (l.length + (bs ⟨#[40, 99, 97, 115, 101, 32]⟩).length ≤ 70368744177664 ∧ 2 ≤ (l ++ [40, 99, 97, 115, 101, 32]).length ∧ (l ++ [40, 99, 97, 115, 101, 32]).length + (fx x).length ≤ 35184372088832 ∧ 2 ≤ (l ++ [40, 99, 97, 115, 101, 32] ++ fx x).length ∧ (l ++ [40, 99, 97, 115, 101, 32] ++ fx x).length + (bs ⟨#[32, 111, 102, 32]⟩).length ≤ 70368744177664 ∧ 2 ≤ (l ++ [40, 99, 97, 115, 101, 32] ++ fx x ++ [32, 111, 102, 32]).length ∧ (l ++ [40, 99, 97, 115, 101, 32] ++ fx x ++ [32, 111, 102, 32]).length + NP.length ≤ 70368744177664) := by
    have h := HLX.out.2.1
    have e : (bs ⟨#[40, 99, 97, 115, 101, 32]⟩).length = 6 := rfl
    have e2 : (bs ⟨#[32, 111, 102, 32]⟩).length = 4 := rfl
    rw [e, e2]
    simp only [List.length_append, List.length_cons, List.length_nil]
    exact ⟨by omega, by omega, by omega, by omega, by omega, by omega, by omega⟩
  have d1 : BK p nb V0 V0.drew := BK.of HNB.out ((Below.refl _ _).drew)
  have kk0 := HS0.out _ d1
  have HD1 := hide d1
  have HRa : Hid (BR nb V0.drew v l) := HR.out.below ((Below.refl _ _).drew)
  have hki : (0 : Int) < kn := by rcases hk0 with h | h <;> omega
  have hki2 : 0 < kn := by rcases hk0 with h | h <;> omega
  have HNP := hide hNP
  have HV0 := hide hV0
  clear hV0 b0 q0 hv hnb z0 hl hX hD hp h5 hs5 h6 hs6 hgd hga ih hsz hx hc hxs hR1 hb' hvx hkx hk0 d1 hl2 hNP
  go_enter Try.func14, Try.ntmps14
  go_upto_region 1 with fail
  rw [HV0.out]
  clear HV0
  go_upto_region 41 with fail
  clear c0 c1 c5 c6
  go_region_held3 (fun V => V.cell? ⟨W.heap.size, 5, none⟩ = some (.slice (some ⟨b, o, none⟩) kn kc) ∧ V.cell? ⟨b, o, none⟩ = some (.int .i64 xk) ∧ V.cell? ⟨b, o + 1, none⟩ = some (.string xnm) ∧ V.cell? ⟨b, o + 2, none⟩ = some (.bool xmn) ∧ V.cell? ⟨b, o + 3, none⟩ = some (.slice xla xln xlc) ∧ V.cell? ⟨b, o + 4, none⟩ = some (.slice xna xnn xnc) ∧ V.cell? ⟨b, o + 5, none⟩ = some (.slice xka xkn xkc) ∧ V.cell? ⟨b, o + 6, none⟩ = some (.slice xaa xan xac))
    (first | with_reducible exact kk0 | with_reducible exact kk1 | with_reducible exact kk2)
    (first
      | (refine str_draw (p := p) (by rfl) _ _ (by rfl) nb V0.drew v l ⟨#[40, 99, 97, 115, 101, 32]⟩ (by rfl) (by rfl) HPP.out HNB.out HRa.out HL1.out.1 ?_; intro v1 w1 h1 k1; have HR1 : Hid (BR nb w1 v1 (l ++ [40, 99, 97, 115, 101, 32])) := h1; have HK1 : Hid (BK p nb V0 w1) := HD1.out.trans k1; have kk1 := HS0.out w1 HK1.out; clear h1 k1)
      | (go_at_call 14; refine (HC0.out w1 v1 (l ++ [40, 99, 97, 115, 101, 32]) HK1.out HR1.out HL1.out.2.1 HL1.out.2.2.1).mono ?_; rintro e w2 ⟨v2, rfl, h2, k2⟩; have HR2 := hide h2; have HK2 : Hid (BK p nb V0 w2) := HK1.out.trans k2.any; have HN2 : Hid (nb ≤ w2.heap.size) := Nat.le_trans HNB.out HK2.out.size; have kk2 := HS0.out w2 HK2.out; clear h2 k2)
      | fail)
  all_goals
    clear kk0 kk1 kk2 HR HRa HR1 HK1 HD1 HC0 HS0
    obtain ⟨c0, c1, c5, c6⟩ := HQ.out w2 HK2.out
    go_upto_if 168 with (at_builtin; refine str_step (p := True) rfl _ _ rfl nb w2 v2 (l ++ [40, 99, 97, 115, 101, 32] ++ fx x) ⟨#[32, 111, 102, 32]⟩ rfl rfl (fun _ => HL1.out.2.2.2.1) HN2.out HR2.out HL1.out.2.2.2.2.1 ?_; intro v3 w3 h3 k3; have HR3 : Hid (BR nb w3 v3 (l ++ [40, 99, 97, 115, 101, 32] ++ fx x ++ [32, 111, 102, 32])) := h3; have HK3 : Hid (BK p nb V0 w3) := HK2.out.trans k3.any; have HN3 : Hid (nb ≤ w3.heap.size) := Nat.le_trans HNB.out HK3.out.size; clear h3 k3 c0 c1 c5 c6; obtain ⟨c0, c1, c5, c6⟩ := HQ.out w3 HK3.out)
    clear HR2 HK2 HN2
    go_cut [0] (fun s0 wx => ∃ v4, s0 = v4 ∧ Hid (BR nb wx v4 l2) ∧ Hid (BK p nb V0 wx))
    case first =>
      rcases HNP.out with ⟨hn1, hn2⟩ | ⟨hn1, hn2⟩
      · have HE : Hid (l ++ [40, 99, 97, 115, 101, 32] ++ fx x ++ [32, 111, 102, 32] = l2) := by show _ = _; rw [HL2.out, hn2, List.append_nil]
        have hn3 : nm.toList.isEmpty = true := by rw [hn1]; rfl
        have hn4 : (nm.toList == []) = true := by rw [hn1]; rfl
        clear hn1 hn2
        rw [hn3, Bool.not_true]
        go_wp2_with fail
        go_meet
        case rel => exact ⟨_, rfl, by rw [← HE.out]; exact HR3, HK3⟩
      · obtain ⟨hn3, hn4⟩ := text_facts hn1
        have HE : Hid (l ++ [40, 99, 97, 115, 101, 32] ++ fx x ++ [32, 111, 102, 32] ++ bs nm ++ [32] = l2) := by show _ = _; rw [HL2.out, hn2]; simp
        have HLn : Hid ((l ++ [40, 99, 97, 115, 101, 32] ++ fx x ++ [32, 111, 102, 32]).length + (bs nm).length ≤ 70368744177664 ∧ 2 ≤ (l ++ [40, 99, 97, 115, 101, 32] ++ fx x ++ [32, 111, 102, 32] ++ bs nm).length ∧ (l ++ [40, 99, 97, 115, 101, 32] ++ fx x ++ [32, 111, 102, 32] ++ bs nm).length + 1 ≤ 70368744177664) := by
          have h := HLX.out.2.1
          rw [hn2] at h
          simp only [List.length_append, List.length_cons, List.length_nil] at h ⊢
          exact ⟨by omega, by omega, by omega⟩
        clear hn2
        rw [hn3, Bool.not_false]
        go_wp2_with (first
          | (at_builtin; refine str_step (p := True) rfl _ _ rfl nb w3 v3 (l ++ [40, 99, 97, 115, 101, 32] ++ fx x ++ [32, 111, 102, 32]) nm rfl rfl (fun _ => HL1.out.2.2.2.2.2.1) HN3.out HR3.out HLn.out.1 ?_; intro v5 w5 h5 k5; have HR5 := hide h5; have HK5 : Hid (BK p nb V0 w5) := HK3.out.trans k5.any; have HN5 : Hid (nb ≤ w5.heap.size) := Nat.le_trans HNB.out HK5.out.size; clear h5 k5 c0 c1 c5 c6; obtain ⟨c0, c1, c5, c6⟩ := HQ.out w5 HK5.out)
          | (at_builtin; refine one_step (p := True) rfl _ _ rfl nb _ v5 (l ++ [40, 99, 97, 115, 101, 32] ++ fx x ++ [32, 111, 102, 32] ++ bs nm) [32] 1 rfl _ rfl w5.heap.size rfl rfl (fun _ => HLn.out.2.1) (Nat.le_trans HN5.out (by simp)) (HR5.out.below (below_alloc1 _ _)) (MapKept.heap_alloc w5 _).1 HLn.out.2.2 ?_; intro v6 w6 h6 k6; have HR6 := hide h6; have HK6 : Hid (BK p nb V0 w6) := (HK5.out.trans (BK.of HN5.out (below_alloc1 w5 _))).trans k6.any; clear h6 k6))
        go_meet
        case rel => exact ⟨_, rfl, by rw [← HE.out]; exact HR6, HK6⟩
    case rest =>
      obtain ⟨v4, rfl, hR4, hK4⟩ := hcut
      have HN4 : Hid (nb ≤ wc.heap.size) := Nat.le_trans HNB.out hK4.out.size
      have HP4 : Hid (2 ≤ l2.length ∧ l2.length + (bs ⟨#[123, 32]⟩).length ≤ 70368744177664) := by
        have h := HLX.out
        have e : (bs ⟨#[123, 32]⟩).length = 2 := rfl
        rw [e]
        exact ⟨by omega, by omega⟩
      clear HR3 HK3 HN3 c0 c1 c5 c6
      obtain ⟨c0, c1, c5, c6⟩ := HQ.out wc hK4.out
      go_upto_region 46 with (at_builtin; refine str_step (p := True) rfl _ _ rfl nb wc _ l2 ⟨#[123, 32]⟩ rfl rfl (fun _ => HP4.out.1) HN4.out (by exact hR4.out) HP4.out.2 ?_; intro v5 w5 h5 k5; have HR5 : Hid (BR nb w5 v5 (l2 ++ [123, 32])) := h5; have HK5 : Hid (BK p nb V0 w5) := hK4.out.trans k5.any; clear h5 k5)
      clear c0 c1 c5 c6 hR4 HN4
      have HT3 : Hid ((l2 ++ [123, 32] ++ sepB [59, 32] (AT ak ++ D)).length + 3 ≤ 35184372088832) := by
        have h := HLX.out.1
        show _ ≤ _
        simp only [List.length_append, List.length_cons, List.length_nil]
        omega
      go_wp2_with fail
      go_loopw [0, 8] (fun s0 s8 wr => ∃ (i : Nat) (r : Fo) (vi : Value) (li : List UInt8), s0 = vi ∧ s8 = .int .i64 i ∧ i ≤ an ∧ Hid (Rd E (E 2) an nb aa i r V0) ∧ Hid (li ++ restS [59, 32] (decide (i = 0)) (AT r ++ D) = l2 ++ [123, 32] ++ sepB [59, 32] (AT ak ++ D) ∧ (rdA r).good ∧ (r.size ≤ m ∧ r.wt ≤ 1048576) ∧ l2.length + 2 ≤ li.length) ∧ Hid (BR nb wr vi li) ∧ Hid (BK p nb V0 wr)) (fun _ s8 _ => an - (intOf s8).toNat)
      case atStart => exact ⟨0, ak, v5, l2 ++ [123, 32], rfl, rfl, Nat.zero_le _, HRA, ⟨by simp [restS], HGD.out.2, HSZ.out.2, by simp⟩, HR5, HK5⟩
      case round =>
        obtain ⟨i, r, vi, li, rfl, rfl, hin, hRd, hinv, hBR, hBK⟩ := hrel
        obtain ⟨c0, c1, c5, c6⟩ := HQ.out wr hBK.out
        have hNw : Hid (nb ≤ wr.heap.size) := Nat.le_trans HNB.out hBK.out.size
        by_cases hi : i < an
        · obtain ⟨x9, q9, ab, ao, rfl, hx9, rfl, hb9, hc9, hxs9, hR9⟩ := hRd.out.next hi (by decide)
          have hii : (i : Int) < an := by omega
          obtain ⟨g1, g2, ⟨g3, g4⟩, g5⟩ := hinv.out
          obtain ⟨con, ca, cn, cc, ck, y, hxe, hcon, hck, hy, hAT⟩ := AT_app hx9 q9
          obtain ⟨con', ca', cn', cc', ck', y', hxe', hy', hgA⟩ := goodA_app hx9 q9
          rw [hxe] at hxe'
          injection hxe' with e1 e2
          injection e2 with e3 e4 e5 e6 e7
          subst e7
          rw [hAT] at g1
          rw [hgA] at g2
          rw [Fo.app_size] at g3
          rw [Fo.app_wt] at g4
          have hysz : y.size ≤ x9.size ∧ y.wt ≤ x9.wt := by rw [hxe]; simp only [Fo.size, Fo.wt]; omega
          rw [List.cons_append, restS_cons] at g1
          rw [hxe] at hc9 hxs9
          simp only [Fo.vals] at hc9
          have hcy : Cel V0 y.vals ab (ao + i * 9 + 2) := fun j v hv => by
            have h := hc9 (j + 2) v (by simpa using hv)
            have e : ao + i * 9 + (j + 2) = ao + i * 9 + 2 + j := by omega
            have e9 : (E 2).length = 9 := rfl
            rw [e9, e] at h
            exact h
          obtain ⟨hsr, hln⟩ := sr_of hck hxs9.1
          obtain ⟨zk, znm, zmn, zla, zln, zlc, zna, znn, znc, zka, zkn, zkc, zaa, zan, zac, hvy, hky⟩ := kid_at hy hcy hb9
          have hc0 : V0.cell? ⟨ab, ao + i * 9, none⟩ = some (.string con) := hc9 0 _ rfl
          have hc1 : V0.cell? ⟨ab, ao + i * 9 + 1, none⟩ = some (.slice ca cn cc) := hc9 1 _ rfl
          have HSA : Hid (∀ V, BK p nb V0 V → V.cell? ⟨W.heap.size, 6, none⟩ = some (.slice (some ⟨ab, ao, none⟩) an ac) ∧ V.cell? ⟨ab, ao + i * 9, none⟩ = some (.string con) ∧ V.cell? ⟨ab, ao + i * 9 + 1, none⟩ = some (.slice ca cn cc)) := fun V h => ⟨(HQ.out V h).2.2.2, (h.1.cell (p := ⟨ab, ao + i * 9, none⟩) hb9).trans hc0, (h.1.cell (p := ⟨ab, ao + i * 9 + 1, none⟩) hb9).trans hc1⟩
          have HSB : Hid (∀ V, BK p nb V0 V → V.cell? ⟨W.heap.size, 6, none⟩ = some (.slice (some ⟨ab, ao, none⟩) an ac) ∧ V.cell? ⟨ab, ao + i * 9 + 2, none⟩ = some (.int .i64 zk) ∧ V.cell? ⟨ab, ao + i * 9 + 2 + 1, none⟩ = some (.string znm) ∧ V.cell? ⟨ab, ao + i * 9 + 2 + 2, none⟩ = some (.bool zmn) ∧ V.cell? ⟨ab, ao + i * 9 + 2 + 3, none⟩ = some (.slice zla zln zlc) ∧ V.cell? ⟨ab, ao + i * 9 + 2 + 4, none⟩ = some (.slice zna znn znc) ∧ V.cell? ⟨ab, ao + i * 9 + 2 + 5, none⟩ = some (.slice zka zkn zkc) ∧ V.cell? ⟨ab, ao + i * 9 + 2 + 6, none⟩ = some (.slice zaa zan zac)) := fun V h => ⟨(HQ.out V h).2.2.2, hky p V h⟩
          have HCY : Hid (∀ V u lu, BK p nb V0 V → BR nb V u lu → 2 ≤ lu.length → lu.length + (fx y).length ≤ 35184372088832 → Calls Try.prog 14 #[u, .agg #[.int .i64 zk, .string znm, .bool zmn, .slice zla zln zlc, .slice zna znn znc, .slice zka zkn zkc, .slice zaa zan zac]] V (FmP True nb V (lu ++ fx y))) := fun V u lu k hu hpu hlu => by
            rw [← hvy]
            exact HIH.out True y V u lu (fun _ => hpu) (by omega) hy g2.1 (by omega) (sub_bk hxs9.2 k) (Nat.le_trans HNB.out k.size) hu hlu
          have HSR : Hid (∀ V, BK p nb V0 V → SR V (fun c => c < nb) ca cc (rdS ck)) := fun V h => hsr.below h.1 (fun c hc => hc)
          have HLNN := hide hln
          have HRn := hide hR9
          have HG : Hid ((rdA q9).good ∧ q9.size ≤ m ∧ q9.wt ≤ 1048576) := ⟨g2.2, by omega, by omega⟩
          have hcnx : cn ≤ 16777216 := by
            have h : cn ≤ x9.wt := by rw [hxe]; simp only [Fo.wt]; omega
            omega
          obtain ⟨lA, hlA⟩ : ∃ lA, lA = li ++ (if decide (i = 0) = true then [] else [59, 32]) := ⟨_, rfl⟩
          obtain ⟨CS, hCS⟩ : ∃ CS, CS = (rdS ck).flatMap (fun x => [32] ++ bs x) := ⟨_, rfl⟩
          have HE : Hid (lA ++ bs con ++ CS ++ arrow ++ fx y ++ restS [59, 32] (decide (i + 1 = 0)) (AT q9 ++ D) = l2 ++ [123, 32] ++ sepB [59, 32] (AT ak ++ D)) := by
            show _ = _
            rw [← g1, hlA, hCS]
            have e2 : decide (i + 1 = 0) = false := by simp
            rw [e2]
            simp
          have HLA : Hid (lA.length + (bs con).length + CS.length + 4 + (fx y).length ≤ 35184372088832 ∧ 2 ≤ lA.length ∧ l2.length + 2 ≤ lA.length) := by
            have h1 := congrArg List.length HE.out
            have h2 := HT3.out
            rw [← h1] at h2
            have e4 : arrow.length = 4 := rfl
            simp only [List.length_append, e4] at h2
            have h3 : li.length ≤ lA.length := by rw [hlA, List.length_append]; omega
            exact ⟨by omega, by omega, by omega⟩
          have HPi : Hid (2 ≤ li.length ∧ li.length + 2 ≤ 70368744177664) := by
            have h := HLA.out
            have h3 : li.length ≤ lA.length := by rw [hlA, List.length_append]; omega
            exact ⟨by omega, by omega⟩
          have HAE := hide hlA
          have HCSE := hide hCS
          clear hRd hinv g1 g2 g3 g4 g5 hx9 hc9 hxs9 hR9 hxe e1 e3 e4 e5 e6 hy hy' hgA hAT hck hcon hcy hsr hln hvy hky hc0 hc1 hysz hb9 hlA hCS
          go_upto_if 185 with fail
          go_cut [0] (fun s0 wx => ∃ va, s0 = va ∧ Hid (BR nb wx va lA) ∧ Hid (BK p nb V0 wx))
          case first =>
            by_cases hi0 : i = 0
            · have HA0 : Hid (lA = li) := by show _ = _; rw [HAE.out]; simp [hi0]
              have hd : ¬ (0 : Int) < i := by omega
              have hd2 : ¬ 0 < i := by omega
              clear hi0
              go_wp2_with fail
              go_meet
              case rel => exact ⟨_, rfl, by rw [HA0.out]; exact hBR, hBK⟩
            · have HA0 : Hid (lA = li ++ [59, 32]) := by show _ = _; rw [HAE.out]; simp [hi0]
              have hd : (0 : Int) < i := by omega
              have hd2 : 0 < i := by omega
              clear hi0
              go_wp2_with (at_builtin; refine str_step (p := True) rfl _ _ rfl nb wr _ li ⟨#[59, 32]⟩ rfl rfl (fun _ => HPi.out.1) hNw.out (by exact hBR.out) HPi.out.2 ?_; intro v6 w6 h6 k6; have HR6 : Hid (BR nb w6 v6 (li ++ [59, 32])) := h6; have HK6 : Hid (BK p nb V0 w6) := hBK.out.trans k6.any; clear h6 k6)
              go_meet
              case rel => exact ⟨_, rfl, by rw [HA0.out]; exact HR6, HK6⟩
          case rest =>
            obtain ⟨va, rfl, hRA2, hKA2⟩ := hcut
            have HNA : Hid (nb ≤ wc.heap.size) := Nat.le_trans HNB.out hKA2.out.size
            clear c0 c1 c5 c6 hBR hBK hNw
            obtain ⟨a6, a0, a1⟩ := HSA.out wc hKA2.out
            go_upto_region 52 with (at_builtin; refine str_step (p := True) rfl _ _ rfl nb wc _ lA con rfl rfl (fun _ => HLA.out.2.1) HNA.out (by exact hRA2.out) (by have := HLA.out; omega) ?_; intro vB wB h6 k6; have HRB := hide h6; have HKB : Hid (BK p nb V0 wB) := hKA2.out.trans k6.any; clear h6 k6)
            clear a6 a0 a1 hRA2
            go_wp2_with fail
            go_loopw [0, 9] (fun s0 s9 wr => ∃ (k : Nat) (vk : Value) (lk : List UInt8), s0 = vk ∧ s9 = .int .i64 k ∧ k ≤ cn ∧ Hid (lk ++ ((rdS ck).drop k).flatMap (fun x => [32] ++ bs x) = lA ++ bs con ++ CS ∧ lA.length ≤ lk.length) ∧ Hid (BR nb wr vk lk) ∧ Hid (BK p nb V0 wr)) (fun _ s9 _ => cn - (intOf s9).toNat)
            case atStart => exact ⟨0, vB, lA ++ bs con, rfl, rfl, Nat.zero_le _, ⟨by rw [HCSE.out]; rfl, by simp⟩, HRB, HKB⟩
            case round =>
              obtain ⟨k, vk, lk, rfl, rfl, hkn, hinv, hBR, hBK⟩ := hrel
              have hNw : Hid (nb ≤ wr.heap.size) := Nat.le_trans HNB.out hBK.out.size
              obtain ⟨g1, g5⟩ := hinv.out
              obtain ⟨a6, a0, a1⟩ := HSA.out wr hBK.out
              by_cases hk : k < cn
              · have hkk : (k : Int) < cn := by omega
                obtain ⟨z, hz⟩ : ∃ z, (rdS ck)[k]? = some z := ⟨_, List.getElem?_eq_getElem (by rw [HLNN.out]; exact hk)⟩
                have hdr : (rdS ck).drop k = z :: (rdS ck).drop (k + 1) := by
                  have hl : k < (rdS ck).length := (List.getElem?_eq_some_iff.1 hz).1
                  rw [List.drop_eq_getElem_cons hl, (List.getElem?_eq_some_iff.1 hz).2]
                rw [hdr, List.flatMap_cons] at g1
                have hne : rdS ck ≠ [] := fun e => by rw [e] at hz; simp at hz
                obtain ⟨nb2, no, rfl, hnb2, hrw⟩ := (HSR.out V0 (BK.refl _ _ _)).at_ hne
                have HS5 : Hid (∀ V, BK p nb V0 V → V.cell? ⟨W.heap.size, 6, none⟩ = some (.slice (some ⟨ab, ao, none⟩) an ac) ∧ V.cell? ⟨ab, ao + i * 9 + 1, none⟩ = some (.slice (some ⟨nb2, no, none⟩) cn cc) ∧ V.cell? ⟨nb2, no + k, none⟩ = some (.string z)) := fun V h => ⟨(HSA.out V h).1, (HSA.out V h).2.2, (h.1.cell (p := ⟨nb2, no + k, none⟩) hnb2).trans (hrw k z hz)⟩
                have HEk : Hid ((lk ++ [32] ++ bs z) ++ ((rdS ck).drop (k + 1)).flatMap (fun x => [32] ++ bs x) = lA ++ bs con ++ CS) := by
                  show _ = _
                  rw [← g1]
                  simp
                have HLk : Hid (2 ≤ lk.length ∧ lk.length + 1 ≤ 70368744177664 ∧ 2 ≤ (lk ++ [32]).length ∧ (lk ++ [32]).length + (bs z).length ≤ 70368744177664 ∧ lA.length ≤ lk.length) := by
                  have h1 := congrArg List.length HEk.out
                  have h2 := HLA.out
                  simp only [List.length_append, List.length_cons, List.length_nil] at h1
                  refine ⟨by omega, by omega, ?_, ?_, g5⟩
                  all_goals simp only [List.length_append, List.length_cons, List.length_nil]
                  all_goals omega
                have d2 : BK p nb V0 (wr.alloc (.cells #[.int .u8 32] 5)).drew := hBK.out.trans (BK.of hNw.out ((below_alloc1 _ _).drew))
                have d1 : BK p nb V0 wr.drew := hBK.out.trans (BK.of hNw.out ((Below.refl _ _).drew))
                have kk0 := HS5.out _ d1
                have kk1 := HS5.out _ d2
                have HD2 := hide d2
                have HRb : Hid (BR nb (wr.alloc (.cells #[.int .u8 32] 5)).drew u0 lk) := hBR.out.below ((below_alloc1 _ _).drew)
                have HBb : Hid ((wr.alloc (.cells #[.int .u8 32] 5)).drew.heap[wr.heap.size]? = some (.cells #[.int .u8 32] 5)) := (MapKept.heap_alloc wr _).1
                have HNb : Hid (nb ≤ (wr.alloc (.cells #[.int .u8 32] 5)).drew.heap.size) := Nat.le_trans HNB.out d2.size
                clear hinv g1 g5 hz hdr hne hrw hk d1 d2 hnb2
                go_upto_region 55 with fail
                clear a6 a0 a1
                go_region_held3 (fun V => V.cell? ⟨W.heap.size, 6, none⟩ = some (.slice (some ⟨ab, ao, none⟩) an ac) ∧ V.cell? ⟨ab, ao + i * 9 + 1, none⟩ = some (.slice (some ⟨nb2, no, none⟩) cn cc) ∧ V.cell? ⟨nb2, no + k, none⟩ = some (.string z))
                  (first | with_reducible exact kk0 | with_reducible exact kk1 | with_reducible exact kk2 | with_reducible exact kk3)
                  (first
                    | (refine one_draw (p := True) (by rfl) _ _ (by rfl) nb (wr.alloc (.cells #[.int .u8 32] 5)).drew u0 lk [32] 1 rfl _ rfl wr.heap.size (by rfl) (by rfl) (fun _ => HLk.out.1) HNb.out HRb.out HBb.out HLk.out.2.1 ?_; intro v1 w1 h1 k1; have HR1 := hide h1; have HK1 : Hid (BK p nb V0 w1) := HD2.out.trans k1.any; have HN1 : Hid (nb ≤ w1.heap.size) := Nat.le_trans HNB.out HK1.out.size; have kk2 := HS5.out w1 HK1.out; clear h1 k1)
                    | (refine str_draw (p := True) (by rfl) _ _ (by rfl) nb w1 v1 (lk ++ [32]) z (by rfl) (by rfl) (fun _ => HLk.out.2.2.1) HN1.out HR1.out HLk.out.2.2.2.1 ?_; intro v2 w2 h2 k2; have HR2 := hide h2; have HK2 : Hid (BK p nb V0 w2) := HK1.out.trans k2.any; have kk3 := HS5.out w2 HK2.out; clear h2 k2)
                    | fail)
                all_goals
                  clear kk0 kk1 kk2 kk3
                  go_wp2_with fail
                  go_roundw
                  case rel => exact ⟨k + 1, v2, _, rfl, by go_num, by omega, ⟨HEk.out, by have := HLk.out.2.2.2.2; simp only [List.length_append]; omega⟩, HR2, HK2⟩
                  case measure => simp [intOf]; omega
              · obtain rfl : k = cn := by omega
                have hkk : ¬ (k : Int) < k := by omega
                have HLE : Hid (lk = lA ++ bs con ++ CS) := by
                  rw [List.drop_eq_nil_of_le (by rw [HLNN.out]; exact Nat.le_refl _), List.flatMap_nil, List.append_nil] at g1
                  exact g1
                have HLk : Hid (lk.length + (bs ⟨#[32, 45, 62, 32]⟩).length ≤ 70368744177664 ∧ 2 ≤ lk.length ∧ 2 ≤ (lk ++ arrow).length ∧ (lk ++ arrow).length + (fx y).length ≤ 35184372088832) := by
                  have h1 := congrArg List.length HLE.out
                  have h2 := HLA.out
                  have e4 : arrow.length = 4 := rfl
                  have e : (bs ⟨#[32, 45, 62, 32]⟩).length = 4 := rfl
                  rw [e]
                  simp only [List.length_append, e4] at h1 ⊢
                  exact ⟨by omega, by omega, by omega, by omega⟩
                have d1 : BK p nb V0 wr.drew := hBK.out.trans (BK.of hNw.out ((Below.refl _ _).drew))
                have kk0 := HSB.out _ d1
                have HD1 := hide d1
                have HRa : Hid (BR nb wr.drew u0 lk) := hBR.out.below ((Below.refl _ _).drew)
                clear hinv g1 g5 hk d1
                go_upto_region 56 with fail
                clear a6 a0 a1
                go_region_held3 (fun V => V.cell? ⟨W.heap.size, 6, none⟩ = some (.slice (some ⟨ab, ao, none⟩) an ac) ∧ V.cell? ⟨ab, ao + i * 9 + 2, none⟩ = some (.int .i64 zk) ∧ V.cell? ⟨ab, ao + i * 9 + 2 + 1, none⟩ = some (.string znm) ∧ V.cell? ⟨ab, ao + i * 9 + 2 + 2, none⟩ = some (.bool zmn) ∧ V.cell? ⟨ab, ao + i * 9 + 2 + 3, none⟩ = some (.slice zla zln zlc) ∧ V.cell? ⟨ab, ao + i * 9 + 2 + 4, none⟩ = some (.slice zna znn znc) ∧ V.cell? ⟨ab, ao + i * 9 + 2 + 5, none⟩ = some (.slice zka zkn zkc) ∧ V.cell? ⟨ab, ao + i * 9 + 2 + 6, none⟩ = some (.slice zaa zan zac))
                  (first | with_reducible exact kk0 | with_reducible exact kk1 | with_reducible exact kk2)
                  (first
                    | (refine str_draw (p := True) (by rfl) _ _ (by rfl) nb wr.drew u0 lk ⟨#[32, 45, 62, 32]⟩ (by rfl) (by rfl) (fun _ => HLk.out.2.1) hNw.out HRa.out HLk.out.1 ?_; intro v1 w1 h1 k1; have HR1 : Hid (BR nb w1 v1 (lk ++ arrow)) := h1; have HK1 : Hid (BK p nb V0 w1) := HD1.out.trans k1.any; have kk1 := HSB.out w1 HK1.out; clear h1 k1)
                    | (go_at_call 14; refine (HCY.out w1 v1 (lk ++ arrow) HK1.out HR1.out HLk.out.2.2.1 HLk.out.2.2.2).mono ?_; rintro e w2 ⟨v2, rfl, h2, k2⟩; have HR2 := hide h2; have HK2 : Hid (BK p nb V0 w2) := HK1.out.trans k2.any; have kk2 := HSB.out w2 HK2.out; clear h2 k2)
                    | fail)
                all_goals
                  clear kk0 kk1 kk2
                  go_wp2_with fail
                  go_roundw
                  case rel => exact ⟨i + 1, q9, v2, _, rfl, by go_num, by omega, HRn, ⟨by rw [HLE.out]; exact HE.out, HG.out.1, HG.out.2, by have := HLA.out.2.2; have h9 := congrArg List.length HLE.out; simp only [List.length_append] at h9 ⊢; omega⟩, HR2, HK2⟩
                  case measure => simp [intOf]; omega
        · obtain ⟨rfl, rfl⟩ := hRd.out.done hi
          have hii : ¬ (i : Int) < i := by omega
          obtain ⟨g1, -, -, g5⟩ := hinv.out
          rw [AT_nil, List.nil_append] at g1
          clear hRd hinv hi
          rcases HK0.out with hk1 | hk2
          · have hq : q = .nil := (HRK.out.done (by omega)).1
            have hD0 : D = [] := by rw [← HD.out, hq, KT_nil]; rfl
            rw [hD0, restS_nil, List.append_nil] at g1
            have HE : Hid (li ++ [32, 125, 41] = l ++ X) := by
              show _ = _
              rw [g1, ← HX0.out, HL2.out, hD0]
              simp
            have HLk : Hid (2 ≤ li.length ∧ li.length + (bs ⟨#[32, 125, 41]⟩).length ≤ 70368744177664) := by
              have h1 := congrArg List.length HE.out
              have h2 := HL.out
              have e : (bs ⟨#[32, 125, 41]⟩).length = 3 := rfl
              rw [e]
              simp only [List.length_append, List.length_cons, List.length_nil] at h1
              exact ⟨by omega, by omega⟩
            have hk3 : ((kn : Int) == 2) = false := by rw [beq_eq_false_iff_ne]; omega
            clear g1 g5 hq hD0 hk1
            go_wp2_with (at_builtin; refine str_step (p := True) rfl _ _ rfl nb wr _ li ⟨#[32, 125, 41]⟩ rfl rfl (fun _ => HLk.out.1) hNw.out (by exact hBR.out) HLk.out.2 ?_; intro v6 w6 h6 k6; have HR6 : Hid (BR nb w6 v6 (li ++ [32, 125, 41])) := h6; have HK6 : Hid (BK p nb V0 w6) := hBK.out.trans k6.any; clear h6 k6)
            go_ret
            exact ⟨_, rfl, by rw [← HE.out]; exact HR6.out, HK.out.trans HK6.out⟩
          · obtain ⟨x1, q1, b1, o1, hqe, hx1, hbo, hb1, hc1, hxs1, hR2⟩ := HRK.out.next (show 1 < kn by omega) (by decide)
            cases hbo
            have hq1 : q1 = .nil := (hR2.done (by omega)).1
            have hD0 : D = [[95, 32, 45, 62, 32] ++ fx x1] := by rw [← HD.out, hqe, KT_app hx1, hq1, KT_nil]; rfl
            rw [hD0, restS_cons, restS_nil, List.append_nil] at g1
            obtain ⟨tk, tnm, tmn, tla, tln, tlc, tna, tnn, tnc, tka, tkn, tkc, taa, tan, tac, hvu, hku⟩ := kid_at hx1 (o := o + 7) (by exact hc1) hb1
            have hgq : (rdK x1).good := by
              have h := HGD.out.1
              rw [hqe, goodK_app hx1] at h
              exact h.1
            have hsq : x1.size ≤ m ∧ x1.wt ≤ 1048576 := by
              have h := HSZ.out.1
              rw [hqe, Fo.app_size, Fo.app_wt] at h
              omega
            have HSU : Hid (∀ V, BK p nb V0 V → V.cell? ⟨W.heap.size, 5, none⟩ = some (.slice (some ⟨b, o, none⟩) kn kc) ∧ V.cell? ⟨b, o + 7, none⟩ = some (.int .i64 tk) ∧ V.cell? ⟨b, o + 7 + 1, none⟩ = some (.string tnm) ∧ V.cell? ⟨b, o + 7 + 2, none⟩ = some (.bool tmn) ∧ V.cell? ⟨b, o + 7 + 3, none⟩ = some (.slice tla tln tlc) ∧ V.cell? ⟨b, o + 7 + 4, none⟩ = some (.slice tna tnn tnc) ∧ V.cell? ⟨b, o + 7 + 5, none⟩ = some (.slice tka tkn tkc) ∧ V.cell? ⟨b, o + 7 + 6, none⟩ = some (.slice taa tan tac)) := fun V h => ⟨(HQ.out V h).2.2.1, hku p V h⟩
            have HCU : Hid (∀ V u lu, BK p nb V0 V → BR nb V u lu → 2 ≤ lu.length → lu.length + (fx x1).length ≤ 35184372088832 → Calls Try.prog 14 #[u, .agg #[.int .i64 tk, .string tnm, .bool tmn, .slice tla tln tlc, .slice tna tnn tnc, .slice tka tkn tkc, .slice taa tan tac]] V (FmP True nb V (lu ++ fx x1))) := fun V u lu k hu hpu hlu => by
              rw [← hvu]
              exact HIH.out True x1 V u lu (fun _ => hpu) hsq.1 hx1 hgq hsq.2 (sub_bk hxs1 k) (Nat.le_trans HNB.out k.size) hu hlu
            obtain ⟨lA, hlA⟩ : ∃ lA, lA = li ++ (if decide (i = 0) = true then [] else [59, 32]) := ⟨_, rfl⟩
            have HE : Hid (lA ++ [95, 32, 45, 62, 32] ++ fx x1 ++ [32, 125, 41] = l ++ X) := by
              show _ = _
              have h : lA ++ [95, 32, 45, 62, 32] ++ fx x1 = l2 ++ [123, 32] ++ sepB [59, 32] (AT ak ++ D) := by
                rw [hD0, ← g1, hlA]
                simp
              rw [h, ← HX0.out, HL2.out]
              simp
            have HLk : Hid (2 ≤ li.length ∧ li.length + 2 ≤ 70368744177664 ∧ 2 ≤ lA.length ∧ lA.length + (bs ⟨#[95, 32, 45, 62, 32]⟩).length ≤ 70368744177664 ∧ 2 ≤ (lA ++ [95, 32, 45, 62, 32]).length ∧ (lA ++ [95, 32, 45, 62, 32]).length + (fx x1).length ≤ 35184372088832 ∧ 2 ≤ (lA ++ [95, 32, 45, 62, 32] ++ fx x1).length ∧ (lA ++ [95, 32, 45, 62, 32] ++ fx x1).length + (bs ⟨#[32, 125, 41]⟩).length ≤ 70368744177664) := by
              have h1 := congrArg List.length HE.out
              have h2 := HL.out
              have e : (bs ⟨#[32, 125, 41]⟩).length = 3 := rfl
              have e2 : (bs ⟨#[95, 32, 45, 62, 32]⟩).length = 5 := rfl
              have h3 : li.length ≤ lA.length := by rw [hlA, List.length_append]; omega
              rw [e, e2]
              simp only [List.length_append, List.length_cons, List.length_nil] at h1 ⊢
              exact ⟨by omega, by omega, by omega, by omega, by omega, by omega, by omega, by omega⟩
            have hk3 : ((kn : Int) == 2) = true := by rw [beq_iff_eq]; omega
            have hk4 : (1 : Int) < kn := by omega
            have hk5 : 1 < kn := by omega
            have HAE := hide hlA
            clear g1 g5 hqe hx1 hb1 hc1 hxs1 hR2 hq1 hD0 hvu hku hgq hsq hlA hk2
            by_cases hi0 : i = 0
            · have HA0 : Hid (lA = li) := by show _ = _; rw [HAE.out]; simp [hi0]
              have hd : ¬ (0 : Int) < i := by omega
              have hd2 : ¬ 0 < i := by omega
              have HR7 : Hid (BR nb wr u0 lA) := by rw [HA0.out]; exact hBR
              have HK7 := hBK
              clear hi0
              go_upto_region 60 with fail
              have HN7 : Hid (nb ≤ wr.heap.size) := Nat.le_trans HNB.out HK7.out.size
              have d1 : BK p nb V0 wr.drew := HK7.out.trans (BK.of HN7.out ((Below.refl _ _).drew))
              have kk0 := HSU.out _ d1
              have HD1 := hide d1
              have HRa : Hid (BR nb wr.drew u0 lA) := HR7.out.below ((Below.refl _ _).drew)
              clear d1 c0 c1 c5 c6
              go_region_held3 (fun V => V.cell? ⟨W.heap.size, 5, none⟩ = some (.slice (some ⟨b, o, none⟩) kn kc) ∧ V.cell? ⟨b, o + 7, none⟩ = some (.int .i64 tk) ∧ V.cell? ⟨b, o + 7 + 1, none⟩ = some (.string tnm) ∧ V.cell? ⟨b, o + 7 + 2, none⟩ = some (.bool tmn) ∧ V.cell? ⟨b, o + 7 + 3, none⟩ = some (.slice tla tln tlc) ∧ V.cell? ⟨b, o + 7 + 4, none⟩ = some (.slice tna tnn tnc) ∧ V.cell? ⟨b, o + 7 + 5, none⟩ = some (.slice tka tkn tkc) ∧ V.cell? ⟨b, o + 7 + 6, none⟩ = some (.slice taa tan tac))
                (first | with_reducible exact kk0 | with_reducible exact kk1 | with_reducible exact kk2)
                (first
                  | (refine str_draw (p := True) (by rfl) _ _ (by rfl) nb wr.drew u0 lA ⟨#[95, 32, 45, 62, 32]⟩ (by rfl) (by rfl) (fun _ => HLk.out.2.2.1) HN7.out HRa.out HLk.out.2.2.2.1 ?_; intro v1 w1 h1 k1; have HR1 : Hid (BR nb w1 v1 (lA ++ [95, 32, 45, 62, 32])) := h1; have HK1 : Hid (BK p nb V0 w1) := HD1.out.trans k1.any; have kk1 := HSU.out w1 HK1.out; clear h1 k1)
                  | (go_at_call 14; refine (HCU.out w1 v1 (lA ++ [95, 32, 45, 62, 32]) HK1.out HR1.out HLk.out.2.2.2.2.1 HLk.out.2.2.2.2.2.1).mono ?_; rintro e w2 ⟨v2, rfl, h2, k2⟩; have HR2 := hide h2; have HK2 : Hid (BK p nb V0 w2) := HK1.out.trans k2.any; have HN2 : Hid (nb ≤ w2.heap.size) := Nat.le_trans HNB.out HK2.out.size; have kk2 := HSU.out w2 HK2.out; clear h2 k2)
                  | fail)
              all_goals
                clear kk0 kk1 kk2
                go_wp2_with (at_builtin; refine str_step (p := True) rfl _ _ rfl nb w2 v2 (lA ++ [95, 32, 45, 62, 32] ++ fx x1) ⟨#[32, 125, 41]⟩ rfl rfl (fun _ => HLk.out.2.2.2.2.2.2.1) HN2.out HR2.out HLk.out.2.2.2.2.2.2.2 ?_; intro v8 w8 h6 k6; have HR8 : Hid (BR nb w8 v8 (lA ++ [95, 32, 45, 62, 32] ++ fx x1 ++ [32, 125, 41])) := h6; have HK8 : Hid (BK p nb V0 w8) := HK2.out.trans k6.any; clear h6 k6)
                go_ret
                exact ⟨_, rfl, by rw [← HE.out]; exact HR8.out, HK.out.trans HK8.out⟩
            · have HA0 : Hid (li ++ [59, 32] = lA) := by show _ = _; rw [HAE.out]; simp [hi0]
              have hd : (0 : Int) < i := by omega
              have hd2 : 0 < i := by omega
              clear hi0
              go_upto_region 60 with (at_builtin; refine str_step (p := True) rfl _ _ rfl nb wr _ li ⟨#[59, 32]⟩ rfl rfl (fun _ => HLk.out.1) hNw.out (by exact hBR.out) HLk.out.2.1 ?_; intro v7 w7 h6 k6; have HR7 : Hid (BR nb w7 v7 lA) := (by rw [← HA0.out]; exact h6); have HK7 : Hid (BK p nb V0 w7) := hBK.out.trans k6.any; clear h6 k6 c0 c1 c5 c6; obtain ⟨c0, c1, c5, c6⟩ := HQ.out w7 HK7.out)
              have HN7 : Hid (nb ≤ w7.heap.size) := Nat.le_trans HNB.out HK7.out.size
              have d1 : BK p nb V0 w7.drew := HK7.out.trans (BK.of HN7.out ((Below.refl _ _).drew))
              have kk0 := HSU.out _ d1
              have HD1 := hide d1
              have HRa : Hid (BR nb w7.drew v7 lA) := HR7.out.below ((Below.refl _ _).drew)
              clear d1 c0 c1 c5 c6
              go_region_held3 (fun V => V.cell? ⟨W.heap.size, 5, none⟩ = some (.slice (some ⟨b, o, none⟩) kn kc) ∧ V.cell? ⟨b, o + 7, none⟩ = some (.int .i64 tk) ∧ V.cell? ⟨b, o + 7 + 1, none⟩ = some (.string tnm) ∧ V.cell? ⟨b, o + 7 + 2, none⟩ = some (.bool tmn) ∧ V.cell? ⟨b, o + 7 + 3, none⟩ = some (.slice tla tln tlc) ∧ V.cell? ⟨b, o + 7 + 4, none⟩ = some (.slice tna tnn tnc) ∧ V.cell? ⟨b, o + 7 + 5, none⟩ = some (.slice tka tkn tkc) ∧ V.cell? ⟨b, o + 7 + 6, none⟩ = some (.slice taa tan tac))
                (first | with_reducible exact kk0 | with_reducible exact kk1 | with_reducible exact kk2)
                (first
                  | (refine str_draw (p := True) (by rfl) _ _ (by rfl) nb w7.drew v7 lA ⟨#[95, 32, 45, 62, 32]⟩ (by rfl) (by rfl) (fun _ => HLk.out.2.2.1) HN7.out HRa.out HLk.out.2.2.2.1 ?_; intro v1 w1 h1 k1; have HR1 : Hid (BR nb w1 v1 (lA ++ [95, 32, 45, 62, 32])) := h1; have HK1 : Hid (BK p nb V0 w1) := HD1.out.trans k1.any; have kk1 := HSU.out w1 HK1.out; clear h1 k1)
                  | (go_at_call 14; refine (HCU.out w1 v1 (lA ++ [95, 32, 45, 62, 32]) HK1.out HR1.out HLk.out.2.2.2.2.1 HLk.out.2.2.2.2.2.1).mono ?_; rintro e w2 ⟨v2, rfl, h2, k2⟩; have HR2 := hide h2; have HK2 : Hid (BK p nb V0 w2) := HK1.out.trans k2.any; have HN2 : Hid (nb ≤ w2.heap.size) := Nat.le_trans HNB.out HK2.out.size; have kk2 := HSU.out w2 HK2.out; clear h2 k2)
                  | fail)
              all_goals
                clear kk0 kk1 kk2
                go_wp2_with (at_builtin; refine str_step (p := True) rfl _ _ rfl nb w2 v2 (lA ++ [95, 32, 45, 62, 32] ++ fx x1) ⟨#[32, 125, 41]⟩ rfl rfl (fun _ => HLk.out.2.2.2.2.2.2.1) HN2.out HR2.out HLk.out.2.2.2.2.2.2.2 ?_; intro v8 w8 h6 k6; have HR8 : Hid (BR nb w8 v8 (lA ++ [95, 32, 45, 62, 32] ++ fx x1 ++ [32, 125, 41])) := h6; have HK8 : Hid (BK p nb V0 w8) := HK2.out.trans k6.any; clear h6 k6)
                go_ret
                exact ⟨_, rfl, by rw [← HE.out]; exact HR8.out, HK.out.trans HK8.out⟩

end Go.Proofs.Ytppfohpgcofkbaa
