import Derived.Test.YtppfohpgcofkbaaGh
namespace Go.Proofs.Ytppfohpgcofkbaa
open Go.RowKit Go.Joins

set_option maxHeartbeats 2000000 in
set_option maxRecDepth 100000 in
theorem fm_4z (p : Prop) (nb : Nat) (nm : ByteArray) (mn : Bool) (la : Option Addr) (ln lc : Nat) (na : Option Addr) (nn nc : Nat) (ka : Option Addr) (kc : Nat) (aa : Option Addr) (an ac : Nat) (W : World) (v : Value) (l : List UInt8) (hp : p → 2 ≤ l.length) (hnb : nb ≤ W.heap.size) (hv : BR nb W v l) (hl : l.length + (bs nm).length ≤ 35184372088832) :
    Calls Try.prog 14 #[v, .agg #[.int .i64 4, .string nm, .bool mn, .slice la ln lc, .slice na nn nc, .slice ka 0 kc, .slice aa an ac]] W (FmP p nb W (l ++ bs nm)) := by
  obtain ⟨V0, hV0⟩ : ∃ V, W.alloc (.cells #[.int .i64 4, .string nm, .bool mn, .slice la ln lc, .slice na nn nc, .slice ka 0 kc, .slice aa an ac] 36) = V := ⟨_, rfl⟩
  have b0 : Below W.heap.size W V0 := by rw [← hV0]; exact below_alloc1 _ _
  have z0 : V0.heap.size = W.heap.size + 1 := by rw [← hV0]; simp
  have q0 : V0.heap[W.heap.size]? = some (.cells #[.int .i64 4, .string nm, .bool mn, .slice la ln lc, .slice na nn nc, .slice ka 0 kc, .slice aa an ac] 36) := by rw [← hV0]; exact (MapKept.heap_alloc W _).1
  have HR := hide (hv.below b0)
  have HK := hide (BK.of (p := p) hnb b0)
  have HPP := hide hp
  have c0 := box_cell (i := 0) q0 rfl
  have c1 := box_cell (i := 1) q0 rfl
  have c5 := box_cell (i := 5) q0 rfl
  have HNB : Hid (nb ≤ V0.heap.size) := by show _ ≤ _; omega
  have HV0 := hide hV0
  have HL : Hid (l.length + (bs nm).length ≤ 70368744177664) := by show _ ≤ _; omega
  clear hV0 b0 q0 hv hnb z0 hp hl
  go_enter Try.func14, Try.ntmps14
  go_upto_region 1 with fail
  rw [HV0.out]
  clear HV0
  go_wp2_with (at_builtin; refine str_step rfl _ _ rfl nb V0 v l nm rfl rfl HPP.out HNB.out HR.out HL.out ?_; intro v1 w1 h1 k1; have H1 := hide h1; have K1 := hide k1; clear h1 k1)
  go_ret
  exact ⟨_, rfl, H1.out, HK.out.trans K1.out⟩

set_option maxHeartbeats 2000000 in
set_option maxRecDepth 100000 in
theorem fm_9z (p : Prop) (nb : Nat) (nm : ByteArray) (mn : Bool) (la : Option Addr) (ln lc : Nat) (na : Option Addr) (nn nc : Nat) (ka : Option Addr) (kc : Nat) (aa : Option Addr) (an ac : Nat) (W : World) (v : Value) (l : List UInt8) (hp : p → 2 ≤ l.length) (hnb : nb ≤ W.heap.size) (hv : BR nb W v l) (hl : l.length + (bs nm).length ≤ 35184372088832) :
    Calls Try.prog 14 #[v, .agg #[.int .i64 9, .string nm, .bool mn, .slice la ln lc, .slice na nn nc, .slice ka 0 kc, .slice aa an ac]] W (FmP p nb W (l ++ bs nm)) := by
  obtain ⟨V0, hV0⟩ : ∃ V, W.alloc (.cells #[.int .i64 9, .string nm, .bool mn, .slice la ln lc, .slice na nn nc, .slice ka 0 kc, .slice aa an ac] 36) = V := ⟨_, rfl⟩
  have b0 : Below W.heap.size W V0 := by rw [← hV0]; exact below_alloc1 _ _
  have z0 : V0.heap.size = W.heap.size + 1 := by rw [← hV0]; simp
  have q0 : V0.heap[W.heap.size]? = some (.cells #[.int .i64 9, .string nm, .bool mn, .slice la ln lc, .slice na nn nc, .slice ka 0 kc, .slice aa an ac] 36) := by rw [← hV0]; exact (MapKept.heap_alloc W _).1
  have HR := hide (hv.below b0)
  have HK := hide (BK.of (p := p) hnb b0)
  have HPP := hide hp
  have c0 := box_cell (i := 0) q0 rfl
  have c1 := box_cell (i := 1) q0 rfl
  have c5 := box_cell (i := 5) q0 rfl
  have HNB : Hid (nb ≤ V0.heap.size) := by show _ ≤ _; omega
  have HV0 := hide hV0
  have HL : Hid (l.length + (bs nm).length ≤ 70368744177664) := by show _ ≤ _; omega
  clear hV0 b0 q0 hv hnb z0 hp hl
  go_enter Try.func14, Try.ntmps14
  go_upto_region 1 with fail
  rw [HV0.out]
  clear HV0
  go_wp2_with (at_builtin; refine str_step rfl _ _ rfl nb V0 v l nm rfl rfl HPP.out HNB.out HR.out HL.out ?_; intro v1 w1 h1 k1; have H1 := hide h1; have K1 := hide k1; clear h1 k1)
  go_ret
  exact ⟨_, rfl, H1.out, HK.out.trans K1.out⟩

open Classical in
theorem fm_step (nb m : Nat) (ih : FmC nb m) : FmC nb (m + 1) := by
  intro p F W v l hp hm hf hgd hwt hs hnb hv hl
  obtain ⟨k, nm, mn, la, ln, lc, lk, na, nn, nc, nk, ka, kn, kc, kk, aa, an, ac, ak, rfl, -, hnm, h3, h4, h5, h6⟩ := core_open hf
  obtain ⟨hs3, hs4, hs5, hs6, -⟩ := hs
  rw [fx_nd] at hl ⊢
  rw [rdK_nd, rdK_nil] at hgd
  obtain ⟨hshp, hgk, hga, -⟩ := hgd
  rw [rdK_len kn kk h5] at hshp
  simp only [Fo.vals]
  simp only [Fo.size, Fo.wt, textSize] at hm hwt
  have hlz : ∀ {n w : Nat} {F : Fo} {k' : Nat}, Fit E F (rep (E k') n) → (E k').length = w → 0 < w → n ≤ F.size := fun {n w F k'} h e hw => by
    have e1 := Fit.len h
    rw [rep_len, e] at e1
    have := F.len_le
    have := Nat.le_mul_of_pos_right n hw
    omega
  obtain ⟨hsr, hsl⟩ := sr_of h4 hs4
  by_cases e1 : k = 1
  · subst e1
    have ho : one ⟨⟨#[]⟩, [], 1, nm, mn, rdU lk, rdS nk⟩ (KT kk) (AT ak) = bs nm := by dsimp only [one]; rw [if_pos rfl]
    rw [ho] at hl ⊢
    exact fm_1 p nb nm mn la ln lc na nn nc ka kn kc aa an ac W v l hp hnb hv hl
  by_cases e2 : k = 2
  · subst e2
    have ho : one ⟨⟨#[]⟩, [], 2, nm, mn, rdU lk, rdS nk⟩ (KT kk) (AT ak) = num mn (rdU lk) := by dsimp only [one]; rw [if_neg (by decide), if_pos rfl]
    rw [ho] at hl ⊢
    exact fm_2 p nb nm mn la ln lc na nn nc ka kn kc aa an ac W v l hp hnb hv lk h3 hs3 hl
  by_cases e3 : k = 3
  · subst e3
    have ho : one ⟨⟨#[]⟩, [], 3, nm, mn, rdU lk, rdS nk⟩ (KT kk) (AT ak) = escT 39 nm := by dsimp only [one]; rw [if_neg (by decide), if_neg (by decide), if_pos rfl]
    rw [ho] at hl ⊢
    exact fm_3 p nb nm mn la ln lc na nn nc ka kn kc aa an ac W v l hp hnb hv (by omega) hl
  by_cases e10 : k = 10
  · subst e10
    have ho : one ⟨⟨#[]⟩, [], 10, nm, mn, rdU lk, rdS nk⟩ (KT kk) (AT ak) = escT 34 nm := by dsimp only [one]; rw [if_neg (by decide), if_neg (by decide), if_neg (by decide), if_pos rfl]
    rw [ho] at hl ⊢
    exact fm_10 p nb nm mn la ln lc na nn nc ka kn kc aa an ac W v l hp hnb hv (by omega) hl
  have hkn : kn ≤ 16777216 := by omega
  have hkt : KT kk = [] ↔ kn = 0 := by
    constructor
    · intro e
      by_cases h0 : 0 < kn
      · obtain ⟨x, q, b, o, rfl, hx, -⟩ := (Rd.start h5 hs5).next h0 (by decide)
        rw [KT_app hx] at e
        cases e
      · omega
    · intro e
      rw [e] at h5
      rw [fit_nil h5, KT_nil]
  by_cases e4 : k = 4
  · subst e4
    by_cases h0 : kn = 0
    · have ho : one ⟨⟨#[]⟩, [], 4, nm, mn, rdU lk, rdS nk⟩ (KT kk) (AT ak) = bs nm := by dsimp only [one]; rw [if_neg (by decide), if_neg (by decide), if_neg (by decide), if_neg (by decide), if_pos (by decide), if_pos (hkt.2 h0)]
      rw [ho] at hl ⊢
      subst h0
      exact fm_4z p nb nm mn la ln lc na nn nc ka kc aa an ac W v l hp hnb hv hl
    · have ho : one ⟨⟨#[]⟩, [], 4, nm, mn, rdU lk, rdS nk⟩ (KT kk) (AT ak) = [40] ++ bs nm ++ (KT kk).flatMap (fun t => [32] ++ t) ++ [41] := by dsimp only [one]; rw [if_neg (by decide), if_neg (by decide), if_neg (by decide), if_neg (by decide), if_pos (by decide), if_neg (fun h => h0 (hkt.1 h))]
      rw [ho] at hl ⊢
      exact fm_4 p nb m ih nm mn la ln lc na nn nc ka kn kc aa an ac kk W v l hp hnb hv h5 hs5 hgk ⟨by omega, by omega⟩ hkn (by omega) hl
  by_cases e9 : k = 9
  · subst e9
    by_cases h0 : kn = 0
    · have ho : one ⟨⟨#[]⟩, [], 9, nm, mn, rdU lk, rdS nk⟩ (KT kk) (AT ak) = bs nm := by dsimp only [one]; rw [if_neg (by decide), if_neg (by decide), if_neg (by decide), if_neg (by decide), if_pos (by decide), if_pos (hkt.2 h0)]
      rw [ho] at hl ⊢
      subst h0
      exact fm_9z p nb nm mn la ln lc na nn nc ka kc aa an ac W v l hp hnb hv hl
    · have ho : one ⟨⟨#[]⟩, [], 9, nm, mn, rdU lk, rdS nk⟩ (KT kk) (AT ak) = [40] ++ bs nm ++ (KT kk).flatMap (fun t => [32] ++ t) ++ [41] := by dsimp only [one]; rw [if_neg (by decide), if_neg (by decide), if_neg (by decide), if_neg (by decide), if_pos (by decide), if_neg (fun h => h0 (hkt.1 h))]
      rw [ho] at hl ⊢
      exact fm_9 p nb m ih nm mn la ln lc na nn nc ka kn kc aa an ac kk W v l hp hnb hv h5 hs5 hgk ⟨by omega, by omega⟩ hkn (by omega) hl
  by_cases e5 : k = 5
  · subst e5
    obtain ⟨-, -, -, -, hnm0, hk2⟩ := (shp_5 _ _ _ _ _ _ _ _).1 hshp
    have ho : one ⟨⟨#[]⟩, [], 5, nm, mn, rdU lk, rdS nk⟩ (KT kk) (AT ak) = [40] ++ bs nm ++ sepB [32] (KT kk) ++ [41] := by
      dsimp only [one]
      rw [if_neg (by decide), if_neg (by decide), if_neg (by decide), if_neg (by decide), if_neg (by decide), if_pos rfl, hnm0]
      rfl
    rw [ho] at hl ⊢
    exact fm_5 p nb m ih nm mn la ln lc na nn nc ka kn kc aa an ac kk W v l hp hnb hv h5 hs5 hgk ⟨by omega, by omega⟩ hkn (by omega) hl
  by_cases e6 : k = 6
  · subst e6
    have hsp := (shp_6 _ _ _ _ _ _ _ _).1 hshp
    have hk1 : kn = 1 := hsp.2.2.2.2.1
    have ho : one ⟨⟨#[]⟩, [], 6, nm, mn, rdU lk, rdS nk⟩ (KT kk) (AT ak) = [40, 92] ++ sepB [32] ((rdS nk).map bs) ++ arrow ++ (KT kk).headD [] ++ [41] := by
      dsimp only [one]
      rw [if_neg (by decide), if_neg (by decide), if_neg (by decide), if_neg (by decide), if_neg (by decide), if_neg (by decide), if_pos rfl]
    rw [ho] at hl ⊢
    exact fm_6 p nb m ih nm mn la ln lc na nn nc ka kn kc aa an ac (rdS nk) kk W v l hp hnb hv hsr hsl.symm (by omega) h5 hs5 hgk ⟨by omega, by omega⟩ hkn (by omega) hl
  by_cases e7 : k = 7
  · subst e7
    have hsp := (shp_7 _ _ _ _ _ _ _ _).1 hshp
    have hk1 : kn = (rdS nk).length + 1 := hsp.2.2.2.2.2.1
    have ho : one ⟨⟨#[]⟩, [], 7, nm, mn, rdU lk, rdS nk⟩ (KT kk) (AT ak) = [40, 108, 101, 116, 32] ++ sepB [59, 32] (List.zipWith (fun n t => bs n ++ [32, 61, 32] ++ t) (rdS nk) (KT kk)) ++ [32, 105, 110, 32] ++ (KT kk).getD (rdS nk).length [] ++ [41] := by
      dsimp only [one]
      rw [if_neg (by decide), if_neg (by decide), if_neg (by decide), if_neg (by decide), if_neg (by decide), if_neg (by decide), if_neg (by decide), if_pos rfl]
    rw [ho] at hl ⊢
    exact fm_7 p nb m ih nm mn la ln lc na nn nc ka kn kc aa an ac (rdS nk) kk W v l hp hnb hv hsr hsl.symm (by omega) h5 hs5 hgk ⟨by omega, by omega⟩ (by omega) hl
  by_cases e8 : k = 8
  · subst e8
    have hsp := (shp_8 _ _ _ _ _ _ _ _).1 hshp
    have ho : one ⟨⟨#[]⟩, [], 8, nm, mn, rdU lk, rdS nk⟩ (KT kk) (AT ak) = [40, 99, 97, 115, 101, 32] ++ (KT kk).headD [] ++ [32, 111, 102, 32] ++ (if nm = ⟨#[]⟩ then [] else bs nm ++ [32]) ++ [123, 32] ++ sepB [59, 32] (AT ak ++ ((KT kk).drop 1).map (fun t => [95, 32, 45, 62, 32] ++ t)) ++ [32, 125, 41] := by
      dsimp only [one]
      rw [if_neg (by decide), if_neg (by decide), if_neg (by decide), if_neg (by decide), if_neg (by decide), if_neg (by decide), if_neg (by decide), if_neg (by decide)]
    rw [ho] at hl ⊢
    exact fm_8 p nb m ih nm mn la ln lc na nn nc ka kn kc aa an ac _ kk ak W v l hp hnb hv (by
      by_cases hn : nm = ⟨#[]⟩
      · exact .inl ⟨(empty_iff nm).2 hn, if_pos hn⟩
      · exact .inr ⟨fun h => hn ((empty_iff nm).1 h), if_neg hn⟩) h5 hs5 hgk h6 hs6 hga ⟨⟨by omega, by omega⟩, by omega, by omega⟩ hsp.2.2.2.1 (by omega) hl
  exact absurd hshp (shp_other _ _ _ e1 e2 e3 e4 e5 e6 e7 e8 e9 e10)

theorem fm_all (nb : Nat) : ∀ m, FmC nb m
  | 0 => fun _ F _ _ _ _ hm hf => absurd (Fit.len hf) (by have := F.len_le; show ¬ F.len = 7; omega)
  | m + 1 => fm_step nb m (fm_all nb m)

end Go.Proofs.Ytppfohpgcofkbaa

namespace Go.Proofs.Ytppfohpgcofkbaa
open Go.RowKit Go.Joins

open Classical in
/-- What FormatCore answers. -/
noncomputable def fcT (F : Fo) : List UInt8 := if okC (rdK F) then fx F else []

theorem E_len (k : Nat) : (E k).length ≤ 9 := by
  match k with
  | 0 => decide
  | 1 => decide
  | 2 => decide
  | 3 => decide
  | n + 4 => exact Nat.zero_le _

set_option maxHeartbeats 4000000 in
set_option maxRecDepth 100000 in
theorem m_format (F : Fo) (W : World) (hf : Fit E F (E 3)) (hwt : F.wt ≤ 1048576) (hs : F.Subs W (fun c => c < W.heap.size)) :
    Calls Try.prog 5 #[.agg F.vals.toArray] W fun e W' => e = .returned (.string ⟨(fcT F).toArray⟩) ∧ Below W.heap.size W W' := by
  have hsz := (Fit.bounds E_len F (E 3) hf).2.2
  have hfl : F.len = 7 := Fit.len hf
  have hfx := fx_bound F hf
  obtain ⟨V0, hV0⟩ : ∃ V, W.alloc (.cells F.vals.toArray 36) = V := ⟨_, rfl⟩
  have b0 : Below W.heap.size W V0 := by rw [← hV0]; exact below_alloc1 _ _
  have q0 : Bx V0 W.heap.size F.vals := by rw [← hV0]; exact Bx.new _ _ _
  have hlt : ∀ c, c < W.heap.size → c < V0.heap.size := fun c hc => Nat.lt_of_lt_of_le hc b0.size
  have HC1 := hide (m_fault F V0 hf hwt ((hs.below b0 (fun c hc => hc)).mono hlt))
  have HC2 : Hid (∀ V, Below V0.heap.size V0 V → okC (rdK F) → Calls Try.prog 14 #[.slice none 0 0, .agg F.vals.toArray] V (FmP False W.heap.size V ([] ++ fx F))) := fun V bV hg =>
    fm_all W.heap.size F.size False F V _ [] (fun h => h.elim) (Nat.le_refl _) hf hg.2 hwt ((hs.below b0 (fun c hc => hc)).below bV hlt) (Nat.le_trans b0.size bV.size) (BR.nil _ _) (by simp only [List.length_nil]; omega)
  have HQ0 : Hid (∀ V, Below V0.heap.size V0 V → Bx V W.heap.size F.vals) := fun V bV => q0.below bV
  have HBW : Hid (∀ V, Below V0.heap.size V0 V → Below W.heap.size W V) := fun V k => b0.trans (k.mono b0.size)
  have HYES : Hid (okC (rdK F) → fcT F = fx F) := fun h => by unfold fcT; rw [if_pos h]
  have HNO : Hid (¬ okC (rdK F) → fcT F = []) := fun h => by unfold fcT; rw [if_neg h]
  obtain ⟨k, nm, mn, la, ln, lc, lk, na, nn, nc, nk, ka, kn, kc, kk, aa, an, ac, ak, hxe, -⟩ := core_open hf
  obtain ⟨T, hT⟩ : ∃ T, rdK F = T := ⟨_, rfl⟩
  obtain ⟨Y, hY⟩ : ∃ Y, fx F = Y := ⟨_, rfl⟩
  obtain ⟨Z, hZ⟩ : ∃ Z, fcT F = Z := ⟨_, rfl⟩
  rw [hT] at HC1 HC2 HYES HNO
  rw [hY] at HC2 HYES
  rw [hZ] at HYES HNO ⊢
  rw [hxe] at hV0 q0 HC1 HC2 HQ0 ⊢
  simp only [Fo.vals, List.nil_append] at hV0 q0 HC1 HC2 HQ0 ⊢
  have c0 := q0.cel 0 _ rfl
  have c1 := q0.cel 1 _ rfl
  have c2 := q0.cel 2 _ rfl
  have c3 := q0.cel 3 _ rfl
  have c4 := q0.cel 4 _ rfl
  have c5 := q0.cel 5 _ rfl
  have c6 := q0.cel 6 _ rfl
  have HV0 := hide hV0
  clear hV0 b0 q0 hf hwt hs hxe hT hY hZ hlt hsz hfl hfx
  go_enter Try.func5, Try.ntmps5
  go_upto_region 1 with fail
  rw [HV0.out]
  clear HV0
  go_wp2_with fail
  refine HC1.out.mono ?_
  clear HC1 c0 c1 c2 c3 c4 c5 c6
  rintro e w1 ⟨cd, rfl, hcd, b1⟩
  have HB1 := hide b1
  by_cases h0 : cd = 0
  · have HOK : Hid (okC T) := hcd.1 h0
    subst h0
    have q1 := HQ0.out w1 b1
    have c0 := q1.cel 0 _ rfl
    have c1 := q1.cel 1 _ rfl
    have c2 := q1.cel 2 _ rfl
    have c3 := q1.cel 3 _ rfl
    have c4 := q1.cel 4 _ rfl
    have c5 := q1.cel 5 _ rfl
    have c6 := q1.cel 6 _ rfl
    have HC3 := hide (HC2.out w1 b1 HOK.out)
    have HE := hide (HYES.out HOK.out)
    clear hcd b1 q1 HC2 HYES HNO HOK
    go_wp2_with fail
    refine HC3.out.mono ?_
    rintro e w2 ⟨v2, rfl, h1, h2⟩
    have hcv := h1.text
    have HBE : Hid (Below W.heap.size W w2) := (HBW.out w1 HB1.out).trans h2.1
    clear HC3 h1 h2
    go_wp2_with fail
    go_ret
    exact ⟨by rw [HE.out]; rfl, HBE.out⟩
  · have h0' : (cd != 0) = true := by rw [bne_iff_ne]; exact h0
    have HE := hide (HNO.out (fun h => h0 (hcd.2 h)))
    have HBE : Hid (Below W.heap.size W w1) := HBW.out w1 b1
    clear hcd b1 HC2 HYES HNO
    go_wp2_with fail
    go_ret
    exact ⟨by rw [HE.out]; rfl, HBE.out⟩

end Go.Proofs.Ytppfohpgcofkbaa
