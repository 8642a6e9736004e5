import Derived.Test.YtppfohpgcofkbaaHj
import Derived.Test.YtppfohpgcofkbaaShelf
namespace Go.Proofs.Ytppfohpgcofkbaa
open Go.RowKit Go.Joins

theorem join_sep (s : List UInt8) (K : List (List UInt8)) : Lib.join K s = sepB s K := by
  cases K with
  | nil => rfl
  | cons x r =>
    rw [Lib.join_cons]
    show x ++ (r.map (s ++ ·)).flatten = x ++ r.flatMap (fun t => s ++ t)
    rw [List.flatMap_def]

theorem iJoin (bk o c : Nat) (xs : List ByteArray) (w : World) (hcells : ∀ (j : Nat) x, xs[j]? = some x → w.cell? ⟨bk, o + j, none⟩ = some (.string x)) (hbk : bk < w.heap.size) (hN : xs.length ≤ 16777216) (hcap : xs.length ≤ c) (hlen : (sepB [32] (xs.map bs)).length ≤ 70368744177664) :
    Calls Try.prog 98 #[.slice (some ⟨bk, o, none⟩) xs.length c, .string ⟨#[32]⟩] w fun e w' => e = .returned (.string ⟨(sepB [32] (xs.map bs)).toArray⟩) ∧ Below w.heap.size w w' := by
  have := Try.strings_Join bk o c xs ⟨#[32]⟩ w hcells hbk (by omega) hcap (by rw [join_sep]; exact Nat.le_trans hlen (by decide))
  rw [join_sep] at this
  exact this

set_option maxHeartbeats 4000000 in
set_option maxRecDepth 100000 in
theorem wk_6 (d : Nd) (b m : Nat) (ih : WtC b m) (na : Option Addr) (nc : Nat) (L : List ByteArray) (ka : Option Addr) (kn kc : Nat) (kk : Fo) (l : List UInt8) (W : World) (hd : d.b < b) (h4 : W.cell? ⟨d.b, d.o + 4, none⟩ = some (.slice na L.length nc)) (h5 : W.cell? ⟨d.b, d.o + 5, none⟩ = some (.slice ka kn kc)) (hsr : SR W (fun c => c < b) na nc L) (hnc : L.length ≤ nc) (hne : L ≠ []) (hnx : L.length ≤ 16777216) (hk0 : 0 < kn) (hf5 : Fit E kk (rep (E 3) kn)) (hs5 : kk.Sub W (fun c => c < b) ka kn kc) (hgd : (rdK kk).good) (hsz : kk.size ≤ m ∧ kk.wt ≤ 1048576) (h : Lib.IsBuilderF 55 5 b b (Lib.byteCells l) W) (Z : List UInt8) (hZ : l ++ ([40, 92] ++ sepB [32] (L.map bs) ++ arrow ++ (KT kk).headD [] ++ [41]) = Z) (hl : Z.length ≤ 70368744177664) :
    Calls Try.prog 96 #[.agg #[d.ptr], .pointer (some ⟨b, 0, none⟩)] W fun e W' => e = .returned (.tuple #[]) ∧ Wr b Z W W' := by
  have hw := (Wr.start h).alloc (.cells #[d.ptr] 103)
  have hlt := isb_lt h
  obtain ⟨V0, hV0⟩ : ∃ V, W.alloc (.cells #[d.ptr] 103) = V := ⟨_, rfl⟩
  have b0 := below_alloc1 W (.cells #[d.ptr] 103)
  obtain ⟨nb2, no, rfl, hnb2, hrw⟩ := hsr.at_ hne
  have c4 : (W.alloc (.cells #[d.ptr] 103)).cell? ⟨d.b, d.o + 4, none⟩ = some (.slice (some ⟨nb2, no, none⟩) L.length nc) := (b0.cell (p := ⟨d.b, d.o + 4, none⟩) (by show d.b < _; omega)).trans h4
  have c5 : (W.alloc (.cells #[d.ptr] 103)).cell? ⟨d.b, d.o + 5, none⟩ = some (.slice ka kn kc) := (b0.cell (p := ⟨d.b, d.o + 5, none⟩) (by show d.b < _; omega)).trans h5
  have HS : Hid (∀ V l', Wr b l' V0 V → V.cell? ⟨W.heap.size, 0, none⟩ = some d.ptr ∧ V.cell? ⟨d.b, d.o + 4, none⟩ = some (.slice (some ⟨nb2, no, none⟩) L.length nc) ∧ V.cell? ⟨d.b, d.o + 5, none⟩ = some (.slice ka kn kc)) := by
    rw [← hV0]
    exact fun V l' k => ⟨wr_box (T := 103) (by decide) h k, (k.low.cell (p := ⟨d.b, d.o + 4, none⟩) hd).trans c4, (k.low.cell (p := ⟨d.b, d.o + 5, none⟩) hd).trans c5⟩
  have HW : Hid (Wr b l W V0) := by rw [← hV0]; exact hw
  have hz0 : b < V0.heap.size := isb_lt HW.out.is
  obtain ⟨x, q, xb, o, rfl, hx, rfl, hb', hc, hxs, hR1⟩ := (Rd.start hf5 hs5).next hk0 (by decide)
  rw [KT_app hx] at hZ
  rw [goodK_app hx] at hgd
  rw [Fo.app_size, Fo.app_wt] at hsz
  have e0 : (fx x :: KT q).headD [] = fx x := rfl
  rw [e0] at hZ
  obtain ⟨X, hX⟩ : ∃ X, sepB [32] (L.map bs) = X := ⟨_, rfl⟩
  rw [hX] at hZ
  have HZ : Hid (l ++ (bs ⟨#[40, 92]⟩ ++ bs ⟨X.toArray⟩ ++ bs ⟨#[32, 45, 62, 32]⟩) ++ fx x ++ bs ⟨#[41]⟩ = Z) := by
    show l ++ ([40, 92] ++ X ++ [32, 45, 62, 32]) ++ fx x ++ [41] = Z
    rw [← hZ]
    show _ = l ++ ([40, 92] ++ X ++ [32, 45, 62, 32] ++ fx x ++ [41])
    simp
  have HLN : Hid (l.length + (bs ⟨#[40, 92]⟩ ++ bs ⟨X.toArray⟩ ++ bs ⟨#[32, 45, 62, 32]⟩).length ≤ 70368744177664 ∧ (l ++ (bs ⟨#[40, 92]⟩ ++ bs ⟨X.toArray⟩ ++ bs ⟨#[32, 45, 62, 32]⟩)).length + (fx x).length ≤ 70368744177664 ∧ (l ++ (bs ⟨#[40, 92]⟩ ++ bs ⟨X.toArray⟩ ++ bs ⟨#[32, 45, 62, 32]⟩) ++ fx x).length + 1 ≤ 70368744177664 ∧ X.length ≤ 70368744177664) := by
    rw [← HZ.out] at hl
    have e5 : (bs ⟨#[41]⟩).length = 1 := rfl
    have e6 : (bs ⟨X.toArray⟩).length = X.length := rfl
    simp only [List.length_append, e5, e6] at hl ⊢
    exact ⟨by omega, by omega, by omega, by omega⟩
  have HJ : Hid (Calls Try.prog 98 #[.slice (some ⟨nb2, no, none⟩) L.length nc, .string ⟨#[32]⟩] V0 fun e w' => e = .returned (.string ⟨X.toArray⟩) ∧ Below V0.heap.size V0 w') := by
    have := iJoin nb2 no nc L V0 (fun j y hj => (HW.out.low.cell (p := ⟨nb2, no + j, none⟩) hnb2).trans (hrw j y hj)) (by omega) hnx hnc (by rw [hX]; exact HLN.out.2.2.2)
    rw [hX] at this
    exact this
  have HP : Hid (∀ V, Wr b l V0 V → _) := fun V k => put3 b ⟨#[40, 92]⟩ ⟨X.toArray⟩ ⟨#[32, 45, 62, 32]⟩ l V k.is HLN.out.1
  have HTm : Hid (∀ V lv, Wr b lv V0 V → lv.length + (fx x).length ≤ 70368744177664 → Calls Try.prog 20 #[.pointer (some ⟨b, 0, none⟩), .pointer (some ⟨xb, o, none⟩)] V fun e W' => e = .returned (.tuple #[]) ∧ Wr b (lv ++ fx x) V W') := fun V lv k hlv => by
    have k' := HW.out.trans k
    have hc' : Cel W x.vals xb o := by simpa using hc
    exact ih ⟨xb, o, x⟩ lv V (by show x.size ≤ m; omega) ⟨hx, hc'.below k'.low hb', hxs.below k'.low (fun _ hc => hc), hb'⟩ hgd.1 (by show x.wt ≤ _; omega) k.is hlv
  have HP2 : Hid (∀ V, Wr b (l ++ (bs ⟨#[40, 92]⟩ ++ bs ⟨X.toArray⟩ ++ bs ⟨#[32, 45, 62, 32]⟩) ++ fx x) V0 V → _) := fun V k => put1 b ⟨#[41]⟩ _ V k.is HLN.out.2.2.1
  have hki : (0 : Int) < kn := by omega
  clear c4 c5
  obtain ⟨c0, c4, c5⟩ := HS.out V0 l (Wr.start HW.out.is)
  obtain ⟨nn, hnn⟩ : ∃ nn, L.length = nn := ⟨_, rfl⟩
  rw [hnn] at c4 HJ HS
  have HV0 := hide hV0
  clear hV0 hw h b0 h4 h5 hX hl hsz ih hf5 hs5 hgd hsr hrw hZ hc hxs hx hR1 hnn e0 hnc hnx
  unfold Nd.ptr at c0 HV0 HS ⊢
  go_enter Try.func96, Try.ntmps96
  go_upto_region 1 with fail
  rw [HV0.out]
  clear HV0
  go_wp2_with fail
  refine HJ.out.mono ?_
  rintro e w0 ⟨rfl, k0⟩
  have HW0 : Hid (Wr b l V0 w0) := (Wr.start HW.out.is).next k0
  have HP1 := hide (HP.out w0 HW0.out)
  clear k0 HJ HP c0 c4 c5
  obtain ⟨c0, c4, c5⟩ := HS.out w0 _ HW0.out
  go_wp2_with fail
  refine HP1.out.mono ?_
  rintro e w1 ⟨rfl, k1⟩
  have HW1 := hide (HW0.out.trans k1)
  have HT1 := hide (HTm.out w1 _ HW1.out HLN.out.2.1)
  clear k1 HP1 HTm c0 c4 c5
  obtain ⟨c0, c4, c5⟩ := HS.out w1 _ HW1.out
  go_wp2_with fail
  refine HT1.out.mono ?_
  rintro e w2 ⟨rfl, k2⟩
  have HW2 := hide (HW1.out.trans k2)
  have HP3 := hide (HP2.out w2 HW2.out)
  clear k2 HT1 HP2 c0 c4 c5
  go_wp2_with fail
  refine HP3.out.mono ?_
  rintro e w3 ⟨rfl, k3⟩
  have HW3 : Hid (Wr b Z W w3) := by rw [← HZ.out]; exact HW.out.trans (HW2.out.trans k3)
  clear k3 HP3
  go_wp2_with fail
  go_end0
  exact ⟨rfl, HW3.out⟩

end Go.Proofs.Ytppfohpgcofkbaa
