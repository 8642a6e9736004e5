import Derived.Test.YtmpnbaebdghopaaCl
import Derived.Deep.RegionHeld3
namespace Go.Proofs.Ytmpnbaebdghopaa
open Go.RowKit Go.Joins

set_option maxHeartbeats 4000000 in
set_option maxRecDepth 100000 in
theorem fre_6 (nb m : Nat) (ih : FreC nb m) (F : Fo) (W : World) (ba : Option Addr) (bc : Nat) (B : List ByteArray) (v : Value) (L : List ByteArray) (hm : F.size ≤ m + 1) (hf : Fit E F (E 3)) (hgd : (rdK F).good) (hs : F.Subs W (fun c => c < nb)) (hnb : nb ≤ W.heap.size) (hv : ∀ g, v.ownBlock = some g → nb ≤ g) (hb : SR W (fun c => c < W.heap.size ∧ v.ownBlock ≠ some c) ba bc B) (ho : W.ownsRow 0 9 1 v L.length (L.map Value.string)) (hB : B.length + F.size ≤ 16777216) (hL : L.length + F.size ≤ 16777216) (hkk : ∃ h ks al r, rdK F = .nd h ks al r ∧ h.k = 6) :
    Calls Try.prog 72 #[.agg F.vals.toArray, .slice ba B.length bc, v] W (FrP v (adds L ((rdK F).occ B B).flatten) W) := by
  obtain ⟨k, nm, mn, la, ln, lc, lk, na, nn, nc, nk, ka, kn, kc, kk, aa, an, ac, ak, rfl, -, hnm, h3, h4, h5, h6⟩ := core_open hf
  obtain ⟨hs3, hs4, hs5, hs6, -⟩ := hs
  obtain ⟨h, ks, al, r, hrk, hk1⟩ := hkk
  rw [rdK_nd, rdK_nil] at hgd hrk ⊢
  obtain ⟨rfl, -⟩ := Tm.nd.inj hrk
  obtain rfl : k = 6 := hk1
  rw [occ_one _ _ _ _ rfl]
  obtain ⟨hg1, hg2, hg3, -⟩ := hgd
  simp only [Fo.size] at hm hB hL
  simp only [Fo.vals]
  obtain ⟨oa, oc, rfl, -, -⟩ := sr_row ho
  obtain ⟨on, hon⟩ : ∃ n, n = L.length := ⟨_, rfl⟩
  obtain ⟨bn, hbn⟩ : ∃ n, n = B.length := ⟨_, rfl⟩
  rw [← hon] at ho hb hv
  rw [← hon, ← hbn]
  have hkx : kn ≤ 9223372036854775807 := sub_facts hs5
  have hax : an ≤ 9223372036854775807 := sub_facts hs6
  obtain ⟨V0, hV0⟩ : ∃ V, W.alloc (.cells #[.int .i64 6, .string nm, .bool mn, .slice la ln lc, .slice na nn nc, .slice ka kn kc, .slice aa an ac] 36) = V := ⟨_, rfl⟩
  have b0 : Below W.heap.size W V0 := by rw [← hV0]; exact below_alloc1 _ _
  have z0 : V0.heap.size = W.heap.size + 1 := by rw [← hV0]; simp
  have q0 : Bx V0 W.heap.size [.int .i64 6, .string nm, .bool mn, .slice la ln lc, .slice na nn nc, .slice ka kn kc, .slice aa an ac] := by rw [← hV0]; exact Bx.new _ _ _
  have hvo : ∀ c, (Value.slice oa on oc).ownBlock = some c → c < W.heap.size := own_lt ho
  have HOC : Hid (ow 6 nm (rdS nk) (fun X Y => (rdK kk).occ X Y) (fun X => (rdA ak).occ X X) B = ((rdK kk).occ (B ++ rdS nk) (B ++ rdS nk)).flatten) := by
    unfold Hid
    dsimp only [ow]
    rw [if_neg (by decide), if_pos (by decide)]
  obtain ⟨hsr4, hsl4⟩ := sr_of h4 hs4
  have hnk : nn ≤ nk.size := by
    have e1 := Fit.len h4
    rw [rep_len] at e1
    have e2 : (E 1).length = 1 := rfl
    rw [e2] at e1
    have := nk.len_le
    omega
  obtain ⟨P, hP⟩ : ∃ P, P = B ++ rdS nk := ⟨_, rfl⟩
  obtain ⟨pn, hpn⟩ : ∃ pn, pn = P.length := ⟨_, rfl⟩
  have hpl : pn = bn + nn := by rw [hpn, hP, List.length_append, hsl4, hbn]
  have HV : Hid (∀ g, (Value.slice oa on oc).ownBlock = some g → nb ≤ g) := hv
  have HVO : Hid (∀ g, (Value.slice oa on oc).ownBlock = some g → g < V0.heap.size) := fun g hg => by have := hvo g hg; omega
  have HSB : Hid (∀ V, Kept (fun c => c < V0.heap.size) V0 V → SR V (fun c => c < W.heap.size ∧ (Value.slice oa on oc).ownBlock ≠ some c) ba bc B) := fun V k => (hb.below b0 (fun c hc => hc.1)).kept k (fun c hc => ⟨by show c < _; have := hc.1; omega, by have := hc.1; omega⟩)
  have HSN : Hid (∀ V, Kept (fun c => c < V0.heap.size) V0 V → SR V (fun c => c < nb) na nc (rdS nk)) := fun V k => (hsr4.below b0 (fun c hc => by omega)).kept k (fun c hc => ⟨by show c < _; omega, by omega⟩)
  have HBE := hide (BR.empty V0 V0.drew (Kept.drew _ _))
  have HC4 : Hid (∀ V, Kept (fun c => c < V0.heap.size) V0 V → V.cell? ⟨W.heap.size, 4, none⟩ = some (.slice na nn nc)) := fun V k => (q0.kept k (by show W.heap.size < _; omega)).cel 4 _ rfl
  have kk0 := HC4.out V0.drew (Kept.drew _ _)
  have kk3 := HC4.out (V0.alloc (.cells #[] 9)).drew ((Kept.alloc _ _ _).trans (Kept.drew _ _))
  have HS1 : Hid (bn = ([] ++ B).length ∧ bn ≤ 33554432) := ⟨by simpa using hbn, by omega⟩
  have HS2 : Hid (nn = (rdS nk).length ∧ pn = ([] ++ B ++ rdS nk).length ∧ pn ≤ 33554432) := ⟨hsl4.symm, by rw [List.nil_append, ← hP]; exact hpn, by omega⟩
  have HBN := hide hbn
  have HPP := hide hP
  have HPN := hide hpn
  have HON := hide hon
  have HFX : Hid (∀ V, BR V0 V (.slice none 0 0) [] ∨ True → Kept (fun c => c < V0.heap.size) V0 V → FI V V (.slice oa on oc) (.slice oa on oc) L) := fun V _ k => FI.start (by
    rw [← hon]
    have h1 := ownsRow_kept ho (kt (S := fun _ => True) b0) (fun _ _ => trivial)
    exact ownsRow_kept h1 k (fun c hc => by show c < _; have := hvo c hc; omega))
  have HRX : Hid (∀ V, Kept (fun c => c < V0.heap.size) V0 V → Rd E (E 3) kn nb ka 0 kk V) := fun V k => ((Rd.start h5 hs5).below b0 hnb).kept k (by omega) (fun c hc => by show c < _; omega)
  have HQX : Hid (∀ V1 V, Kept (fun c => c < V0.heap.size) V0 V1 → Kept (fun c => c < V1.heap.size ∧ (Value.slice oa on oc).ownBlock ≠ some c) V1 V → Bx V W.heap.size [.int .i64 6, .string nm, .bool mn, .slice la ln lc, .slice na nn nc, .slice ka kn kc, .slice aa an ac]) := fun V1 V k1 k => (q0.kept k1 (by show W.heap.size < _; omega)).kept k ⟨by have := k1.size; omega, fun e => by have := hvo _ e; omega⟩
  have HKG := hide hg2
  have HNX : Hid (nb ≤ V0.heap.size) := by show _ ≤ _; omega
  have HM := hide hm
  have HSZ : Hid (P.length + kk.size ≤ 16777216 ∧ L.length + kk.size ≤ 16777216) := ⟨by omega, by omega⟩
  have HEX : Hid (∀ V1 wr a n c M, Kept (fun c => c < V0.heap.size) V0 V1 → FI V1 wr (.slice oa on oc) (.slice a n c) M → n = M.length → M = adds L ((rdK kk).occ P P).flatten → FrP (.slice oa on oc) (adds L (ow 6 nm (rdS nk) (fun X Y => (rdK kk).occ X Y) (fun X => (rdA ak).occ X X) B)) W (.returned (.slice a n c)) wr) := fun V1 wr a n c M k1 h1 h2 h3 => by
    rw [HOC.out, ← hP, ← h3]
    refine h1.frp h2 ((kt b0).trans2 k1 (fun c hc _ => by show c < _; omega))
  have HV0 := hide hV0
  have c0 := q0.cel 0 _ rfl
  clear hV0 b0 q0 z0 hb ho hvo hs3 hs4 hs5 hs6 hv hg1 hg2 hg3 hf hm hB hL h3 h4 h5 h6 hon hbn hrk hP hpn HOC hsr4 hsl4 hnk hpl hnb
  go_enter Try.func72, Try.ntmps72
  go_upto_region 1 with fail
  rw [HV0.out]
  clear HV0
  go_upto_region 8 with fail
  go_region_held3 (fun V => V.cell? ⟨W.heap.size, 4, none⟩ = some (.slice na nn nc))
    (first | with_reducible exact kk0 | with_reducible exact kk1 | with_reducible exact kk2 | with_reducible exact kk3)
    (first
      | (refine sr_drawB (by rfl) _ _ (by rfl) V0 _ (.slice (some ⟨V0.heap.size, 0, none⟩) 0 0) [] B bn bn HBN.out HS1.out.1 ba bc _ (by rfl) HBE.out (by rfl) (HSB.out _ HBE.out.kp) HS1.out.2 ?_; rintro ga gc w5 hB5; have HB5 := hide hB5; have kk1 := HC4.out w5 hB5.kp; clear hB5)
      | (refine sr_drawB (by rfl) _ _ (by rfl) V0 w5 (.slice ga bn gc) ([] ++ B) (rdS nk) nn pn HS2.out.1 HS2.out.2.1 na nc _ (by rfl) HB5.out (by rfl) (HSN.out _ HB5.out.kp) HS2.out.2.2 ?_; rintro pa pc V1 hB6; have HB6 := hide hB6; have kk2 := HC4.out V1 hB6.kp; clear hB6))
  have HB7 : Hid (BR V0 V1 (.slice pa pn pc) P) := by rw [HPP.out]; exact HB6.out
  have HSR : Hid (SR V1 (fun c => c < V1.heap.size ∧ (Value.slice oa on oc).ownBlock ≠ some c) pa pc P) := HB7.out.sr HVO.out
  have HFI := hide (HFX.out V1 (.inr trivial) HB7.out.kp)
  have HRK := hide (HRX.out V1 HB7.out.kp)
  have HQK := hide (fun V k => HQX.out V1 V HB7.out.kp k)
  have HNZ : Hid (nb ≤ V1.heap.size) := Nat.le_trans HNX.out HB7.out.kp.size
  have HEND := hide (fun wr a n c M h1 h2 h3 => HEX.out V1 wr a n c M HB7.out.kp h1 h2 h3)
  clear HB6 HB5 HBE HFX HRX HQX HNX HEX HSB HSN HC4 kk0 kk1 kk2 kk3 HB7 HVO HS1 HS2 HPP HBN
  go_wp2_with fail
  go_loopw [2, 9] (fun s2 s9 wr => ∃ (i : Nat) (r : Fo) (M : List ByteArray) (a : Option Addr) (n c : Nat), s2 = .slice a n c ∧ s9 = .int .i64 i ∧ i ≤ kn ∧ Hid (n = M.length) ∧ Hid (adds M ((rdK r).occ P P).flatten = adds L ((rdK kk).occ P P).flatten ∧ (rdK r).good ∧ M.length + r.size ≤ 16777216 ∧ r.size ≤ kk.size) ∧ Hid (Rd E (E 3) kn nb ka i r wr) ∧ Hid (FI V1 wr (.slice oa on oc) (.slice a n c) M)) (fun _ s9 _ => kn - (intOf s9).toNat)
  case atStart => exact ⟨0, kk, L, _, _, _, rfl, rfl, Nat.zero_le _, HON, ⟨rfl, HKG.out, by have := HSZ.out; omega, Nat.le_refl _⟩, HRK, HFI⟩
  case round =>
    obtain ⟨i, r, M, a, n, c, rfl, rfl, hin, hlen, hinv, hRd, hFI⟩ := hrel
    have c5 := (HQK.out wr hFI.out.kp).cel 5 _ rfl
    by_cases hi : i < kn
    · obtain ⟨x, rr, b, o, rfl, hx, rfl, hb, hc, hxs, hR1⟩ := hRd.out.next hi (by decide)
      obtain ⟨g1, g2, g3, g4⟩ := hinv.out
      rw [occK_app hx, List.flatten_cons, adds_append] at g1
      rw [goodK_app hx] at g2
      rw [Fo.app_size] at g3 g4
      have hii : (i : Int) < kn := by omega
      have hvg : ∀ g, (Value.slice a n c).ownBlock = some g → nb ≤ g := fun g hg => by
        rcases hFI.out.at_ g hg with e | e
        · exact HV.out g e
        · have := HNZ.out; omega
      have HC := hide (ih x wr pa pc P (.slice a n c) M (by have := HM.out; omega) hx g2.1 hxs (by have := HNZ.out; have := hFI.out.kp.size; omega) hvg (hFI.out.sr HSR.out) hFI.out.own (by have := HSZ.out; omega) (by omega))
      rw [← HPN.out] at HC
      obtain ⟨M2, hM2⟩ : ∃ M2, M2 = adds M ((rdK x).occ P P).flatten := ⟨_, rfl⟩
      rw [← hM2] at HC g1
      have HG : Hid (adds M2 ((rdK rr).occ P P).flatten = adds L ((rdK kk).occ P P).flatten ∧ (rdK rr).good ∧ M2.length + rr.size ≤ 16777216 ∧ rr.size ≤ kk.size) := by
        refine ⟨g1, g2.2, ?_, by omega⟩
        have h1 := adds_len ((rdK x).occ P P).flatten M
        have h2 := occK_le x P P
        rw [← hM2] at h1
        omega
      have HR1 := hide hR1
      have HVG := hide hvg
      obtain ⟨xk, xnm, xmn, xla, xln, xlc, xlk, xna, xnn, xnc, xnk, xka, xkn, xkc, xkk, xaa, xan, xac, xak, rfl, -⟩ := core_open hx
      simp only [Fo.vals] at HC hc
      have p0 : wr.cell? ⟨b, o + i * 7, none⟩ = some (.int .i64 xk) := hc 0 _ rfl
      have p1 : wr.cell? ⟨b, o + i * 7 + 1, none⟩ = some (.string xnm) := hc 1 _ rfl
      have p2 : wr.cell? ⟨b, o + i * 7 + 2, none⟩ = some (.bool xmn) := hc 2 _ rfl
      have p3 : wr.cell? ⟨b, o + i * 7 + 3, none⟩ = some (.slice xla xln xlc) := hc 3 _ rfl
      have p4 : wr.cell? ⟨b, o + i * 7 + 4, none⟩ = some (.slice xna xnn xnc) := hc 4 _ rfl
      have p5 : wr.cell? ⟨b, o + i * 7 + 5, none⟩ = some (.slice xka xkn xkc) := hc 5 _ rfl
      have p6 : wr.cell? ⟨b, o + i * 7 + 6, none⟩ = some (.slice xaa xan xac) := hc 6 _ rfl
      clear hc hxs hx g1 g2 g3 g4 hinv hRd hR1 hvg hM2
      go_wp2_with fail
      refine HC.out.mono ?_
      clear HC
      rintro e w1 ⟨a1, c1, rfl, ho1, hk1, hg1⟩
      have HF1 := hide (hFI.out.call ho1 hk1 hg1)
      have HRn := hide (HR1.out.kept hk1 (by have := HNZ.out; have := hFI.out.kp.size; omega) (fun c' hc' e => by have := HVG.out c' e; omega))
      obtain ⟨n2, hn2⟩ : ∃ n2, n2 = M2.length := ⟨_, rfl⟩
      rw [← hn2] at HF1
      rw [← hn2]
      have HN2 := hide hn2
      clear ho1 hk1 hg1 hn2 HVG p0 p1 p2 p3 p4 p5 p6
      go_wp2_with fail
      go_roundw
      case rel => exact ⟨i + 1, rr, M2, _, _, _, rfl, by go_num, by omega, HN2, HG, HRn, HF1⟩
      case measure => simp [intOf]; omega
    · obtain ⟨rfl, -⟩ := hRd.out.done hi
      obtain ⟨g1, -, -, -⟩ := hinv.out
      rw [rdK_nil] at g1
      have HG : Hid (M = adds L ((rdK kk).occ P P).flatten) := g1
      have hji : ¬ (i : Int) < kn := by omega
      clear g1 hinv hRd
      go_wp2_with fail
      go_ret
      exact HEND.out wr a n c M hFI.out hlen.out HG.out

set_option maxHeartbeats 4000000 in
set_option maxRecDepth 100000 in
theorem fre_7 (nb m : Nat) (ih : FreC nb m) (F : Fo) (W : World) (ba : Option Addr) (bc : Nat) (B : List ByteArray) (v : Value) (L : List ByteArray) (hm : F.size ≤ m + 1) (hf : Fit E F (E 3)) (hgd : (rdK F).good) (hs : F.Subs W (fun c => c < nb)) (hnb : nb ≤ W.heap.size) (hv : ∀ g, v.ownBlock = some g → nb ≤ g) (hb : SR W (fun c => c < W.heap.size ∧ v.ownBlock ≠ some c) ba bc B) (ho : W.ownsRow 0 9 1 v L.length (L.map Value.string)) (hB : B.length + F.size ≤ 16777216) (hL : L.length + F.size ≤ 16777216) (hkk : ∃ h ks al r, rdK F = .nd h ks al r ∧ h.k = 7) :
    Calls Try.prog 72 #[.agg F.vals.toArray, .slice ba B.length bc, v] W (FrP v (adds L ((rdK F).occ B B).flatten) W) := by
  obtain ⟨k, nm, mn, la, ln, lc, lk, na, nn, nc, nk, ka, kn, kc, kk, aa, an, ac, ak, rfl, -, hnm, h3, h4, h5, h6⟩ := core_open hf
  obtain ⟨hs3, hs4, hs5, hs6, -⟩ := hs
  obtain ⟨h, ks, al, r, hrk, hk1⟩ := hkk
  rw [rdK_nd, rdK_nil] at hgd hrk ⊢
  obtain ⟨rfl, -⟩ := Tm.nd.inj hrk
  obtain rfl : k = 7 := hk1
  rw [occ_one _ _ _ _ rfl]
  obtain ⟨hg1, hg2, hg3, -⟩ := hgd
  simp only [Fo.size] at hm hB hL
  simp only [Fo.vals]
  obtain ⟨oa, oc, rfl, -, -⟩ := sr_row ho
  obtain ⟨on, hon⟩ : ∃ n, n = L.length := ⟨_, rfl⟩
  obtain ⟨bn, hbn⟩ : ∃ n, n = B.length := ⟨_, rfl⟩
  rw [← hon] at ho hb hv
  rw [← hon, ← hbn]
  have hkx : kn ≤ 9223372036854775807 := sub_facts hs5
  have hax : an ≤ 9223372036854775807 := sub_facts hs6
  obtain ⟨V0, hV0⟩ : ∃ V, W.alloc (.cells #[.int .i64 7, .string nm, .bool mn, .slice la ln lc, .slice na nn nc, .slice ka kn kc, .slice aa an ac] 36) = V := ⟨_, rfl⟩
  have b0 : Below W.heap.size W V0 := by rw [← hV0]; exact below_alloc1 _ _
  have z0 : V0.heap.size = W.heap.size + 1 := by rw [← hV0]; simp
  have q0 : Bx V0 W.heap.size [.int .i64 7, .string nm, .bool mn, .slice la ln lc, .slice na nn nc, .slice ka kn kc, .slice aa an ac] := by rw [← hV0]; exact Bx.new _ _ _
  have hvo : ∀ c, (Value.slice oa on oc).ownBlock = some c → c < W.heap.size := own_lt ho
  have HOC : Hid (ow 7 nm (rdS nk) (fun X Y => (rdK kk).occ X Y) (fun X => (rdA ak).occ X X) B = ((rdK kk).occ (B ++ rdS nk) (B ++ rdS nk)).flatten) := by
    unfold Hid
    dsimp only [ow]
    rw [if_neg (by decide), if_pos (by decide)]
  obtain ⟨hsr4, hsl4⟩ := sr_of h4 hs4
  have hnk : nn ≤ nk.size := by
    have e1 := Fit.len h4
    rw [rep_len] at e1
    have e2 : (E 1).length = 1 := rfl
    rw [e2] at e1
    have := nk.len_le
    omega
  obtain ⟨P, hP⟩ : ∃ P, P = B ++ rdS nk := ⟨_, rfl⟩
  obtain ⟨pn, hpn⟩ : ∃ pn, pn = P.length := ⟨_, rfl⟩
  have hpl : pn = bn + nn := by rw [hpn, hP, List.length_append, hsl4, hbn]
  have HV : Hid (∀ g, (Value.slice oa on oc).ownBlock = some g → nb ≤ g) := hv
  have HVO : Hid (∀ g, (Value.slice oa on oc).ownBlock = some g → g < V0.heap.size) := fun g hg => by have := hvo g hg; omega
  have HSB : Hid (∀ V, Kept (fun c => c < V0.heap.size) V0 V → SR V (fun c => c < W.heap.size ∧ (Value.slice oa on oc).ownBlock ≠ some c) ba bc B) := fun V k => (hb.below b0 (fun c hc => hc.1)).kept k (fun c hc => ⟨by show c < _; have := hc.1; omega, by have := hc.1; omega⟩)
  have HSN : Hid (∀ V, Kept (fun c => c < V0.heap.size) V0 V → SR V (fun c => c < nb) na nc (rdS nk)) := fun V k => (hsr4.below b0 (fun c hc => by omega)).kept k (fun c hc => ⟨by show c < _; omega, by omega⟩)
  have HBE := hide (BR.empty V0 V0.drew (Kept.drew _ _))
  have HC4 : Hid (∀ V, Kept (fun c => c < V0.heap.size) V0 V → V.cell? ⟨W.heap.size, 4, none⟩ = some (.slice na nn nc)) := fun V k => (q0.kept k (by show W.heap.size < _; omega)).cel 4 _ rfl
  have kk0 := HC4.out V0.drew (Kept.drew _ _)
  have kk3 := HC4.out (V0.alloc (.cells #[] 9)).drew ((Kept.alloc _ _ _).trans (Kept.drew _ _))
  have HS1 : Hid (bn = ([] ++ B).length ∧ bn ≤ 33554432) := ⟨by simpa using hbn, by omega⟩
  have HS2 : Hid (nn = (rdS nk).length ∧ pn = ([] ++ B ++ rdS nk).length ∧ pn ≤ 33554432) := ⟨hsl4.symm, by rw [List.nil_append, ← hP]; exact hpn, by omega⟩
  have HBN := hide hbn
  have HPP := hide hP
  have HPN := hide hpn
  have HON := hide hon
  have HFX : Hid (∀ V, BR V0 V (.slice none 0 0) [] ∨ True → Kept (fun c => c < V0.heap.size) V0 V → FI V V (.slice oa on oc) (.slice oa on oc) L) := fun V _ k => FI.start (by
    rw [← hon]
    have h1 := ownsRow_kept ho (kt (S := fun _ => True) b0) (fun _ _ => trivial)
    exact ownsRow_kept h1 k (fun c hc => by show c < _; have := hvo c hc; omega))
  have HRX : Hid (∀ V, Kept (fun c => c < V0.heap.size) V0 V → Rd E (E 3) kn nb ka 0 kk V) := fun V k => ((Rd.start h5 hs5).below b0 hnb).kept k (by omega) (fun c hc => by show c < _; omega)
  have HQX : Hid (∀ V1 V, Kept (fun c => c < V0.heap.size) V0 V1 → Kept (fun c => c < V1.heap.size ∧ (Value.slice oa on oc).ownBlock ≠ some c) V1 V → Bx V W.heap.size [.int .i64 7, .string nm, .bool mn, .slice la ln lc, .slice na nn nc, .slice ka kn kc, .slice aa an ac]) := fun V1 V k1 k => (q0.kept k1 (by show W.heap.size < _; omega)).kept k ⟨by have := k1.size; omega, fun e => by have := hvo _ e; omega⟩
  have HKG := hide hg2
  have HNX : Hid (nb ≤ V0.heap.size) := by show _ ≤ _; omega
  have HM := hide hm
  have HSZ : Hid (P.length + kk.size ≤ 16777216 ∧ L.length + kk.size ≤ 16777216) := ⟨by omega, by omega⟩
  have HEX : Hid (∀ V1 wr a n c M, Kept (fun c => c < V0.heap.size) V0 V1 → FI V1 wr (.slice oa on oc) (.slice a n c) M → n = M.length → M = adds L ((rdK kk).occ P P).flatten → FrP (.slice oa on oc) (adds L (ow 7 nm (rdS nk) (fun X Y => (rdK kk).occ X Y) (fun X => (rdA ak).occ X X) B)) W (.returned (.slice a n c)) wr) := fun V1 wr a n c M k1 h1 h2 h3 => by
    rw [HOC.out, ← hP, ← h3]
    refine h1.frp h2 ((kt b0).trans2 k1 (fun c hc _ => by show c < _; omega))
  have HV0 := hide hV0
  have c0 := q0.cel 0 _ rfl
  clear hV0 b0 q0 z0 hb ho hvo hs3 hs4 hs5 hs6 hv hg1 hg2 hg3 hf hm hB hL h3 h4 h5 h6 hon hbn hrk hP hpn HOC hsr4 hsl4 hnk hpl hnb
  go_enter Try.func72, Try.ntmps72
  go_upto_region 1 with fail
  rw [HV0.out]
  clear HV0
  go_upto_region 8 with fail
  go_region_held3 (fun V => V.cell? ⟨W.heap.size, 4, none⟩ = some (.slice na nn nc))
    (first | with_reducible exact kk0 | with_reducible exact kk1 | with_reducible exact kk2 | with_reducible exact kk3)
    (first
      | (refine sr_drawB (by rfl) _ _ (by rfl) V0 _ (.slice (some ⟨V0.heap.size, 0, none⟩) 0 0) [] B bn bn HBN.out HS1.out.1 ba bc _ (by rfl) HBE.out (by rfl) (HSB.out _ HBE.out.kp) HS1.out.2 ?_; rintro ga gc w5 hB5; have HB5 := hide hB5; have kk1 := HC4.out w5 hB5.kp; clear hB5)
      | (refine sr_drawB (by rfl) _ _ (by rfl) V0 w5 (.slice ga bn gc) ([] ++ B) (rdS nk) nn pn HS2.out.1 HS2.out.2.1 na nc _ (by rfl) HB5.out (by rfl) (HSN.out _ HB5.out.kp) HS2.out.2.2 ?_; rintro pa pc V1 hB6; have HB6 := hide hB6; have kk2 := HC4.out V1 hB6.kp; clear hB6))
  have HB7 : Hid (BR V0 V1 (.slice pa pn pc) P) := by rw [HPP.out]; exact HB6.out
  have HSR : Hid (SR V1 (fun c => c < V1.heap.size ∧ (Value.slice oa on oc).ownBlock ≠ some c) pa pc P) := HB7.out.sr HVO.out
  have HFI := hide (HFX.out V1 (.inr trivial) HB7.out.kp)
  have HRK := hide (HRX.out V1 HB7.out.kp)
  have HQK := hide (fun V k => HQX.out V1 V HB7.out.kp k)
  have HNZ : Hid (nb ≤ V1.heap.size) := Nat.le_trans HNX.out HB7.out.kp.size
  have HEND := hide (fun wr a n c M h1 h2 h3 => HEX.out V1 wr a n c M HB7.out.kp h1 h2 h3)
  clear HB6 HB5 HBE HFX HRX HQX HNX HEX HSB HSN HC4 kk0 kk1 kk2 kk3 HB7 HVO HS1 HS2 HPP HBN
  go_wp2_with fail
  go_loopw [2, 9] (fun s2 s9 wr => ∃ (i : Nat) (r : Fo) (M : List ByteArray) (a : Option Addr) (n c : Nat), s2 = .slice a n c ∧ s9 = .int .i64 i ∧ i ≤ kn ∧ Hid (n = M.length) ∧ Hid (adds M ((rdK r).occ P P).flatten = adds L ((rdK kk).occ P P).flatten ∧ (rdK r).good ∧ M.length + r.size ≤ 16777216 ∧ r.size ≤ kk.size) ∧ Hid (Rd E (E 3) kn nb ka i r wr) ∧ Hid (FI V1 wr (.slice oa on oc) (.slice a n c) M)) (fun _ s9 _ => kn - (intOf s9).toNat)
  case atStart => exact ⟨0, kk, L, _, _, _, rfl, rfl, Nat.zero_le _, HON, ⟨rfl, HKG.out, by have := HSZ.out; omega, Nat.le_refl _⟩, HRK, HFI⟩
  case round =>
    obtain ⟨i, r, M, a, n, c, rfl, rfl, hin, hlen, hinv, hRd, hFI⟩ := hrel
    have c5 := (HQK.out wr hFI.out.kp).cel 5 _ rfl
    by_cases hi : i < kn
    · obtain ⟨x, rr, b, o, rfl, hx, rfl, hb, hc, hxs, hR1⟩ := hRd.out.next hi (by decide)
      obtain ⟨g1, g2, g3, g4⟩ := hinv.out
      rw [occK_app hx, List.flatten_cons, adds_append] at g1
      rw [goodK_app hx] at g2
      rw [Fo.app_size] at g3 g4
      have hii : (i : Int) < kn := by omega
      have hvg : ∀ g, (Value.slice a n c).ownBlock = some g → nb ≤ g := fun g hg => by
        rcases hFI.out.at_ g hg with e | e
        · exact HV.out g e
        · have := HNZ.out; omega
      have HC := hide (ih x wr pa pc P (.slice a n c) M (by have := HM.out; omega) hx g2.1 hxs (by have := HNZ.out; have := hFI.out.kp.size; omega) hvg (hFI.out.sr HSR.out) hFI.out.own (by have := HSZ.out; omega) (by omega))
      rw [← HPN.out] at HC
      obtain ⟨M2, hM2⟩ : ∃ M2, M2 = adds M ((rdK x).occ P P).flatten := ⟨_, rfl⟩
      rw [← hM2] at HC g1
      have HG : Hid (adds M2 ((rdK rr).occ P P).flatten = adds L ((rdK kk).occ P P).flatten ∧ (rdK rr).good ∧ M2.length + rr.size ≤ 16777216 ∧ rr.size ≤ kk.size) := by
        refine ⟨g1, g2.2, ?_, by omega⟩
        have h1 := adds_len ((rdK x).occ P P).flatten M
        have h2 := occK_le x P P
        rw [← hM2] at h1
        omega
      have HR1 := hide hR1
      have HVG := hide hvg
      obtain ⟨xk, xnm, xmn, xla, xln, xlc, xlk, xna, xnn, xnc, xnk, xka, xkn, xkc, xkk, xaa, xan, xac, xak, rfl, -⟩ := core_open hx
      simp only [Fo.vals] at HC hc
      have p0 : wr.cell? ⟨b, o + i * 7, none⟩ = some (.int .i64 xk) := hc 0 _ rfl
      have p1 : wr.cell? ⟨b, o + i * 7 + 1, none⟩ = some (.string xnm) := hc 1 _ rfl
      have p2 : wr.cell? ⟨b, o + i * 7 + 2, none⟩ = some (.bool xmn) := hc 2 _ rfl
      have p3 : wr.cell? ⟨b, o + i * 7 + 3, none⟩ = some (.slice xla xln xlc) := hc 3 _ rfl
      have p4 : wr.cell? ⟨b, o + i * 7 + 4, none⟩ = some (.slice xna xnn xnc) := hc 4 _ rfl
      have p5 : wr.cell? ⟨b, o + i * 7 + 5, none⟩ = some (.slice xka xkn xkc) := hc 5 _ rfl
      have p6 : wr.cell? ⟨b, o + i * 7 + 6, none⟩ = some (.slice xaa xan xac) := hc 6 _ rfl
      clear hc hxs hx g1 g2 g3 g4 hinv hRd hR1 hvg hM2
      go_wp2_with fail
      refine HC.out.mono ?_
      clear HC
      rintro e w1 ⟨a1, c1, rfl, ho1, hk1, hg1⟩
      have HF1 := hide (hFI.out.call ho1 hk1 hg1)
      have HRn := hide (HR1.out.kept hk1 (by have := HNZ.out; have := hFI.out.kp.size; omega) (fun c' hc' e => by have := HVG.out c' e; omega))
      obtain ⟨n2, hn2⟩ : ∃ n2, n2 = M2.length := ⟨_, rfl⟩
      rw [← hn2] at HF1
      rw [← hn2]
      have HN2 := hide hn2
      clear ho1 hk1 hg1 hn2 HVG p0 p1 p2 p3 p4 p5 p6
      go_wp2_with fail
      go_roundw
      case rel => exact ⟨i + 1, rr, M2, _, _, _, rfl, by go_num, by omega, HN2, HG, HRn, HF1⟩
      case measure => simp [intOf]; omega
    · obtain ⟨rfl, -⟩ := hRd.out.done hi
      obtain ⟨g1, -, -, -⟩ := hinv.out
      rw [rdK_nil] at g1
      have HG : Hid (M = adds L ((rdK kk).occ P P).flatten) := g1
      have hji : ¬ (i : Int) < kn := by omega
      clear g1 hinv hRd
      go_wp2_with fail
      go_ret
      exact HEND.out wr a n c M hFI.out hlen.out HG.out

end Go.Proofs.Ytmpnbaebdghopaa
