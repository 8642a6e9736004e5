import Derived.Test.YtmpnbaebdghopaaCm
namespace Go.Proofs.Ytmpnbaebdghopaa
open Go.RowKit Go.Joins

/-- The same, with how the world has grown. -/
theorem sr_drawG {ops : Array Oper} {o : Oper} {a : Act} {K : Act → World → Prop} {Q : Exit → Act → World → Prop} {E : Prop} (hgd : o.guard = none) (s x : Operand)
    (ho : o.op = .call { callee := .builtin .append, args := #[s, x], argTypes := #[25, 25] }) (V0 w : World) (v : Value) (L M : List ByteArray) (m t : Nat) (hm : m = M.length) (ht : t = (L ++ M).length) (b : Option Addr) (c : Nat) (S : Nat → Prop) (hs : a.eval s = v) (hown : BR V0 w v L) (hx : a.eval x = .slice b m c) (hM : SR w S b c M) (hle : t ≤ 33554432)
    (h : ∀ ga gc w', BR V0 w' (.slice ga t gc) (L ++ M) → w.grownBy w' v.ownBlock → K (a.put o.dst (.slice ga t gc)) w') :
    if Region.wanted o (yielded ops a.tmps) = true then Oper.wp Try.prog o a w K Q else E := by
  rw [List.length_append] at ht
  refine sr_draw hgd s x ho w v L M L.length m rfl hm b c S hs hown.own hx hM (by omega) (fun ga gc w' h1 h2 h3 => ?_)
  have e : L.length + m = t := by omega
  rw [e] at h1 h3 ⊢
  refine h ga gc w' (hown.grow ?_ h2 h3) h2
  have e2 : (L ++ M).length = t := by rw [List.length_append]; omega
  rw [e2]
  exact h1

theorem BR.keep {V0 w w' : World} {v : Value} {P : List ByteArray} (h : BR V0 w v P) (k : Kept (fun _ => True) w w') : BR V0 w' v P :=
  ⟨ownsRow_kept h.own k (fun _ _ => trivial), h.hi, h.kp.trans (k.mono (fun _ _ _ => trivial))⟩

/-- One text in a block of its own. -/
theorem sr_one {w : World} {g : Nat} {x : ByteArray} (h : w.heap[g]? = some (.cells #[.string x] 9)) : SR w (fun _ => True) (some ⟨g, 0, none⟩) 1 [x] :=
  ⟨Nat.le_refl _, by simp [maxLen], fun _ => ⟨g, 0, rfl, trivial, fun i y hy => by
    cases i with
    | zero =>
      simp only [List.getElem?_cons_zero, Option.some.injEq] at hy
      subst hy
      simp [World.cell?, h]
    | succ i => simp at hy⟩⟩

theorem FI.trans {V0 w1 V2 wr : World} {v0 v1 v : Value} {M1 M : List ByteArray} (h : FI V0 w1 v0 v1 M1) (k : Kept (fun c => c < w1.heap.size) w1 V2) (g : FI V2 wr v1 v M) : FI V0 wr v0 v M := by
  have hz := h.kp.size
  have kz := k.size
  refine ⟨g.own, fun c hc => ?_, (h.kp.trans2 k (fun b hb _ => by show b < _; omega)).trans2 g.kp (fun b hb hs => ⟨by omega, fun e => ?_⟩)⟩
  · rcases g.at_ c hc with e | e
    · exact h.at_ c e
    · exact .inr (by omega)
  · rcases h.at_ b e with e2 | e2
    · exact hs.2 e2
    · omega

set_option maxHeartbeats 4000000 in
set_option maxRecDepth 100000 in
theorem fre_8 (nb m : Nat) (ih : FreC nb m) (F : Fo) (W : World) (ba : Option Addr) (bc : Nat) (B : List ByteArray) (v : Value) (L : List ByteArray) (hm : F.size ≤ m + 1) (hf : Fit E F (E 3)) (hgd : (rdK F).good) (hs : F.Subs W (fun c => c < nb)) (hnb : nb ≤ W.heap.size) (hv : ∀ g, v.ownBlock = some g → nb ≤ g) (hb : SR W (fun c => c < W.heap.size ∧ v.ownBlock ≠ some c) ba bc B) (ho : W.ownsRow 0 9 1 v L.length (L.map Value.string)) (hB : B.length + F.size ≤ 16777216) (hL : L.length + F.size ≤ 16777216) (hkk : ∃ h ks al r, rdK F = .nd h ks al r ∧ h.k = 8) :
    Calls Try.prog 72 #[.agg F.vals.toArray, .slice ba B.length bc, v] W (FrP v (adds L ((rdK F).occ B B).flatten) W) := by
  obtain ⟨k, nm, mn, la, ln, lc, lk, na, nn, nc, nk, ka, kn, kc, kk, aa, an, ac, ak, rfl, -, hnm, h3, h4, h5, h6⟩ := core_open hf
  obtain ⟨hs3, hs4, hs5, hs6, -⟩ := hs
  obtain ⟨h, ks, al, r, hrk, hk1⟩ := hkk
  rw [rdK_nd, rdK_nil] at hgd hrk ⊢
  obtain ⟨rfl, -⟩ := Tm.nd.inj hrk
  obtain rfl : k = 8 := hk1
  rw [occ_one _ _ _ _ rfl]
  obtain ⟨hg1, hg2, hg3, -⟩ := hgd
  simp only [Fo.size] at hm hB hL
  simp only [Fo.vals]
  obtain ⟨oa, oc, rfl, -, -⟩ := sr_row ho
  obtain ⟨on, hon⟩ : ∃ n, n = L.length := ⟨_, rfl⟩
  obtain ⟨bn, hbn⟩ : ∃ n, n = B.length := ⟨_, rfl⟩
  rw [← hon] at ho hb hv
  rw [← hon, ← hbn]
  have hkx : kn ≤ 9223372036854775807 := sub_facts hs5
  have hax : an ≤ 9223372036854775807 := sub_facts hs6
  obtain ⟨V0, hV0⟩ : ∃ V, W.alloc (.cells #[.int .i64 8, .string nm, .bool mn, .slice la ln lc, .slice na nn nc, .slice ka kn kc, .slice aa an ac] 36) = V := ⟨_, rfl⟩
  have b0 : Below W.heap.size W V0 := by rw [← hV0]; exact below_alloc1 _ _
  have z0 : V0.heap.size = W.heap.size + 1 := by rw [← hV0]; simp
  have q0 : Bx V0 W.heap.size [.int .i64 8, .string nm, .bool mn, .slice la ln lc, .slice na nn nc, .slice ka kn kc, .slice aa an ac] := by rw [← hV0]; exact Bx.new _ _ _
  have hvo : ∀ c, (Value.slice oa on oc).ownBlock = some c → c < W.heap.size := own_lt ho
  obtain ⟨-, -, -, h12, -⟩ := (shp_8 _ _ _ _ _ _ _ _).1 hg1
  rw [rdK_len kn kk h5] at h12
  have hRk := (Rd.start h5 hs5).below b0 hnb
  obtain ⟨x0, rr, kb, ko, rfl, hx0, rfl, hkb, hkc, hxs0, hRr⟩ := hRk.next (by omega) (by decide)
  rw [goodK_app hx0] at hg2
  rw [Fo.app_size] at hm hB hL
  have hvg : ∀ g, (Value.slice oa on oc).ownBlock = some g → g < V0.heap.size := fun g hg => by have := hvo g hg; omega
  have hb0 := (hb.below b0 (fun c hc => hc.1)).mono (T := fun c => c < V0.heap.size ∧ (Value.slice oa on oc).ownBlock ≠ some c) (fun c hc => ⟨by have := hc.1; omega, hc.2⟩)
  have ho0 := ownsRow_kept ho (kt (S := fun _ => True) b0) (fun _ _ => trivial)
  have HC0 := hide (ih x0 V0 ba bc B (.slice oa on oc) L (by omega) hx0 hg2.1 hxs0 (by omega) hv hb0 (by rw [← hon]; exact ho0) (by omega) (by omega))
  rw [← hbn] at HC0
  have HFI0 : Hid (FI V0 V0 (.slice oa on oc) (.slice oa on oc) L) := FI.start (by rw [← hon]; exact ho0)
  obtain ⟨M1, hM1⟩ : ∃ M1, adds L ((rdK x0).occ B B).flatten = M1 := ⟨_, rfl⟩
  rw [hM1] at HC0
  have hml : M1.length ≤ L.length + x0.size := by
    have h1 := adds_len ((rdK x0).occ B B).flatten L
    have h2 := occK_le x0 B B
    rw [hM1] at h1
    omega
  have hak2 : Fit E ak (rep (E 2) an) := h6
  have hRa := (Rd.start h6 hs6).below b0 hnb
  have HVb := hide hv
  have HM : Hid (ak.size ≤ m ∧ rr.size ≤ m) := ⟨by omega, by omega⟩
  have HSZ0 : Hid (B.length + ak.size + 1 ≤ 16777216 ∧ B.length + rr.size + 1 ≤ 16777216 ∧ M1.length + ak.size + rr.size ≤ 16777216) := ⟨by omega, by omega, by omega⟩
  have HAG := hide hg3
  have HRG := hide hg2.2
  have HK12 := hide h12
  have HM1 := hide hM1
  have HBN := hide hbn
  have HON := hide hon
  have HNZ0 : Hid (nb ≤ V0.heap.size) := by show _ ≤ _; omega
  have HQ0 : Hid (∀ V, Kept (fun c => c < V0.heap.size ∧ (Value.slice oa on oc).ownBlock ≠ some c) V0 V → Bx V W.heap.size [.int .i64 8, .string nm, .bool mn, .slice la ln lc, .slice na nn nc, .slice (some ⟨kb, ko, none⟩) kn kc, .slice aa an ac]) := fun V k => q0.kept k ⟨by omega, fun e => by have := hvo _ e; omega⟩
  have HSB0 := hide hb0
  have HVO := hide hvo
  have HZ0 := hide z0
  have HRA0 := hide hRa
  have HRR0 := hide hRr
  have HKW : Hid (Kept (fun _ => True) W V0) := kt b0
  have HOW8 : Hid (∀ I, inB nm B = I → adds L (ow 8 nm (rdS nk) (fun X Y => (rdK (x0.app rr)).occ X Y) (fun X => (rdA ak).occ X X) B) = adds M1 (((rdA ak).occ I I).flatten ++ ((rdK rr).occ I I).flatten)) := fun I hI => by
    rw [← hM1, ← adds_append]
    congr 1
    dsimp only [ow]
    rw [if_neg (by decide), if_neg (by decide), if_pos rfl, hI, occK_app hx0]
    rfl
  have HV0 := hide hV0
  have c0 := q0.cel 0 _ rfl
  have c5 := q0.cel 5 _ rfl
  have hk0 : (0 : Int) < kn := by omega
  have hk0' : 0 < kn := by omega
  obtain ⟨OW, hOW⟩ : ∃ OW, (ow 8 nm (rdS nk) (fun X Y => (rdK (x0.app rr)).occ X Y) (fun X => (rdA ak).occ X X) B) = OW := ⟨_, rfl⟩
  rw [hOW] at HOW8 ⊢
  obtain ⟨xk, xnm, xmn, xla, xln, xlc, xlk, xna, xnn, xnc, xnk, xka, xkn, xkc, xkk, xaa, xan, xac, xak, hxe, -⟩ := core_open hx0
  rw [hxe] at HC0 hkc
  simp only [Fo.vals] at HC0 hkc
  have p0 : V0.cell? ⟨kb, ko, none⟩ = some (.int .i64 xk) := by simpa using hkc 0 _ rfl
  have p1 : V0.cell? ⟨kb, ko + 1, none⟩ = some (.string xnm) := by simpa using hkc 1 _ rfl
  have p2 : V0.cell? ⟨kb, ko + 2, none⟩ = some (.bool xmn) := by simpa using hkc 2 _ rfl
  have p3 : V0.cell? ⟨kb, ko + 3, none⟩ = some (.slice xla xln xlc) := by simpa using hkc 3 _ rfl
  have p4 : V0.cell? ⟨kb, ko + 4, none⟩ = some (.slice xna xnn xnc) := by simpa using hkc 4 _ rfl
  have p5 : V0.cell? ⟨kb, ko + 5, none⟩ = some (.slice xka xkn xkc) := by simpa using hkc 5 _ rfl
  have p6 : V0.cell? ⟨kb, ko + 6, none⟩ = some (.slice xaa xan xac) := by simpa using hkc 6 _ rfl
  clear hV0 b0 q0 hb ho hvo hs3 hs4 hs5 hs6 hv hg1 hg2 hg3 hf hm hB hL h3 h4 h5 h6 hon hbn hrk hOW hkc hxs0 hRr hRk hb0 ho0 hM1 hml hak2 hRa h12 hx0 hxe hnb hkb hvg z0
  go_enter Try.func72, Try.ntmps72
  go_upto_region 1 with fail
  rw [HV0.out]
  clear HV0
  go_wp2_with fail
  refine HC0.out.mono ?_
  clear HC0 p0 p1 p2 p3 p4 p5 p6 c0 c5
  rintro e w1 ⟨a1, c1, rfl, ho1, hk1, hg1⟩
  have HF1 := hide (HFI0.out.call ho1 hk1 hg1)
  obtain ⟨n1, hn1⟩ : ∃ n, n = M1.length := ⟨_, rfl⟩
  rw [← hn1] at HF1
  rw [← hn1]
  have HN1 := hide hn1
  have d1 := (HQ0.out w1 HF1.out.kp).cel 1 _ rfl
  have HV1 : Hid (∀ g, (Value.slice a1 n1 c1).ownBlock = some g → nb ≤ g) := fun g hg => by
    rcases HF1.out.at_ g hg with e | e
    · exact HVb.out g e
    · have := HNZ0.out; omega
  have HSI1 := hide (HF1.out.sr HSB0.out)
  have HRA1 := hide (HF1.out.rd HRA0.out HNZ0.out HVb.out)
  have HRR1 := hide (HF1.out.rd HRR0.out HNZ0.out HVb.out)
  have HQ1 : Hid (Bx w1 W.heap.size [.int .i64 8, .string nm, .bool mn, .slice la ln lc, .slice na nn nc, .slice (some ⟨kb, ko, none⟩) kn kc, .slice aa an ac] ∧ (Value.slice a1 n1 c1).ownBlock ≠ some W.heap.size) := ⟨HQ0.out w1 HF1.out.kp, fun e => by
    rcases HF1.out.at_ _ e with e2 | e2
    · have := HVO.out _ e2; omega
    · have := HZ0.out; omega⟩
  have HNZ1 : Hid (nb ≤ w1.heap.size) := Nat.le_trans HNZ0.out HF1.out.kp.size
  have HRM : Hid (rr.size ≤ m) := HM.out.2
  have HM' : Hid (ak.size ≤ m) := HM.out.1
  clear ho1 hk1 hg1 hn1 HFI0 HSB0 HRA0 HRR0 HQ0 HM
  by_cases hne : nm.toList = []
  · have hne' : nm.toList.isEmpty = true := by rw [hne]; rfl
    have hI : inB nm B = B := by
      unfold inB
      rw [if_pos ((empty_iff nm).1 hne)]
    have HRO := hide (HOW8.out B hI)
    obtain ⟨I, hIe⟩ : ∃ I, I = B := ⟨_, rfl⟩
    obtain ⟨ia, hia⟩ : ∃ x, x = ba := ⟨_, rfl⟩
    obtain ⟨ic, hic⟩ : ∃ x, x = bc := ⟨_, rfl⟩
    obtain ⟨in_, hin_⟩ : ∃ x, x = bn := ⟨_, rfl⟩
    rw [← hIe] at HRO HSI1 HSZ0 HBN
    rw [← hia, ← hic] at HSI1
    rw [← hin_] at HBN
    rw [← hia, ← hic, ← hin_]
    have HIN := HBN
    have HSI := HSI1
    have HFI2 : Hid (FI w1 w1 (.slice a1 n1 c1) (.slice a1 n1 c1) M1) := FI.start HF1.out.own
    have HQ2 : Hid (∀ V, Kept (fun c => c < w1.heap.size ∧ (Value.slice a1 n1 c1).ownBlock ≠ some c) w1 V → Bx V W.heap.size [.int .i64 8, .string nm, .bool mn, .slice la ln lc, .slice na nn nc, .slice (some ⟨kb, ko, none⟩) kn kc, .slice aa an ac]) := fun V k => HQ1.out.1.kept k ⟨HQ1.out.1.lt, HQ1.out.2⟩
    have HSZ1 : Hid (in_ + ak.size ≤ 16777216 ∧ in_ + rr.size ≤ 16777216 ∧ M1.length + ak.size + rr.size ≤ 16777216 ∧ I.length + rr.size ≤ 16777216 ∧ in_ ≤ 16777216) := by
      have h1 := HSZ0.out
      have h2 := HIN.out
      refine ⟨by omega, by omega, by omega, by omega, by omega⟩
    have HEND : Hid (∀ wr a n c M, FI w1 wr (.slice a1 n1 c1) (.slice a n c) M → n = M.length → M = adds L OW → FrP (.slice oa on oc) (adds L OW) W (.returned (.slice a n c)) wr) := fun wr a n c M h1 h2 h3 => by
      rw [← h3]
      exact (HF1.out.trans (Kept.refl _ _) h1).frp h2 HKW.out
    have HRA2 := HRA1
    have HRR2 := HRR1
    have HNZ2 := HNZ1
    have HM := HM'
    obtain ⟨V2, hV2⟩ : ∃ V, V = w1 := ⟨_, rfl⟩
    rw [← hV2] at HSI HFI2 HQ2 HEND HRA2 HRR2 HNZ2 d1
    rw [← hV2]
    clear hI hIe hia hic hin_ hV2 HOW8 HSI1 HRA1 HRR1 HNZ1 HM' HQ1 HF1 HSZ0 HBN HKW HVb HNZ0 HZ0 HVO HON

    go_wp2_with fail
    go_loopw [2, 8] (fun s2 s8 wr => ∃ (i : Nat) (r : Fo) (M : List ByteArray) (a : Option Addr) (n c : Nat), s2 = .slice a n c ∧ s8 = .int .i64 i ∧ i ≤ an ∧ Hid (n = M.length) ∧ Hid (adds M ((rdA r).occ I I).flatten = adds M1 ((rdA ak).occ I I).flatten ∧ (rdA r).good ∧ M.length + r.size + rr.size ≤ 16777216 ∧ r.size ≤ ak.size) ∧ Hid (Rd E (E 2) an nb aa i r wr) ∧ Hid (FI V2 wr (.slice a1 n1 c1) (.slice a n c) M)) (fun _ s8 _ => an - (intOf s8).toNat)
    case atStart => exact ⟨0, ak, M1, _, _, _, rfl, rfl, Nat.zero_le _, HN1, ⟨rfl, HAG.out, by have := HSZ1.out; omega, Nat.le_refl _⟩, HRA2, HFI2⟩
    case round =>
      obtain ⟨i, r, M, a, n, c, rfl, rfl, hin, hlen, hinv, hRd, hFI⟩ := hrel
      have hvg : ∀ g, (Value.slice a n c).ownBlock = some g → nb ≤ g := fun g hg => by
        rcases hFI.out.at_ g hg with e | e
        · exact HV1.out g e
        · have := HNZ2.out; omega
      by_cases hi : i < an
      · obtain ⟨x, rq, b, o, rfl, hx, rfl, hb, hc, hxs, hR1⟩ := hRd.out.next hi (by decide)
        have c6 := (HQ2.out wr hFI.out.kp).cel 6 _ rfl
        obtain ⟨g1, g2, g3, g4⟩ := hinv.out
        obtain ⟨con, ca, cn, cc, ck, y, hxe, hck, hy, hap⟩ := occA_app hx rq I
        obtain ⟨con', ca', cn', cc', ck', y', hxe', hy', hgd'⟩ := goodA_app hx rq
        rw [hxe] at hxe'
        obtain ⟨rfl, rfl, rfl, rfl, rfl, rfl⟩ : con' = con ∧ ca' = ca ∧ cn' = cn ∧ cc' = cc ∧ ck' = ck ∧ y' = y := by cases hxe'; exact ⟨rfl, rfl, rfl, rfl, rfl, rfl⟩
        rw [hap, adds_append] at g1
        rw [hgd'] at g2
        rw [Fo.app_size] at g3 g4
        subst hxe
        simp only [Fo.size] at g3 g4
        have hck2 := rdS_len hck
        have hckn : cn' ≤ ck'.size := by
          have e1 := Fit.len hck
          rw [rep_len] at e1
          have e2 : (E 1).length = 1 := rfl
          rw [e2] at e1
          have := ck'.len_le
          omega
        have hii : (i : Int) < an := by omega
        obtain ⟨hsrc, -⟩ := sr_of hck hxs.1
        have hzw := hFI.out.kp.size
        have hnw : nb ≤ wr.heap.size := by have := HNZ2.out; omega
        have hSI := hFI.out.sr HSI.out
        obtain ⟨t2, ht2⟩ : ∃ t, t = (I ++ rdS ck').length := ⟨_, rfl⟩
        have ht2' : t2 = in_ + cn' := by rw [ht2, List.length_append, hck2, HIN.out]
        have HCA : Hid (∀ V ga gc, BR wr V (.slice ga t2 gc) (I ++ rdS ck') → Calls Try.prog 72 #[.agg y'.vals.toArray, .slice ga t2 gc, .slice a n c] V (FrP (.slice a n c) (adds M ((rdK y').occ (I ++ rdS ck') (I ++ rdS ck')).flatten) V)) := fun V ga gc hBR => by
          rw [ht2] at hBR ⊢
          have hlt : ∀ g, (Value.slice a n c).ownBlock = some g → g < wr.heap.size := own_lt hFI.out.own
          refine ih y' V ga gc (I ++ rdS ck') (.slice a n c) M (by have := HM.out; omega) hy g2.1 (hxs.2.kept hBR.kp (fun c hc => ⟨by show c < _; omega, by omega⟩)) (Nat.le_trans hnw hBR.kp.size) hvg (hBR.sr hlt) ?_ (by rw [← ht2]; have := HSZ1.out; omega) (by omega)
          exact ownsRow_kept hFI.out.own hBR.kp (fun c hc => hlt c hc)
        obtain ⟨M2, hM2⟩ : ∃ M2, M2 = adds M ((rdK y').occ (I ++ rdS ck') (I ++ rdS ck')).flatten := ⟨_, rfl⟩
        rw [← hM2] at HCA g1
        have HG : Hid (adds M2 ((rdA rq).occ I I).flatten = adds M1 ((rdA ak).occ I I).flatten ∧ (rdA rq).good ∧ M2.length + rq.size + rr.size ≤ 16777216 ∧ rq.size ≤ ak.size) := by
          refine ⟨g1, g2.2, ?_, by omega⟩
          have h1 := adds_len ((rdK y').occ (I ++ rdS ck') (I ++ rdS ck')).flatten M
          have h2 := occK_le y' (I ++ rdS ck') (I ++ rdS ck')
          rw [← hM2] at h1
          omega
        have HEV : Hid (∀ V w9 a9 c9, Kept (fun c => c < wr.heap.size) wr V → w9.ownsRow 0 9 1 (.slice a9 M2.length c9) M2.length (M2.map Value.string) → Kept (fun c' => (Value.slice a n c).ownBlock ≠ some c') V w9 → (∀ g, (Value.slice a9 M2.length c9).ownBlock = some g → (Value.slice a n c).ownBlock = some g ∨ V.heap.size ≤ g) → FI V2 w9 (.slice a1 n1 c1) (.slice a9 M2.length c9) M2 ∧ Rd E (E 2) an nb (some ⟨b, o, none⟩) (i + 1) rq w9) := fun V w9 a9 c9 k1 ho hk hg => by
          have kz := k1.size
          have kk' : Kept (fun c' => (Value.slice a n c).ownBlock ≠ some c') wr w9 := by
            refine ⟨hk.os.trans k1.os, hk.tape.trans k1.tape, hk.output.trans k1.output, Nat.le_trans k1.size hk.size, fun j hj hs => (hk.block j (by omega) hs).trans (k1.block j hj hj)⟩
          refine ⟨hFI.out.call ho kk' (fun g h => ?_), hR1.kept kk' hnw (fun c' hc' e => by have := hvg c' e; omega)⟩
          rcases hg g h with e | e
          · exact .inl e
          · exact .inr (by omega)
        have HSC : Hid (∀ V, Kept (fun c => c < wr.heap.size) wr V → SR V (fun c => c < nb) ca' cc' (rdS ck')) := fun V k => hsrc.kept k (fun c hc => ⟨by show c < _; omega, by omega⟩)
        have HSIV : Hid (∀ V, Kept (fun c => c < wr.heap.size) wr V → SR V (fun c' => c' < wr.heap.size ∧ (Value.slice a n c).ownBlock ≠ some c') ia ic I) := fun V k => hSI.kept k (fun c' hc' => ⟨hc'.1, hc'.1⟩)
        have HBE := hide (BR.empty wr wr.drew (Kept.drew _ _))
        have HS1 : Hid (in_ = I.length ∧ in_ = ([] ++ I).length ∧ in_ ≤ 33554432) := ⟨HIN.out, by simpa using HIN.out, by have := HSZ1.out; have := HIN.out; omega⟩
        have HS2 : Hid (cn' = (rdS ck').length ∧ t2 = ([] ++ I ++ rdS ck').length ∧ t2 ≤ 33554432) := ⟨hck2.symm, by rw [List.nil_append]; exact ht2, by have := HSZ1.out; have := HIN.out; omega⟩
        obtain ⟨xk, xnm, xmn, xla, xln, xlc, xlk, xna, xnn, xnc, xnk, xka, xkn, xkc, xkk, xaa, xan, xac, xak, rfl, -⟩ := core_open hy
        simp only [Fo.vals] at HCA hc
        have HCC : Hid (∀ V, Kept (fun c' => c' < wr.heap.size ∧ (Value.slice a n c).ownBlock ≠ some c') wr V → V.cell? ⟨W.heap.size, 6, none⟩ = some (.slice (some ⟨b, o, none⟩) an ac) ∧ V.cell? ⟨b, o + i * 9 + 1, none⟩ = some (.slice ca' cn' cc') ∧ V.cell? ⟨b, o + i * 9 + 2, none⟩ = some (.int .i64 xk) ∧ V.cell? ⟨b, o + i * 9 + 2 + 1, none⟩ = some (.string xnm) ∧ V.cell? ⟨b, o + i * 9 + 2 + 2, none⟩ = some (.bool xmn) ∧ V.cell? ⟨b, o + i * 9 + 2 + 3, none⟩ = some (.slice xla xln xlc) ∧ V.cell? ⟨b, o + i * 9 + 2 + 4, none⟩ = some (.slice xna xnn xnc) ∧ V.cell? ⟨b, o + i * 9 + 2 + 5, none⟩ = some (.slice xka xkn xkc) ∧ V.cell? ⟨b, o + i * 9 + 2 + 6, none⟩ = some (.slice xaa xan xac)) := fun V k => by
          have h1 := hc.kept k (by omega) ⟨by omega, fun e => by have := hvg b e; omega⟩
          have h2 := HQ2.out V (hFI.out.kp.trans2 k (fun b' hb' hs => ⟨by omega, fun e => by
            rcases hFI.out.at_ b' e with e2 | e2
            · exact hs.2 e2
            · omega⟩))
          exact ⟨h2.cel 6 _ rfl, h1 1 _ rfl, h1 2 _ rfl, h1 3 _ rfl, h1 4 _ rfl, h1 5 _ rfl, h1 6 _ rfl, h1 7 _ rfl, h1 8 _ rfl⟩
        have HCD : Hid (∀ V w9, Kept (fun c => c < wr.heap.size) wr V → Kept (fun c' => (Value.slice a n c).ownBlock ≠ some c') V w9 → Kept (fun c' => c' < wr.heap.size ∧ (Value.slice a n c).ownBlock ≠ some c') wr w9) := fun V w9 k1 k2 => (k1.mono (fun c' _ hc' => hc'.1)).trans2 k2 (fun c' _ hc' => hc'.2)
        have HCE : Hid (∀ V, Kept (fun c => c < wr.heap.size) wr V → Kept (fun c' => c' < wr.heap.size ∧ (Value.slice a n c).ownBlock ≠ some c') wr V) := fun V k1 => k1.mono (fun c' _ hc' => hc'.1)
        have kk0 := HCC.out wr.drew (Kept.drew _ _)
        have kk3 := HCC.out (wr.alloc (.cells #[] 9)).drew ((Kept.alloc _ _ _).trans (Kept.drew _ _))
        have HLEN := hlen
        clear hc hxs hx hck hy hap hgd' g1 g2 g3 g4 hinv hRd hR1 hsrc hSI hxe' hy' hM2 hck2 hckn ht2 ht2' hzw hnw hvg
        go_wp2_with fail
        go_region_held3 (fun V => V.cell? ⟨W.heap.size, 6, none⟩ = some (.slice (some ⟨b, o, none⟩) an ac) ∧ V.cell? ⟨b, o + i * 9 + 1, none⟩ = some (.slice ca' cn' cc') ∧ V.cell? ⟨b, o + i * 9 + 2, none⟩ = some (.int .i64 xk) ∧ V.cell? ⟨b, o + i * 9 + 2 + 1, none⟩ = some (.string xnm) ∧ V.cell? ⟨b, o + i * 9 + 2 + 2, none⟩ = some (.bool xmn) ∧ V.cell? ⟨b, o + i * 9 + 2 + 3, none⟩ = some (.slice xla xln xlc) ∧ V.cell? ⟨b, o + i * 9 + 2 + 4, none⟩ = some (.slice xna xnn xnc) ∧ V.cell? ⟨b, o + i * 9 + 2 + 5, none⟩ = some (.slice xka xkn xkc) ∧ V.cell? ⟨b, o + i * 9 + 2 + 6, none⟩ = some (.slice xaa xan xac))
          (first | with_reducible exact kk0 | with_reducible exact kk3 | with_reducible exact kk1 | with_reducible exact kk2 | with_reducible exact kk4)
          (first
            | (refine sr_drawB (by rfl) _ _ (by rfl) wr _ (.slice (some ⟨wr.heap.size, 0, none⟩) 0 0) [] I in_ in_ HS1.out.1 HS1.out.2.1 ia ic _ (by rfl) HBE.out (by rfl) (HSIV.out _ HBE.out.kp) HS1.out.2.2 ?_; rintro ga gc w5 hB5; have HB5 := hide hB5; have kk1 := HCC.out w5 (HCE.out _ hB5.kp); clear hB5)
            | (refine sr_drawB (by rfl) _ _ (by rfl) wr w5 (.slice ga in_ gc) ([] ++ I) (rdS ck') cn' t2 HS2.out.1 HS2.out.2.1 ca' cc' _ (by rfl) HB5.out (by rfl) (HSC.out _ HB5.out.kp) HS2.out.2.2 ?_; rintro pa pc w6 hB6; have HB6 := hide hB6; have kk2 := HCC.out w6 (HCE.out _ hB6.kp); clear hB6)
            | (go_at_call 72; refine (HCA.out w6 pa pc HB6.out).mono ?_; rintro e w9 ⟨a9, c9, rfl, ho9, hk9, hg9⟩; have HE9 := hide (HEV.out w6 w9 a9 c9 HB6.out.kp ho9 hk9 hg9); have kk4 := HCC.out w9 (HCD.out w6 w9 HB6.out.kp hk9); clear ho9 hk9 hg9))
        obtain ⟨n9, hn9⟩ : ∃ n9, n9 = M2.length := ⟨_, rfl⟩
        rw [← hn9] at HE9
        rw [← hn9]
        have HN9 := hide hn9
        clear hn9
        go_wp2_with fail
        go_roundw
        case rel => exact ⟨i + 1, rq, M2, _, _, _, rfl, by go_num, by omega, HN9, HG, HE9.out.2, HE9.out.1⟩
        case measure => simp [intOf]; omega
      · obtain ⟨rfl, -⟩ := hRd.out.done hi
        have c6 := (HQ2.out wr hFI.out.kp).cel 6 _ rfl
        have c5 := (HQ2.out wr hFI.out.kp).cel 5 _ rfl
        obtain ⟨g1, -, g3, -⟩ := hinv.out
        rw [rdA_nil] at g1
        have HG : Hid (M = adds M1 ((rdA ak).occ I I).flatten) := g1
        have hji : ¬ (i : Int) < an := by omega
        have HG3 : Hid (M.length + rr.size ≤ 16777216) := by show _ ≤ _; omega
        have HVG := hide hvg
        clear g1 g3 hinv hRd hvg
        by_cases hk2 : kn = 2
        · subst hk2
          have hRr := hFI.out.rd HRR2.out HNZ2.out HV1.out
          obtain ⟨x, rz, b, o, rfl, hx, hab, hb, hc, hxs, hR1⟩ := hRr.next (by omega) (by decide)
          cases hab
          obtain ⟨rfl, -⟩ := hR1.done (by omega)
          rw [Fo.app_nil] at HRG HG3 HRO HRM HSZ1
          have HC := hide (ih x wr ia ic I (.slice a n c) M (by have := HRM.out; omega) hx HRG.out hxs (by have := HNZ2.out; have := hFI.out.kp.size; omega) HVG.out (hFI.out.sr HSI.out) hFI.out.own (by have := HSZ1.out; have := HRM.out; omega) HG3.out)
          rw [← HIN.out] at HC
          obtain ⟨M2, hM2⟩ : ∃ M2, M2 = adds M ((rdK x).occ I I).flatten := ⟨_, rfl⟩
          rw [← hM2] at HC
          have HRES : Hid (M2 = adds L OW) := by
            unfold Hid
            rw [hM2, HRO.out, HG.out, adds_append]
          obtain ⟨xk, xnm, xmn, xla, xln, xlc, xlk, xna, xnn, xnc, xnk, xka, xkn, xkc, xkk, xaa, xan, xac, xak, rfl, -⟩ := core_open hx
          simp only [Fo.vals] at HC hc
          have p0 : wr.cell? ⟨kb, ko + 7, none⟩ = some (.int .i64 xk) := hc 0 _ rfl
          have p1 : wr.cell? ⟨kb, ko + 7 + 1, none⟩ = some (.string xnm) := hc 1 _ rfl
          have p2 : wr.cell? ⟨kb, ko + 7 + 2, none⟩ = some (.bool xmn) := hc 2 _ rfl
          have p3 : wr.cell? ⟨kb, ko + 7 + 3, none⟩ = some (.slice xla xln xlc) := hc 3 _ rfl
          have p4 : wr.cell? ⟨kb, ko + 7 + 4, none⟩ = some (.slice xna xnn xnc) := hc 4 _ rfl
          have p5 : wr.cell? ⟨kb, ko + 7 + 5, none⟩ = some (.slice xka xkn xkc) := hc 5 _ rfl
          have p6 : wr.cell? ⟨kb, ko + 7 + 6, none⟩ = some (.slice xaa xan xac) := hc 6 _ rfl
          clear hc hxs hx hR1 hM2 hRr HRM HRG HG
          go_wp2_with fail
          refine HC.out.mono ?_
          clear HC
          rintro e w1 ⟨a9, c9, rfl, ho9, hk9, hg9⟩
          have HF9 := hide (hFI.out.call ho9 hk9 hg9)
          obtain ⟨n9, hn9⟩ : ∃ n9, n9 = M2.length := ⟨_, rfl⟩
          rw [← hn9] at HF9
          rw [← hn9]
          have HN9 := hide hn9
          clear ho9 hk9 hg9 hn9
          go_wp2_with fail
          go_ret
          exact HEND.out w1 a9 n9 c9 M2 HF9.out HN9.out HRES.out
        · have e1 : kn = 1 := by have := HK12.out; omega
          subst e1
          have HRES : Hid (M = adds L OW) := by
            have hRr := hFI.out.rd HRR2.out HNZ2.out HV1.out
            obtain ⟨rfl, -⟩ := hRr.done (by omega)
            unfold Hid
            rw [HG.out, HRO.out, rdK_nil, adds_append]
            rfl
          clear hk2 HG
          go_wp2_with fail
          go_ret
          exact HEND.out wr a n c M hFI.out hlen.out HRES.out
  · obtain ⟨hne1, hne2⟩ := text_facts hne
    have hI : inB nm B = B ++ [nm] := by
      unfold inB
      rw [if_neg (fun e => hne ((empty_iff nm).2 e))]
    have HRO := hide (HOW8.out (B ++ [nm]) hI)
    obtain ⟨I, hIe⟩ : ∃ I, I = B ++ [nm] := ⟨_, rfl⟩
    obtain ⟨in_, hin_⟩ : ∃ x, x = I.length := ⟨_, rfl⟩
    have hil : in_ = bn + 1 := by rw [hin_, hIe, HBN.out]; simp
    rw [← hIe] at HRO
    have HIN := hide hin_
    have HSZ1 : Hid (in_ + ak.size ≤ 16777216 ∧ in_ + rr.size ≤ 16777216 ∧ M1.length + ak.size + rr.size ≤ 16777216 ∧ I.length + rr.size ≤ 16777216 ∧ in_ ≤ 16777216) := by
      have h1 := HSZ0.out
      have h2 := HBN.out
      refine ⟨by omega, by omega, by omega, by omega, by omega⟩
    have HVL : Hid (∀ g, (Value.slice a1 n1 c1).ownBlock = some g → g < w1.heap.size) := own_lt HF1.out.own
    have HC1 : Hid (∀ V, Kept (fun c => c < w1.heap.size) w1 V → V.cell? ⟨W.heap.size, 1, none⟩ = some (.string nm)) := fun V k => (HQ1.out.1.kept k HQ1.out.1.lt).cel 1 _ rfl
    have HSIV : Hid (∀ V, Kept (fun c => c < w1.heap.size) w1 V → SR V (fun c => c < w1.heap.size ∧ (Value.slice a1 n1 c1).ownBlock ≠ some c) ba bc B) := fun V k => HSI1.out.kept k (fun c' hc' => ⟨hc'.1, hc'.1⟩)
    have HS1 : Hid (bn = B.length ∧ bn = ([] ++ B).length ∧ bn ≤ 33554432) := ⟨HBN.out, by simpa using HBN.out, by have := HSZ1.out; omega⟩
    have HS2 : Hid (1 = [nm].length ∧ in_ = ([] ++ B ++ [nm]).length ∧ in_ ≤ 33554432) := ⟨rfl, by rw [List.nil_append, ← hIe]; exact hin_, by have := HSZ1.out; omega⟩
    have HIE := hide hIe
    have HSX : Hid (∀ V1, BR w1 V1 (.slice none 0 0) [] ∨ True → Kept (fun c => c < w1.heap.size) w1 V1 → FI V1 V1 (.slice a1 n1 c1) (.slice a1 n1 c1) M1 ∧ (∀ V, Kept (fun c => c < V1.heap.size ∧ (Value.slice a1 n1 c1).ownBlock ≠ some c) V1 V → Bx V W.heap.size [.int .i64 8, .string nm, .bool mn, .slice la ln lc, .slice na nn nc, .slice (some ⟨kb, ko, none⟩) kn kc, .slice aa an ac]) ∧ Rd E (E 2) an nb aa 0 ak V1 ∧ Rd E (E 3) kn nb (some ⟨kb, ko, none⟩) (0 + 1) rr V1 ∧ nb ≤ V1.heap.size ∧ (∀ wr a n c M, FI V1 wr (.slice a1 n1 c1) (.slice a n c) M → n = M.length → M = adds L OW → FrP (.slice oa on oc) (adds L OW) W (.returned (.slice a n c)) wr)) := fun V1 _ k1 => by
      have kz := k1.size
      refine ⟨FI.start (ownsRow_kept HF1.out.own k1 (fun c hc => HVL.out c hc)), fun V k => (HQ1.out.1.kept k1 HQ1.out.1.lt).kept k ⟨by have := HQ1.out.1.lt; omega, HQ1.out.2⟩, HRA1.out.kept k1 HNZ1.out (fun c hc => by have := HNZ1.out; show c < _; omega), HRR1.out.kept k1 HNZ1.out (fun c hc => by have := HNZ1.out; show c < _; omega), Nat.le_trans HNZ1.out kz, fun wr a n c M h1 h2 h3 => ?_⟩
      rw [← h3]
      exact (HF1.out.trans k1 h1).frp h2 HKW.out
    have HM := HM'
    have HBa : Hid (BR w1 (w1.alloc (.cells #[] 9)).drew (.slice (some ⟨w1.heap.size, 0, none⟩) 0 0) []) := (BR.empty w1 w1 (Kept.refl _ _)).keep (Kept.drew _ _)
    have HBb : Hid (BR w1 ((w1.alloc (.cells #[] 9)).alloc (.cells #[.string nm] 9)).drew (.slice (some ⟨w1.heap.size, 0, none⟩) 0 0) []) := (BR.empty w1 w1 (Kept.refl _ _)).keep ((Kept.alloc _ _ _).trans (Kept.drew _ _))
    have HBc : Hid (BR w1 ((w1.alloc (.cells #[.string nm] 9)).alloc (.cells #[] 9)).drew (.slice (some ⟨w1.heap.size + 1, 0, none⟩) 0 0) []) := by
      have h := (BR.empty w1 (w1.alloc (.cells #[.string nm] 9)) (Kept.alloc _ _ _)).keep (Kept.drew _ _)
      rw [World.size_alloc] at h
      exact h
    have HNa : Hid (∀ w5 : World, SR (w5.alloc (.cells #[.string nm] 9)) (fun _ => True) (some ⟨w5.heap.size, 0, none⟩) 1 [nm]) := fun w5 => sr_one (MapKept.heap_alloc w5 _).1
    have HNb : Hid (∀ w5, ((w1.alloc (.cells #[] 9)).alloc (.cells #[.string nm] 9)).drew.grownBy w5 (Value.slice (some ⟨w1.heap.size, 0, none⟩) 0 0).ownBlock → SR w5 (fun _ => True) (some ⟨w1.heap.size + 1, 0, none⟩) 1 [nm]) := fun w5 hG => by
      have h := (MapKept.heap_alloc (w1.alloc (.cells #[] 9)) (.cells #[.string nm] 9)).1
      rw [World.size_alloc] at h
      have k := Kept.grown (S := fun c => c ≠ w1.heap.size) hG (fun c hc hx => hx (Option.some.inj hc).symm)
      exact sr_one ((k.block (w1.heap.size + 1) (by show _ < ((w1.alloc _).alloc _).heap.size; simp) (by show _ ≠ _; omega)).trans h)
    have HNc : Hid (∀ w5, ((w1.alloc (.cells #[.string nm] 9)).alloc (.cells #[] 9)).drew.grownBy w5 (Value.slice (some ⟨w1.heap.size + 1, 0, none⟩) 0 0).ownBlock → SR w5 (fun _ => True) (some ⟨w1.heap.size, 0, none⟩) 1 [nm]) := fun w5 hG => by
      have h : ((w1.alloc (.cells #[.string nm] 9)).alloc (.cells #[] 9)).heap[w1.heap.size]? = some (.cells #[.string nm] 9) := (Below.heap_alloc _ _ _ (by simp)).trans (MapKept.heap_alloc w1 _).1
      have k := Kept.grown (S := fun c => c ≠ w1.heap.size + 1) hG (fun c hc hx => hx (Option.some.inj hc).symm)
      exact sr_one ((k.block w1.heap.size (by show _ < ((w1.alloc _).alloc _).heap.size; simp; omega) (by show _ ≠ _; omega)).trans h)
    have kk0 := HC1.out w1.drew (Kept.drew _ _)
    have kka := HC1.out _ HBa.out.kp
    have kkb := HC1.out _ HBb.out.kp
    have kkc := HC1.out _ HBc.out.kp
    have kkn := HC1.out (w1.alloc (.cells #[.string nm] 9)).drew ((Kept.alloc _ _ _).trans (Kept.drew _ _))
    have HKN : Hid (∀ w5, Kept (fun c => c < w1.heap.size) w1 w5 → Kept (fun c => c < w1.heap.size) w1 (w5.alloc (.cells #[.string nm] 9))) := fun w5 k => k.trans (Kept.alloc _ _ _)
    clear hI hIe hin_ hil HOW8 HSI1 HRA1 HRR1 HNZ1 HM' HQ1 HF1 HSZ0 HKW HVb HNZ0 HZ0 HVO HON HBN
    go_upto_region 14 with fail
    go_region_held3 (fun V => V.cell? ⟨W.heap.size, 1, none⟩ = some (.string nm))
      (first | with_reducible exact kk0 | with_reducible exact kka | with_reducible exact kkb | with_reducible exact kkc | with_reducible exact kkn | with_reducible exact kk1 | with_reducible exact kk2 | with_reducible exact kk5)
      (first
        | (refine sr_drawG (by rfl) (.tmp 50) (.tmp 51) (by rfl) w1 (w1.alloc (.cells #[] 9)).drew (.slice (some ⟨w1.heap.size, 0, none⟩) 0 0) [] B bn bn HS1.out.1 HS1.out.2.1 ba bc _ (by rfl) HBa.out (by rfl) (HSIV.out _ HBa.out.kp) HS1.out.2.2 ?_; rintro ga gc w5 hB5 hG5; have HB5 := hide hB5; have kk1 := HC1.out w5 hB5.kp; have kk5 := HC1.out _ (HKN.out w5 hB5.kp); clear hB5 hG5)
        | (refine sr_drawG (by rfl) (.tmp 50) (.tmp 51) (by rfl) w1 ((w1.alloc (.cells #[] 9)).alloc (.cells #[.string nm] 9)).drew (.slice (some ⟨w1.heap.size, 0, none⟩) 0 0) [] B bn bn HS1.out.1 HS1.out.2.1 ba bc _ (by rfl) HBb.out (by rfl) (HSIV.out _ HBb.out.kp) HS1.out.2.2 ?_; rintro ga gc w5 hB5 hG5; have HB5 := hide hB5; have HN5 := hide (HNb.out w5 hG5); have kk1 := HC1.out w5 hB5.kp; clear hB5 hG5)
        | (refine sr_drawG (by rfl) (.tmp 50) (.tmp 51) (by rfl) w1 ((w1.alloc (.cells #[.string nm] 9)).alloc (.cells #[] 9)).drew (.slice (some ⟨w1.heap.size + 1, 0, none⟩) 0 0) [] B bn bn HS1.out.1 HS1.out.2.1 ba bc _ (by rfl) HBc.out (by rfl) (HSIV.out _ HBc.out.kp) HS1.out.2.2 ?_; rintro ga gc w5 hB5 hG5; have HB5 := hide hB5; have HN6 := hide (HNc.out w5 hG5); have kk1 := HC1.out w5 hB5.kp; clear hB5 hG5)
        | (refine sr_drawG (by rfl) (.tmp 52) (.tmp 55) (by rfl) w1 (w5.alloc (.cells #[.string nm] 9)) (.slice ga bn gc) ([] ++ B) [nm] 1 in_ HS2.out.1 HS2.out.2.1 (some ⟨w5.heap.size, 0, none⟩) 1 _ (by rfl) (HB5.out.keep (Kept.alloc _ _ _)) (by rfl) (HNa.out w5) HS2.out.2.2 ?_; rintro ia ic V2 hB6 hG6; have HB6 := hide hB6; have kk2 := HC1.out V2 hB6.kp; clear hB6 hG6)
        | (refine sr_drawG (by rfl) (.tmp 52) (.tmp 55) (by rfl) w1 w5 (.slice ga bn gc) ([] ++ B) [nm] 1 in_ HS2.out.1 HS2.out.2.1 (some ⟨w1.heap.size + 1, 0, none⟩) 1 _ (by rfl) HB5.out (by rfl) HN5.out HS2.out.2.2 ?_; rintro ia ic V2 hB6 hG6; have HB6 := hide hB6; have kk2 := HC1.out V2 hB6.kp; clear hB6 hG6)
        | (refine sr_drawG (by rfl) (.tmp 52) (.tmp 55) (by rfl) w1 w5 (.slice ga bn gc) ([] ++ B) [nm] 1 in_ HS2.out.1 HS2.out.2.1 (some ⟨w1.heap.size, 0, none⟩) 1 _ (by rfl) HB5.out (by rfl) HN6.out HS2.out.2.2 ?_; rintro ia ic V2 hB6 hG6; have HB6 := hide hB6; have kk2 := HC1.out V2 hB6.kp; clear hB6 hG6)
        | fail)
    all_goals
      have HB7 : Hid (BR w1 V2 (.slice ia in_ ic) I) := by rw [HIE.out]; exact HB6.out
      have HSI : Hid (SR V2 (fun c => c < V2.heap.size ∧ (Value.slice a1 n1 c1).ownBlock ≠ some c) ia ic I) := HB7.out.sr HVL.out
      obtain ⟨s1, s2, s3, s4, s5, s6⟩ := HSX.out V2 (.inr trivial) HB7.out.kp
      have HFI2 := hide s1
      have HQ2 := hide s2
      have HRA2 := hide s3
      have HRR2 := hide s4
      have HNZ2 := hide s5
      have HEND := hide s6
      clear s1 s2 s3 s4 s5 s6 HB7 HB6 HB5 HBa HBb HBc HNa HNb HNc HSX HKN HC1 HSIV HS1 HS2 HIE HVL kk0 kka kkb kkc kkn kk1 kk2
      go_wp2_with fail
      go_loopw [2, 8] (fun s2 s8 wr => ∃ (i : Nat) (r : Fo) (M : List ByteArray) (a : Option Addr) (n c : Nat), s2 = .slice a n c ∧ s8 = .int .i64 i ∧ i ≤ an ∧ Hid (n = M.length) ∧ Hid (adds M ((rdA r).occ I I).flatten = adds M1 ((rdA ak).occ I I).flatten ∧ (rdA r).good ∧ M.length + r.size + rr.size ≤ 16777216 ∧ r.size ≤ ak.size) ∧ Hid (Rd E (E 2) an nb aa i r wr) ∧ Hid (FI V2 wr (.slice a1 n1 c1) (.slice a n c) M)) (fun _ s8 _ => an - (intOf s8).toNat)
      case atStart => exact ⟨0, ak, M1, _, _, _, rfl, rfl, Nat.zero_le _, HN1, ⟨rfl, HAG.out, by have := HSZ1.out; omega, Nat.le_refl _⟩, HRA2, HFI2⟩
      case round =>
        obtain ⟨i, r, M, a, n, c, rfl, rfl, hin, hlen, hinv, hRd, hFI⟩ := hrel
        have hvg : ∀ g, (Value.slice a n c).ownBlock = some g → nb ≤ g := fun g hg => by
          rcases hFI.out.at_ g hg with e | e
          · exact HV1.out g e
          · have := HNZ2.out; omega
        by_cases hi : i < an
        · obtain ⟨x, rq, b, o, rfl, hx, rfl, hb, hc, hxs, hR1⟩ := hRd.out.next hi (by decide)
          have c6 := (HQ2.out wr hFI.out.kp).cel 6 _ rfl
          obtain ⟨g1, g2, g3, g4⟩ := hinv.out
          obtain ⟨con, ca, cn, cc, ck, y, hxe, hck, hy, hap⟩ := occA_app hx rq I
          obtain ⟨con', ca', cn', cc', ck', y', hxe', hy', hgd'⟩ := goodA_app hx rq
          rw [hxe] at hxe'
          obtain ⟨rfl, rfl, rfl, rfl, rfl, rfl⟩ : con' = con ∧ ca' = ca ∧ cn' = cn ∧ cc' = cc ∧ ck' = ck ∧ y' = y := by cases hxe'; exact ⟨rfl, rfl, rfl, rfl, rfl, rfl⟩
          rw [hap, adds_append] at g1
          rw [hgd'] at g2
          rw [Fo.app_size] at g3 g4
          subst hxe
          simp only [Fo.size] at g3 g4
          have hck2 := rdS_len hck
          have hckn : cn' ≤ ck'.size := by
            have e1 := Fit.len hck
            rw [rep_len] at e1
            have e2 : (E 1).length = 1 := rfl
            rw [e2] at e1
            have := ck'.len_le
            omega
          have hii : (i : Int) < an := by omega
          obtain ⟨hsrc, -⟩ := sr_of hck hxs.1
          have hzw := hFI.out.kp.size
          have hnw : nb ≤ wr.heap.size := by have := HNZ2.out; omega
          have hSI := hFI.out.sr HSI.out
          obtain ⟨t2, ht2⟩ : ∃ t, t = (I ++ rdS ck').length := ⟨_, rfl⟩
          have ht2' : t2 = in_ + cn' := by rw [ht2, List.length_append, hck2, HIN.out]
          have HCA : Hid (∀ V ga gc, BR wr V (.slice ga t2 gc) (I ++ rdS ck') → Calls Try.prog 72 #[.agg y'.vals.toArray, .slice ga t2 gc, .slice a n c] V (FrP (.slice a n c) (adds M ((rdK y').occ (I ++ rdS ck') (I ++ rdS ck')).flatten) V)) := fun V ga gc hBR => by
            rw [ht2] at hBR ⊢
            have hlt : ∀ g, (Value.slice a n c).ownBlock = some g → g < wr.heap.size := own_lt hFI.out.own
            refine ih y' V ga gc (I ++ rdS ck') (.slice a n c) M (by have := HM.out; omega) hy g2.1 (hxs.2.kept hBR.kp (fun c hc => ⟨by show c < _; omega, by omega⟩)) (Nat.le_trans hnw hBR.kp.size) hvg (hBR.sr hlt) ?_ (by rw [← ht2]; have := HSZ1.out; omega) (by omega)
            exact ownsRow_kept hFI.out.own hBR.kp (fun c hc => hlt c hc)
          obtain ⟨M2, hM2⟩ : ∃ M2, M2 = adds M ((rdK y').occ (I ++ rdS ck') (I ++ rdS ck')).flatten := ⟨_, rfl⟩
          rw [← hM2] at HCA g1
          have HG : Hid (adds M2 ((rdA rq).occ I I).flatten = adds M1 ((rdA ak).occ I I).flatten ∧ (rdA rq).good ∧ M2.length + rq.size + rr.size ≤ 16777216 ∧ rq.size ≤ ak.size) := by
            refine ⟨g1, g2.2, ?_, by omega⟩
            have h1 := adds_len ((rdK y').occ (I ++ rdS ck') (I ++ rdS ck')).flatten M
            have h2 := occK_le y' (I ++ rdS ck') (I ++ rdS ck')
            rw [← hM2] at h1
            omega
          have HEV : Hid (∀ V w9 a9 c9, Kept (fun c => c < wr.heap.size) wr V → w9.ownsRow 0 9 1 (.slice a9 M2.length c9) M2.length (M2.map Value.string) → Kept (fun c' => (Value.slice a n c).ownBlock ≠ some c') V w9 → (∀ g, (Value.slice a9 M2.length c9).ownBlock = some g → (Value.slice a n c).ownBlock = some g ∨ V.heap.size ≤ g) → FI V2 w9 (.slice a1 n1 c1) (.slice a9 M2.length c9) M2 ∧ Rd E (E 2) an nb (some ⟨b, o, none⟩) (i + 1) rq w9) := fun V w9 a9 c9 k1 ho hk hg => by
            have kz := k1.size
            have kk' : Kept (fun c' => (Value.slice a n c).ownBlock ≠ some c') wr w9 := by
              refine ⟨hk.os.trans k1.os, hk.tape.trans k1.tape, hk.output.trans k1.output, Nat.le_trans k1.size hk.size, fun j hj hs => (hk.block j (by omega) hs).trans (k1.block j hj hj)⟩
            refine ⟨hFI.out.call ho kk' (fun g h => ?_), hR1.kept kk' hnw (fun c' hc' e => by have := hvg c' e; omega)⟩
            rcases hg g h with e | e
            · exact .inl e
            · exact .inr (by omega)
          have HSC : Hid (∀ V, Kept (fun c => c < wr.heap.size) wr V → SR V (fun c => c < nb) ca' cc' (rdS ck')) := fun V k => hsrc.kept k (fun c hc => ⟨by show c < _; omega, by omega⟩)
          have HSIV : Hid (∀ V, Kept (fun c => c < wr.heap.size) wr V → SR V (fun c' => c' < wr.heap.size ∧ (Value.slice a n c).ownBlock ≠ some c') ia ic I) := fun V k => hSI.kept k (fun c' hc' => ⟨hc'.1, hc'.1⟩)
          have HBE := hide (BR.empty wr wr.drew (Kept.drew _ _))
          have HS1 : Hid (in_ = I.length ∧ in_ = ([] ++ I).length ∧ in_ ≤ 33554432) := ⟨HIN.out, by simpa using HIN.out, by have := HSZ1.out; have := HIN.out; omega⟩
          have HS2 : Hid (cn' = (rdS ck').length ∧ t2 = ([] ++ I ++ rdS ck').length ∧ t2 ≤ 33554432) := ⟨hck2.symm, by rw [List.nil_append]; exact ht2, by have := HSZ1.out; have := HIN.out; omega⟩
          obtain ⟨xk, xnm, xmn, xla, xln, xlc, xlk, xna, xnn, xnc, xnk, xka, xkn, xkc, xkk, xaa, xan, xac, xak, rfl, -⟩ := core_open hy
          simp only [Fo.vals] at HCA hc
          have HCC : Hid (∀ V, Kept (fun c' => c' < wr.heap.size ∧ (Value.slice a n c).ownBlock ≠ some c') wr V → V.cell? ⟨W.heap.size, 6, none⟩ = some (.slice (some ⟨b, o, none⟩) an ac) ∧ V.cell? ⟨b, o + i * 9 + 1, none⟩ = some (.slice ca' cn' cc') ∧ V.cell? ⟨b, o + i * 9 + 2, none⟩ = some (.int .i64 xk) ∧ V.cell? ⟨b, o + i * 9 + 2 + 1, none⟩ = some (.string xnm) ∧ V.cell? ⟨b, o + i * 9 + 2 + 2, none⟩ = some (.bool xmn) ∧ V.cell? ⟨b, o + i * 9 + 2 + 3, none⟩ = some (.slice xla xln xlc) ∧ V.cell? ⟨b, o + i * 9 + 2 + 4, none⟩ = some (.slice xna xnn xnc) ∧ V.cell? ⟨b, o + i * 9 + 2 + 5, none⟩ = some (.slice xka xkn xkc) ∧ V.cell? ⟨b, o + i * 9 + 2 + 6, none⟩ = some (.slice xaa xan xac)) := fun V k => by
            have h1 := hc.kept k (by omega) ⟨by omega, fun e => by have := hvg b e; omega⟩
            have h2 := HQ2.out V (hFI.out.kp.trans2 k (fun b' hb' hs => ⟨by omega, fun e => by
              rcases hFI.out.at_ b' e with e2 | e2
              · exact hs.2 e2
              · omega⟩))
            exact ⟨h2.cel 6 _ rfl, h1 1 _ rfl, h1 2 _ rfl, h1 3 _ rfl, h1 4 _ rfl, h1 5 _ rfl, h1 6 _ rfl, h1 7 _ rfl, h1 8 _ rfl⟩
          have HCD : Hid (∀ V w9, Kept (fun c => c < wr.heap.size) wr V → Kept (fun c' => (Value.slice a n c).ownBlock ≠ some c') V w9 → Kept (fun c' => c' < wr.heap.size ∧ (Value.slice a n c).ownBlock ≠ some c') wr w9) := fun V w9 k1 k2 => (k1.mono (fun c' _ hc' => hc'.1)).trans2 k2 (fun c' _ hc' => hc'.2)
          have HCE : Hid (∀ V, Kept (fun c => c < wr.heap.size) wr V → Kept (fun c' => c' < wr.heap.size ∧ (Value.slice a n c).ownBlock ≠ some c') wr V) := fun V k1 => k1.mono (fun c' _ hc' => hc'.1)
          have kk0 := HCC.out wr.drew (Kept.drew _ _)
          have kk3 := HCC.out (wr.alloc (.cells #[] 9)).drew ((Kept.alloc _ _ _).trans (Kept.drew _ _))
          have HLEN := hlen
          clear hc hxs hx hck hy hap hgd' g1 g2 g3 g4 hinv hRd hR1 hsrc hSI hxe' hy' hM2 hck2 hckn ht2 ht2' hzw hnw hvg
          go_wp2_with fail
          go_region_held3 (fun V => V.cell? ⟨W.heap.size, 6, none⟩ = some (.slice (some ⟨b, o, none⟩) an ac) ∧ V.cell? ⟨b, o + i * 9 + 1, none⟩ = some (.slice ca' cn' cc') ∧ V.cell? ⟨b, o + i * 9 + 2, none⟩ = some (.int .i64 xk) ∧ V.cell? ⟨b, o + i * 9 + 2 + 1, none⟩ = some (.string xnm) ∧ V.cell? ⟨b, o + i * 9 + 2 + 2, none⟩ = some (.bool xmn) ∧ V.cell? ⟨b, o + i * 9 + 2 + 3, none⟩ = some (.slice xla xln xlc) ∧ V.cell? ⟨b, o + i * 9 + 2 + 4, none⟩ = some (.slice xna xnn xnc) ∧ V.cell? ⟨b, o + i * 9 + 2 + 5, none⟩ = some (.slice xka xkn xkc) ∧ V.cell? ⟨b, o + i * 9 + 2 + 6, none⟩ = some (.slice xaa xan xac))
            (first | with_reducible exact kk0 | with_reducible exact kk3 | with_reducible exact kk1 | with_reducible exact kk2 | with_reducible exact kk4)
            (first
              | (refine sr_drawB (by rfl) _ _ (by rfl) wr _ (.slice (some ⟨wr.heap.size, 0, none⟩) 0 0) [] I in_ in_ HS1.out.1 HS1.out.2.1 ia ic _ (by rfl) HBE.out (by rfl) (HSIV.out _ HBE.out.kp) HS1.out.2.2 ?_; rintro ga gc w5 hB5; have HB5 := hide hB5; have kk1 := HCC.out w5 (HCE.out _ hB5.kp); clear hB5)
              | (refine sr_drawB (by rfl) _ _ (by rfl) wr w5 (.slice ga in_ gc) ([] ++ I) (rdS ck') cn' t2 HS2.out.1 HS2.out.2.1 ca' cc' _ (by rfl) HB5.out (by rfl) (HSC.out _ HB5.out.kp) HS2.out.2.2 ?_; rintro pa pc w6 hB6; have HB6 := hide hB6; have kk2 := HCC.out w6 (HCE.out _ hB6.kp); clear hB6)
              | (go_at_call 72; refine (HCA.out w6 pa pc HB6.out).mono ?_; rintro e w9 ⟨a9, c9, rfl, ho9, hk9, hg9⟩; have HE9 := hide (HEV.out w6 w9 a9 c9 HB6.out.kp ho9 hk9 hg9); have kk4 := HCC.out w9 (HCD.out w6 w9 HB6.out.kp hk9); clear ho9 hk9 hg9))
          obtain ⟨n9, hn9⟩ : ∃ n9, n9 = M2.length := ⟨_, rfl⟩
          rw [← hn9] at HE9
          rw [← hn9]
          have HN9 := hide hn9
          clear hn9
          go_wp2_with fail
          go_roundw
          case rel => exact ⟨i + 1, rq, M2, _, _, _, rfl, by go_num, by omega, HN9, HG, HE9.out.2, HE9.out.1⟩
          case measure => simp [intOf]; omega
        · obtain ⟨rfl, -⟩ := hRd.out.done hi
          have c6 := (HQ2.out wr hFI.out.kp).cel 6 _ rfl
          have c5 := (HQ2.out wr hFI.out.kp).cel 5 _ rfl
          obtain ⟨g1, -, g3, -⟩ := hinv.out
          rw [rdA_nil] at g1
          have HG : Hid (M = adds M1 ((rdA ak).occ I I).flatten) := g1
          have hji : ¬ (i : Int) < an := by omega
          have HG3 : Hid (M.length + rr.size ≤ 16777216) := by show _ ≤ _; omega
          have HVG := hide hvg
          clear g1 g3 hinv hRd hvg
          by_cases hk2 : kn = 2
          · subst hk2
            have hRr := hFI.out.rd HRR2.out HNZ2.out HV1.out
            obtain ⟨x, rz, b, o, rfl, hx, hab, hb, hc, hxs, hR1⟩ := hRr.next (by omega) (by decide)
            cases hab
            obtain ⟨rfl, -⟩ := hR1.done (by omega)
            rw [Fo.app_nil] at HRG HG3 HRO HRM HSZ1
            have HC := hide (ih x wr ia ic I (.slice a n c) M (by have := HRM.out; omega) hx HRG.out hxs (by have := HNZ2.out; have := hFI.out.kp.size; omega) HVG.out (hFI.out.sr HSI.out) hFI.out.own (by have := HSZ1.out; have := HRM.out; omega) HG3.out)
            rw [← HIN.out] at HC
            obtain ⟨M2, hM2⟩ : ∃ M2, M2 = adds M ((rdK x).occ I I).flatten := ⟨_, rfl⟩
            rw [← hM2] at HC
            have HRES : Hid (M2 = adds L OW) := by
              unfold Hid
              rw [hM2, HRO.out, HG.out, adds_append]
            obtain ⟨xk, xnm, xmn, xla, xln, xlc, xlk, xna, xnn, xnc, xnk, xka, xkn, xkc, xkk, xaa, xan, xac, xak, rfl, -⟩ := core_open hx
            simp only [Fo.vals] at HC hc
            have p0 : wr.cell? ⟨kb, ko + 7, none⟩ = some (.int .i64 xk) := hc 0 _ rfl
            have p1 : wr.cell? ⟨kb, ko + 7 + 1, none⟩ = some (.string xnm) := hc 1 _ rfl
            have p2 : wr.cell? ⟨kb, ko + 7 + 2, none⟩ = some (.bool xmn) := hc 2 _ rfl
            have p3 : wr.cell? ⟨kb, ko + 7 + 3, none⟩ = some (.slice xla xln xlc) := hc 3 _ rfl
            have p4 : wr.cell? ⟨kb, ko + 7 + 4, none⟩ = some (.slice xna xnn xnc) := hc 4 _ rfl
            have p5 : wr.cell? ⟨kb, ko + 7 + 5, none⟩ = some (.slice xka xkn xkc) := hc 5 _ rfl
            have p6 : wr.cell? ⟨kb, ko + 7 + 6, none⟩ = some (.slice xaa xan xac) := hc 6 _ rfl
            clear hc hxs hx hR1 hM2 hRr HRM HRG HG
            go_wp2_with fail
            refine HC.out.mono ?_
            clear HC
            rintro e w1 ⟨a9, c9, rfl, ho9, hk9, hg9⟩
            have HF9 := hide (hFI.out.call ho9 hk9 hg9)
            obtain ⟨n9, hn9⟩ : ∃ n9, n9 = M2.length := ⟨_, rfl⟩
            rw [← hn9] at HF9
            rw [← hn9]
            have HN9 := hide hn9
            clear ho9 hk9 hg9 hn9
            go_wp2_with fail
            go_ret
            exact HEND.out w1 a9 n9 c9 M2 HF9.out HN9.out HRES.out
          · have e1 : kn = 1 := by have := HK12.out; omega
            subst e1
            have HRES : Hid (M = adds L OW) := by
              have hRr := hFI.out.rd HRR2.out HNZ2.out HV1.out
              obtain ⟨rfl, -⟩ := hRr.done (by omega)
              unfold Hid
              rw [HG.out, HRO.out, rdK_nil, adds_append]
              rfl
            clear hk2 HG
            go_wp2_with fail
            go_ret
            exact HEND.out wr a n c M hFI.out hlen.out HRES.out


end Go.Proofs.Ytmpnbaebdghopaa
