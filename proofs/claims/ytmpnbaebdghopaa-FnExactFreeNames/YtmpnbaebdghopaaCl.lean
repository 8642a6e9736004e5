import Derived.Test.YtmpnbaebdghopaaCk
namespace Go.Proofs.Ytmpnbaebdghopaa
open Go.RowKit Go.Joins

theorem Kept.trans2 {S T : Nat → Prop} {A B C : World} (h : Kept S A B) (k : Kept T B C) (hT : ∀ b, b < A.heap.size → S b → T b) : Kept S A C :=
  ⟨k.os.trans h.os, k.tape.trans h.tape, k.output.trans h.output, Nat.le_trans h.size k.size, fun i hi hs => (k.block i (Nat.lt_of_lt_of_le hi h.size) (hT i hi hs)).trans (h.block i hi hs)⟩

/-- A row of names that grows, behind the world V1. -/
structure FI (V1 wr : World) (v0 v : Value) (L : List ByteArray) : Prop where
  own : wr.ownsRow 0 9 1 v L.length (L.map Value.string)
  at_ : ∀ g, v.ownBlock = some g → v0.ownBlock = some g ∨ V1.heap.size ≤ g
  kp : Kept (fun c => c < V1.heap.size ∧ v0.ownBlock ≠ some c) V1 wr

theorem FI.start {V1 : World} {v : Value} {L : List ByteArray} (h : V1.ownsRow 0 9 1 v L.length (L.map Value.string)) : FI V1 V1 v v L := ⟨h, fun _ hg => .inl hg, Kept.refl _ _⟩

theorem FI.call {V1 wr w1 : World} {v0 v : Value} {L L' : List ByteArray} {a : Option Addr} {c : Nat} (h : FI V1 wr v0 v L) (ho : w1.ownsRow 0 9 1 (.slice a L'.length c) L'.length (L'.map Value.string)) (hk : Kept (fun c => v.ownBlock ≠ some c) wr w1) (hg : ∀ g, (Value.slice a L'.length c).ownBlock = some g → v.ownBlock = some g ∨ wr.heap.size ≤ g) : FI V1 w1 v0 (.slice a L'.length c) L' := by
  have hz := h.kp.size
  refine ⟨ho, fun g hg' => ?_, h.kp.trans (hk.mono (fun b hb hs e => ?_))⟩
  · rcases hg g hg' with e | e
    · exact h.at_ g e
    · exact .inr (by omega)
  · rcases h.at_ b e with e2 | e2
    · exact hs.2 e2
    · omega

theorem FI.keep {V1 wr w1 : World} {v0 v : Value} {L : List ByteArray} (h : FI V1 wr v0 v L) (hk : Kept (fun _ => True) wr w1) : FI V1 w1 v0 v L :=
  ⟨ownsRow_kept h.own hk (fun _ _ => trivial), h.at_, h.kp.trans (hk.mono (fun _ _ _ => trivial))⟩

theorem FI.sr {V1 wr : World} {v0 v : Value} {L B : List ByteArray} {ba : Option Addr} {bc : Nat} (h : FI V1 wr v0 v L) (hb : SR V1 (fun c => c < V1.heap.size ∧ v0.ownBlock ≠ some c) ba bc B) : SR wr (fun c => c < wr.heap.size ∧ v.ownBlock ≠ some c) ba bc B := by
  have hz := h.kp.size
  refine (hb.kept h.kp (fun b hs => ⟨hs, hs.1⟩)).mono (fun b hs => ⟨by omega, fun e => ?_⟩)
  rcases h.at_ b e with e2 | e2
  · exact hs.2 e2
  · omega

theorem FI.rd {V1 wr : World} {v0 v : Value} {L : List ByteArray} {fs : List Fld} {n nb i : Nat} {a : Option Addr} {r : Fo} (h : FI V1 wr v0 v L) (hr : Rd E fs n nb a i r V1) (hz : nb ≤ V1.heap.size) (hv : ∀ g, v0.ownBlock = some g → nb ≤ g) : Rd E fs n nb a i r wr :=
  hr.kept h.kp hz (fun c hc => ⟨by omega, fun e => by have := hv c e; omega⟩)

theorem FI.frp {W V1 wr : World} {v0 : Value} {a : Option Addr} {n c : Nat} {L' : List ByteArray} (h : FI V1 wr v0 (.slice a n c) L') (hn : n = L'.length) (hk : Kept (fun _ => True) W V1) : FrP v0 L' W (.returned (.slice a n c)) wr := by
  subst hn
  have hz := hk.size
  refine ⟨a, c, rfl, h.own, (hk.mono (fun _ _ _ => trivial)).trans2 h.kp (fun b hb hs => ⟨by omega, hs⟩), fun g hg => ?_⟩
  rcases h.at_ g hg with e | e
  · exact .inl e
  · exact .inr (by omega)

theorem sr_row2 {W : World} {B : Nat} {v : Value} {n : Nat} {L : List ByteArray} (h : W.ownsRow B 9 1 v n (L.map Value.string)) : ∃ a c, v = .slice a n c ∧ n = L.length ∧ SR W (fun b => v.ownBlock = some b ∧ b < W.heap.size) a c L := by
  have hl := h.1
  rw [List.length_map, Nat.mul_one] at hl
  rcases h.2 with ⟨rfl, rfl⟩ | ⟨g, cap, cur, rfl, hb, hg, hnc, hcm, hcs, ht⟩
  · have e : L = [] := List.length_eq_zero_iff.1 hl
    subst e
    exact ⟨none, 0, rfl, rfl, SR.nil _ _ _ _ (Nat.zero_le _)⟩
  · refine ⟨_, cap, rfl, hl.symm, ⟨by omega, hcm, fun _ => ⟨g, 0, rfl, ⟨rfl, (Array.getElem?_eq_some_iff.1 hg).1⟩, fun i x hx => ?_⟩⟩⟩
    have h2 := h.cells (g := g) rfl i (.string x) (by rw [List.getElem?_map, hx]; rfl)
    rwa [addr_add] at h2

/-- A row of names that is built behind the world V0. -/
structure BR (V0 w : World) (v : Value) (P : List ByteArray) : Prop where
  own : w.ownsRow 0 9 1 v P.length (P.map Value.string)
  hi : ∀ g, v.ownBlock = some g → V0.heap.size ≤ g
  kp : Kept (fun c => c < V0.heap.size) V0 w

theorem BR.empty (V0 V : World) (k : Kept (fun c => c < V0.heap.size) V0 V) : BR V0 (V.alloc (.cells #[] 9)) (.slice (some ⟨V.heap.size, 0, none⟩) 0 0) [] :=
  ⟨⟨rfl, .inr ⟨V.heap.size, 0, #[], rfl, Nat.zero_le _, (MapKept.heap_alloc V _).1, Nat.le_refl _, Nat.zero_le _, rfl, rfl⟩⟩, fun c hc => by have e : V.heap.size = c := Option.some.inj hc; have := k.size; omega, k.trans (Kept.alloc _ _ _)⟩

theorem BR.grow {V0 w w' : World} {v v' : Value} {P Q : List ByteArray} (h : BR V0 w v P) (ho : w'.ownsRow 0 9 1 v' (P ++ Q).length ((P ++ Q).map Value.string)) (hg : w.grownBy w' v.ownBlock) (ha : ∀ g, v'.ownBlock = some g → v.ownBlock = some g ∨ w.heap.size ≤ g) : BR V0 w' v' (P ++ Q) :=
  ⟨ho, fun g e => by
    rcases ha g e with e2 | e2
    · exact h.hi g e2
    · have := h.kp.size; omega, h.kp.trans (Kept.grown hg (fun c hc hlt => by have := h.hi c hc; omega))⟩

theorem BR.sr {V0 w : World} {a : Option Addr} {n c : Nat} {P : List ByteArray} (h : BR V0 w (.slice a n c) P) {v0 : Value} (hv : ∀ g, v0.ownBlock = some g → g < V0.heap.size) : SR w (fun c => c < w.heap.size ∧ v0.ownBlock ≠ some c) a c P := by
  obtain ⟨a', c', e, -, hs⟩ := sr_row2 h.own
  cases e
  exact hs.mono (fun b hb => ⟨hb.2, fun e => by have := hv b e; have := h.hi b hb.1; omega⟩)

/-- The same with letters for what comes out. -/
theorem sr_drawB {ops : Array Oper} {o : Oper} {a : Act} {K : Act → World → Prop} {Q : Exit → Act → World → Prop} {E : Prop} (hgd : o.guard = none) (s x : Operand)
    (ho : o.op = .call { callee := .builtin .append, args := #[s, x], argTypes := #[25, 25] }) (V0 w : World) (v : Value) (L M : List ByteArray) (m t : Nat) (hm : m = M.length) (ht : t = (L ++ M).length) (b : Option Addr) (c : Nat) (S : Nat → Prop) (hs : a.eval s = v) (hown : BR V0 w v L) (hx : a.eval x = .slice b m c) (hM : SR w S b c M) (hle : t ≤ 33554432)
    (h : ∀ ga gc w', BR V0 w' (.slice ga t gc) (L ++ M) → K (a.put o.dst (.slice ga t gc)) w') :
    if Region.wanted o (yielded ops a.tmps) = true then Oper.wp Try.prog o a w K Q else E := by
  rw [List.length_append] at ht
  refine sr_draw hgd s x ho w v L M L.length m rfl hm b c S hs hown.own hx hM (by omega) (fun ga gc w' h1 h2 h3 => ?_)
  have e : L.length + m = t := by omega
  rw [e] at h1 h3 ⊢
  refine h ga gc w' (hown.grow ?_ h2 h3)
  have e2 : (L ++ M).length = t := by rw [List.length_append]; omega
  rw [e2]
  exact h1

/-- The model's search, its contract for terms of at most m cells. -/
def FreC (nb m : Nat) : Prop := ∀ (F : Fo) (W : World) (ba : Option Addr) (bc : Nat) (B : List ByteArray) (v : Value) (L : List ByteArray), F.size ≤ m → Fit E F (E 3) → (rdK F).good → F.Subs W (fun c => c < nb) → nb ≤ W.heap.size → (∀ g, v.ownBlock = some g → nb ≤ g) → SR W (fun c => c < W.heap.size ∧ v.ownBlock ≠ some c) ba bc B → W.ownsRow 0 9 1 v L.length (L.map Value.string) → B.length + F.size ≤ 16777216 → L.length + F.size ≤ 16777216 →
  Calls Try.prog 72 #[.agg F.vals.toArray, .slice ba B.length bc, v] W (FrP v (adds L ((rdK F).occ B B).flatten) W)

theorem occ_one (h : Hd) (ks al : Tm) (B : List ByteArray) (hc : h.cs = []) : ((Tm.nd h ks al .nil).occ B B).flatten = ow h.k h.nm h.ns (fun X Y => ks.occ X Y) (fun X => al.occ X X) B := by
  simp only [Tm.occ, hc, List.append_nil, List.flatten_cons, List.flatten_nil]

set_option maxHeartbeats 4000000 in
set_option maxRecDepth 100000 in
theorem fre_1 (nb m : Nat) (_ih : FreC nb m) (F : Fo) (W : World) (ba : Option Addr) (bc : Nat) (B : List ByteArray) (v : Value) (L : List ByteArray) (hm : F.size ≤ m + 1) (hf : Fit E F (E 3)) (hgd : (rdK F).good) (hs : F.Subs W (fun c => c < nb)) (_hnb : nb ≤ W.heap.size) (hv : ∀ g, v.ownBlock = some g → nb ≤ g) (hb : SR W (fun c => c < W.heap.size ∧ v.ownBlock ≠ some c) ba bc B) (ho : W.ownsRow 0 9 1 v L.length (L.map Value.string)) (hB : B.length + F.size ≤ 16777216) (hL : L.length + F.size ≤ 16777216) (hk1 : ∃ h ks al r, rdK F = .nd h ks al r ∧ h.k = 1) :
    Calls Try.prog 72 #[.agg F.vals.toArray, .slice ba B.length bc, v] W (FrP v (adds L ((rdK F).occ B B).flatten) W) := by
  obtain ⟨k, nm, mn, la, ln, lc, lk, na, nn, nc, nk, ka, kn, kc, kk, aa, an, ac, ak, rfl, -, hnm, h3, h4, h5, h6⟩ := core_open hf
  obtain ⟨hs3, hs4, hs5, hs6, -⟩ := hs
  obtain ⟨h, ks, al, r, hrk, hk1⟩ := hk1
  rw [rdK_nd, rdK_nil] at hgd hrk ⊢
  obtain ⟨rfl, -⟩ := Tm.nd.inj hrk
  obtain rfl : k = 1 := hk1
  rw [occ_one _ _ _ _ rfl]
  obtain ⟨hg1, hg2, hg3, -⟩ := hgd
  simp only [Fo.size] at hm hB hL
  simp only [Fo.vals]
  obtain ⟨oa, oc, rfl, -, -⟩ := sr_row ho
  obtain ⟨on, hon⟩ : ∃ n, n = L.length := ⟨_, rfl⟩
  obtain ⟨bn, hbn⟩ : ∃ n, n = B.length := ⟨_, rfl⟩
  rw [← hon] at ho hb hv
  rw [← hon, ← hbn]
  have hkx : kn ≤ 9223372036854775807 := sub_facts hs5
  have hax : an ≤ 9223372036854775807 := sub_facts hs6
  obtain ⟨V0, hV0⟩ : ∃ V, W.alloc (.cells #[.int .i64 1, .string nm, .bool mn, .slice la ln lc, .slice na nn nc, .slice ka kn kc, .slice aa an ac] 36) = V := ⟨_, rfl⟩
  have b0 : Below W.heap.size W V0 := by rw [← hV0]; exact below_alloc1 _ _
  have z0 : V0.heap.size = W.heap.size + 1 := by rw [← hV0]; simp
  have q0 : Bx V0 W.heap.size [.int .i64 1, .string nm, .bool mn, .slice la ln lc, .slice na nn nc, .slice ka kn kc, .slice aa an ac] := by rw [← hV0]; exact Bx.new _ _ _
  have hvo : ∀ c, (Value.slice oa on oc).ownBlock = some c → c < W.heap.size := own_lt ho
  obtain ⟨q, hq⟩ := truth (nm ∈ B)
  have HIN := hide (m_in ba bc B nm V0 _ (hb.below b0 (fun c hc => hc.1)) q hq)
  rw [← hbn] at HIN
  have HO0 := hide (ownsRow_kept ho (kt (S := fun _ => True) b0) (fun _ _ => trivial))
  have HN := hide hon
  have HQ := hide hq
  have HV0 := hide hV0
  have HB0 := hide b0
  have HQ0 := hide q0
  have c0 := q0.cel 0 _ rfl
  have c1 := q0.cel 1 _ rfl
  have HLE : Hid (L.length ≤ 33554432) := by show _ ≤ _; omega
  clear hV0 b0 q0 z0 hq hb ho hvo hs3 hs4 hs5 hs6 hv hg1 hg2 hg3 hf hm hB hL h3 h4 h5 h6 hon hbn hrk
  go_enter Try.func72, Try.ntmps72
  go_upto_region 1 with fail
  rw [HV0.out]
  clear HV0
  go_wp2_with fail
  refine HIN.out.mono ?_
  clear HIN
  rintro e w1 ⟨rfl, b1⟩
  have HB1 : Hid (Below W.heap.size W w1) := HB0.out.trans (b1.mono HB0.out.size)
  have HO1 := hide (ownsRow_kept HO0.out (kt (S := fun _ => True) b1) (fun _ _ => trivial))
  have d1 := (HQ0.out.below b1).cel 1 _ rfl
  cases q with
  | true =>
    have HF : Hid (FrP (.slice oa on oc) (adds L (ow 1 nm (rdS nk) (fun X Y => (rdK kk).occ X Y) (fun X => (rdA ak).occ X X) B)) W (.returned (.slice oa on oc)) w1) := by
      have e : ow 1 nm (rdS nk) (fun X Y => (rdK kk).occ X Y) (fun X => (rdA ak).occ X X) B = [] := by
        dsimp only [ow]
        rw [if_pos rfl, if_pos (HQ.out.1 rfl)]
      rw [e, show adds L [] = L from rfl]
      have hN := HN.out
      have hO := HO1.out
      subst hN
      exact ⟨oa, oc, rfl, hO, kt HB1.out, fun g hg => .inl hg⟩
    clear b1 c0 c1
    go_wp2_with fail
    go_ret
    exact HF.out
  | false =>
    have HAD := hide (m_add (.slice oa on oc) L nm w1 (by have h := HO1.out; have e := HN.out; rw [e] at h ⊢; exact h) HLE.out)
    have HE : Hid (ow 1 nm (rdS nk) (fun X Y => (rdK kk).occ X Y) (fun X => (rdA ak).occ X X) B = [nm]) := by
      unfold Hid
      dsimp only [ow]
      rw [if_pos rfl, if_neg (fun h => absurd (HQ.out.2 h) (by simp))]
    have HF : Hid (∀ e w2, FrP (.slice oa on oc) (adds L [nm]) w1 e w2 → FrP (.slice oa on oc) (adds L (ow 1 nm (rdS nk) (fun X Y => (rdK kk).occ X Y) (fun X => (rdA ak).occ X X) B)) W e w2) := by
      rintro e w2 ⟨a, c, h1, h2, h3, h4⟩
      rw [HE.out]
      refine ⟨a, c, h1, h2, (kt HB1.out).trans2 h3 (fun b _ h => h), fun g hg => ?_⟩
      rcases h4 g hg with h | h
      · exact .inl h
      · exact .inr (Nat.le_trans HB1.out.size h)
    clear b1 c0 c1
    go_wp2_with fail
    refine HAD.out.mono ?_
    rintro e w2 hfr
    have HFR := hide (HF.out e w2 hfr)
    obtain ⟨a, c, rfl, -⟩ := hfr
    clear HAD HF
    go_wp2_with fail
    go_ret
    exact HFR.out

set_option maxHeartbeats 4000000 in
set_option maxRecDepth 100000 in
theorem fre_o (nb m : Nat) (ih : FreC nb m) (F : Fo) (W : World) (ba : Option Addr) (bc : Nat) (B : List ByteArray) (v : Value) (L : List ByteArray) (hm : F.size ≤ m + 1) (hf : Fit E F (E 3)) (hgd : (rdK F).good) (hs : F.Subs W (fun c => c < nb)) (hnb : nb ≤ W.heap.size) (hv : ∀ g, v.ownBlock = some g → nb ≤ g) (hb : SR W (fun c => c < W.heap.size ∧ v.ownBlock ≠ some c) ba bc B) (ho : W.ownsRow 0 9 1 v L.length (L.map Value.string)) (hB : B.length + F.size ≤ 16777216) (hL : L.length + F.size ≤ 16777216) (hkk : ∃ h ks al r, rdK F = .nd h ks al r ∧ ¬ h.k = 1 ∧ ¬ h.k = 6 ∧ ¬ h.k = 7 ∧ ¬ h.k = 8) :
    Calls Try.prog 72 #[.agg F.vals.toArray, .slice ba B.length bc, v] W (FrP v (adds L ((rdK F).occ B B).flatten) W) := by
  obtain ⟨k, nm, mn, la, ln, lc, lk, na, nn, nc, nk, ka, kn, kc, kk, aa, an, ac, ak, rfl, -, hnm, h3, h4, h5, h6⟩ := core_open hf
  obtain ⟨hs3, hs4, hs5, hs6, -⟩ := hs
  obtain ⟨h, ks, al, r, hrk, hk1, hk6, hk7, hk8⟩ := hkk
  rw [rdK_nd, rdK_nil] at hgd hrk ⊢
  obtain ⟨rfl, -⟩ := Tm.nd.inj hrk
  replace hk1 : (k == 1) = false := beq_eq_false_iff_ne.2 hk1
  replace hk6 : (k == 6) = false := beq_eq_false_iff_ne.2 hk6
  replace hk7 : (k == 7) = false := beq_eq_false_iff_ne.2 hk7
  replace hk8 : (k == 8) = false := beq_eq_false_iff_ne.2 hk8
  rw [occ_one _ _ _ _ rfl]
  obtain ⟨hg1, hg2, hg3, -⟩ := hgd
  simp only [Fo.size] at hm hB hL
  simp only [Fo.vals]
  obtain ⟨oa, oc, rfl, -, -⟩ := sr_row ho
  obtain ⟨on, hon⟩ : ∃ n, n = L.length := ⟨_, rfl⟩
  obtain ⟨bn, hbn⟩ : ∃ n, n = B.length := ⟨_, rfl⟩
  rw [← hon] at ho hb hv
  rw [← hon, ← hbn]
  have hkx : kn ≤ 9223372036854775807 := sub_facts hs5
  have hax : an ≤ 9223372036854775807 := sub_facts hs6
  obtain ⟨V1, hV1⟩ : ∃ V, W.alloc (.cells #[.int .i64 k, .string nm, .bool mn, .slice la ln lc, .slice na nn nc, .slice ka kn kc, .slice aa an ac] 36) = V := ⟨_, rfl⟩
  have b0 : Below W.heap.size W V1 := by rw [← hV1]; exact below_alloc1 _ _
  have z0 : V1.heap.size = W.heap.size + 1 := by rw [← hV1]; simp
  have q0 : Bx V1 W.heap.size [.int .i64 k, .string nm, .bool mn, .slice la ln lc, .slice na nn nc, .slice ka kn kc, .slice aa an ac] := by rw [← hV1]; exact Bx.new _ _ _
  have hvo : ∀ c, (Value.slice oa on oc).ownBlock = some c → c < W.heap.size := own_lt ho
  have HOC : Hid (ow k nm (rdS nk) (fun X Y => (rdK kk).occ X Y) (fun X => (rdA ak).occ X X) B = ((rdK kk).occ B B).flatten) := by
    unfold Hid
    dsimp only [ow]
    rw [if_neg (beq_eq_false_iff_ne.1 hk1), if_neg (by rintro (h | h); exact beq_eq_false_iff_ne.1 hk6 h; exact beq_eq_false_iff_ne.1 hk7 h), if_neg (beq_eq_false_iff_ne.1 hk8)]
  obtain ⟨P, hP⟩ : ∃ P, P = B := ⟨_, rfl⟩
  obtain ⟨pa, hpa⟩ : ∃ pa, pa = ba := ⟨_, rfl⟩
  obtain ⟨pc, hpc⟩ : ∃ pc, pc = bc := ⟨_, rfl⟩
  obtain ⟨pn, hpn⟩ : ∃ pn, pn = bn := ⟨_, rfl⟩
  rw [← hP] at HOC hbn hb hB
  rw [← hpn] at hbn
  rw [← hpa, ← hpc] at hb
  rw [← hP, ← hpa, ← hpc, ← hpn]
  have HSR : Hid (SR V1 (fun c => c < V1.heap.size ∧ (Value.slice oa on oc).ownBlock ≠ some c) pa pc P) := (hb.below b0 (fun c hc => hc.1)).mono (fun c hc => ⟨by omega, hc.2⟩)
  have HPN := hide hbn
  have HON := hide hon
  have HFI : Hid (FI V1 V1 (.slice oa on oc) (.slice oa on oc) L) := FI.start (by rw [← hon]; exact ownsRow_kept ho (kt (S := fun _ => True) b0) (fun _ _ => trivial))
  have HRK := hide ((Rd.start h5 hs5).below b0 hnb)
  have HQK : Hid (∀ V, Kept (fun c => c < V1.heap.size ∧ (Value.slice oa on oc).ownBlock ≠ some c) V1 V → Bx V W.heap.size [.int .i64 k, .string nm, .bool mn, .slice la ln lc, .slice na nn nc, .slice ka kn kc, .slice aa an ac]) := fun V k => q0.kept k ⟨by omega, fun e => by have := hvo _ e; omega⟩
  have HKG := hide hg2
  have HV := hide hv
  have HNZ : Hid (nb ≤ V1.heap.size) := by show _ ≤ _; omega
  have HM := hide hm
  have HSZ : Hid (P.length + kk.size ≤ 16777216 ∧ L.length + kk.size ≤ 16777216) := ⟨by omega, by omega⟩
  have HEND : Hid (∀ wr a n c M, FI V1 wr (.slice oa on oc) (.slice a n c) M → n = M.length → M = adds L ((rdK kk).occ P P).flatten → FrP (.slice oa on oc) (adds L (ow k nm (rdS nk) (fun X Y => (rdK kk).occ X Y) (fun X => (rdA ak).occ X X) P)) W (.returned (.slice a n c)) wr) := fun wr a n c M h1 h2 h3 => by
    rw [HOC.out, ← h3]
    exact h1.frp h2 (kt b0)
  have HV1 := hide hV1
  have c0 := q0.cel 0 _ rfl
  clear hV1 b0 q0 z0 hb ho hvo hs3 hs4 hs5 hs6 hv hg1 hg2 hg3 hf hm hB hL h3 h4 h5 h6 hon hbn hrk hP hpa hpc hpn HOC
  go_enter Try.func72, Try.ntmps72
  go_upto_region 1 with fail
  rw [HV1.out]
  clear HV1
  go_wp2_with fail
  go_loopw [2, 9] (fun s2 s9 wr => ∃ (i : Nat) (r : Fo) (M : List ByteArray) (a : Option Addr) (n c : Nat), s2 = .slice a n c ∧ s9 = .int .i64 i ∧ i ≤ kn ∧ Hid (n = M.length) ∧ Hid (adds M ((rdK r).occ P P).flatten = adds L ((rdK kk).occ P P).flatten ∧ (rdK r).good ∧ M.length + r.size ≤ 16777216 ∧ r.size ≤ kk.size) ∧ Hid (Rd E (E 3) kn nb ka i r wr) ∧ Hid (FI V1 wr (.slice oa on oc) (.slice a n c) M)) (fun _ s9 _ => kn - (intOf s9).toNat)
  case atStart => exact ⟨0, kk, L, _, _, _, rfl, rfl, Nat.zero_le _, HON, ⟨rfl, HKG.out, by have := HSZ.out; omega, Nat.le_refl _⟩, HRK, HFI⟩
  case round =>
    obtain ⟨i, r, M, a, n, c, rfl, rfl, hin, hlen, hinv, hRd, hFI⟩ := hrel
    have c5 := (HQK.out wr hFI.out.kp).cel 5 _ rfl
    by_cases hi : i < kn
    · obtain ⟨x, rr, b, o, rfl, hx, rfl, hb, hc, hxs, hR1⟩ := hRd.out.next hi (by decide)
      obtain ⟨g1, g2, g3, g4⟩ := hinv.out
      rw [occK_app hx, List.flatten_cons, adds_append] at g1
      rw [goodK_app hx] at g2
      rw [Fo.app_size] at g3 g4
      have hii : (i : Int) < kn := by omega
      have hvg : ∀ g, (Value.slice a n c).ownBlock = some g → nb ≤ g := fun g hg => by
        rcases hFI.out.at_ g hg with e | e
        · exact HV.out g e
        · have := HNZ.out; omega
      have HC := hide (ih x wr pa pc P (.slice a n c) M (by have := HM.out; omega) hx g2.1 hxs (by have := HNZ.out; have := hFI.out.kp.size; omega) hvg (hFI.out.sr HSR.out) hFI.out.own (by have := HSZ.out; omega) (by omega))
      rw [← HPN.out] at HC
      obtain ⟨M2, hM2⟩ : ∃ M2, M2 = adds M ((rdK x).occ P P).flatten := ⟨_, rfl⟩
      rw [← hM2] at HC g1
      have HG : Hid (adds M2 ((rdK rr).occ P P).flatten = adds L ((rdK kk).occ P P).flatten ∧ (rdK rr).good ∧ M2.length + rr.size ≤ 16777216 ∧ rr.size ≤ kk.size) := by
        refine ⟨g1, g2.2, ?_, by omega⟩
        have h1 := adds_len ((rdK x).occ P P).flatten M
        have h2 := occK_le x P P
        rw [← hM2] at h1
        omega
      have HR1 := hide hR1
      have HVG := hide hvg
      obtain ⟨xk, xnm, xmn, xla, xln, xlc, xlk, xna, xnn, xnc, xnk, xka, xkn, xkc, xkk, xaa, xan, xac, xak, rfl, -⟩ := core_open hx
      simp only [Fo.vals] at HC hc
      have p0 : wr.cell? ⟨b, o + i * 7, none⟩ = some (.int .i64 xk) := hc 0 _ rfl
      have p1 : wr.cell? ⟨b, o + i * 7 + 1, none⟩ = some (.string xnm) := hc 1 _ rfl
      have p2 : wr.cell? ⟨b, o + i * 7 + 2, none⟩ = some (.bool xmn) := hc 2 _ rfl
      have p3 : wr.cell? ⟨b, o + i * 7 + 3, none⟩ = some (.slice xla xln xlc) := hc 3 _ rfl
      have p4 : wr.cell? ⟨b, o + i * 7 + 4, none⟩ = some (.slice xna xnn xnc) := hc 4 _ rfl
      have p5 : wr.cell? ⟨b, o + i * 7 + 5, none⟩ = some (.slice xka xkn xkc) := hc 5 _ rfl
      have p6 : wr.cell? ⟨b, o + i * 7 + 6, none⟩ = some (.slice xaa xan xac) := hc 6 _ rfl
      clear hc hxs hx g1 g2 g3 g4 hinv hRd hR1 hvg hM2
      go_wp2_with fail
      refine HC.out.mono ?_
      clear HC
      rintro e w1 ⟨a1, c1, rfl, ho1, hk1, hg1⟩
      have HF1 := hide (hFI.out.call ho1 hk1 hg1)
      have HRn := hide (HR1.out.kept hk1 (by have := HNZ.out; have := hFI.out.kp.size; omega) (fun c' hc' e => by have := HVG.out c' e; omega))
      obtain ⟨n2, hn2⟩ : ∃ n2, n2 = M2.length := ⟨_, rfl⟩
      rw [← hn2] at HF1
      rw [← hn2]
      have HN2 := hide hn2
      clear ho1 hk1 hg1 hn2 HVG p0 p1 p2 p3 p4 p5 p6
      go_wp2_with fail
      go_roundw
      case rel => exact ⟨i + 1, rr, M2, _, _, _, rfl, by go_num, by omega, HN2, HG, HRn, HF1⟩
      case measure => simp [intOf]; omega
    · obtain ⟨rfl, -⟩ := hRd.out.done hi
      obtain ⟨g1, -, -, -⟩ := hinv.out
      rw [rdK_nil] at g1
      have HG : Hid (M = adds L ((rdK kk).occ P P).flatten) := g1
      have hji : ¬ (i : Int) < kn := by omega
      clear g1 hinv hRd
      go_wp2_with fail
      go_ret
      exact HEND.out wr a n c M hFI.out hlen.out HG.out

end Go.Proofs.Ytmpnbaebdghopaa
