import Derived.Test.YtfgmgbkiebeeoaaJG
import Derived.Test.YtfgmgbkiebeeoaaXr
import Derived.Test.YtfgmgbkiebeeoaaRd
import Derived.Test.YtfgmgbkiebeeoaaKe
import Derived.Test.YtfgmgbkiebeeoaaUt
import Derived.LaidEqlPtr
import Derived.Test.YtfgmgbkiebeeoaaVb
namespace Go.Proofs.Ytfgmgbkiebeeoaa
open Go.RowKit Go.Joins

/-- Two lists of one root each. -/
def two (rb rc : Nat) (F G : Fo) : Fo := .s (some ⟨rb, 0, none⟩) 1 1 F (.s (some ⟨rc, 0, none⟩) 1 1 G .nil)

structure RT2 (W : World) (rb rc : Nat) (F G : Fo) : Prop where
  ff : Fit E F (rep (E 3) 1)
  fg : Fit E G (rep (E 3) 1)
  sub : Fo.Subs W (fun c => c < W.heap.size) (two rb rc F G)
  nd : (two rb rc F G).inn.Nodup
  live : Live W (two rb rc F G).inn
  tc : tcK F + tcK G ≤ 4000000

theorem one_len {F : Fo} (h : Fit E F (rep (E 3) 1)) : F.len = 7 := by have := Fit.len h; rw [rep_len] at this; simpa [show (E 3).length = 7 from rfl] using this

theorem GI.start2 {O : Nat → Nat} {W : World} {S : Nat → Prop} {R : List Nat} {c : Nat} (hn : R.Nodup) : GI O W S [] [] [] [] [] [] R c c :=
  ⟨rfl, rfl, (fun i e r he => by simp at he), (fun i e r he => by simp at he), (fun d hd => by simp [ndK, ndA] at hd), (fun d hd => by cases hd), (fun d hd => by simp [ndK, ndA] at hd), (by simpa using hn), (by simp [ndK, ndA]), (by simp [ndK, ndA]), ⟨(fun r hr => by cases hr), (fun r hr => by cases hr)⟩⟩

theorem RT2.start {W V : World} {rb rc : Nat} {F G : Fo} {Gd wb fb M0 : Nat} (h : RT2 W rb rc F G) (b : WB W V Gd wb fb M0) :
    ∃ O : Nat → Nat, O rb = 0 ∧ O rc = 0 ∧ Offs O (.s (some ⟨rb, 0, none⟩) 1 1 F .nil) ∧ Offs O (.s (some ⟨rc, 0, none⟩) 1 1 G .nil) ∧ Fo.Sub V (SB V (W.heap.size + 5) Gd wb) (some ⟨rb, 0, none⟩) 1 1 F ∧ Fo.Sub V (SB V (W.heap.size + 5) Gd wb) (some ⟨rc, 0, none⟩) 1 1 G ∧
      GX O (fun j => V.cell? ⟨Gd, j, none⟩) V (SB V (W.heap.size + 5) Gd wb) (W.heap.size + 5) Gd wb fb V [] [] [] [] [] [] ((blk (some ⟨rb, 0, none⟩) F.len ++ F.inn) ++ ((blk (some ⟨rc, 0, none⟩) G.len ++ G.inn) ++ [])) (tcK F + (tcK G + 0)) (tcK F + tcK G) := by
  obtain ⟨O, ho⟩ := offs_ex h.sub h.nd
  have hl := one_len h.ff
  have hl2 := one_len h.fg
  obtain ⟨ho1, ho2, ho3, ho4, -⟩ := ho
  have eo : O rb = 0 := ho1 (by omega) rb 0 rfl
  have eo2 : O rc = 0 := ho3 (by omega) rc 0 rfl
  have hsb : ∀ c ∈ (two rb rc F G).inn, SB V (W.heap.size + 5) Gd wb c := fun c hc => by
    have h1 := h.sub.inn_of c hc
    obtain ⟨o, v, hv⟩ := inn_cell h.sub c hc
    have e1 := b.eG
    have e2 := b.ew
    refine ⟨LiveB.of (o := o) (v := v) (fun j => (b.kp.frozen (p := ⟨c, j, none⟩) h1).trans (h.live c hc j)) ((b.kp.cell (p := ⟨c, o, none⟩) h1).trans hv), ?_, ?_, ?_, ?_⟩
    · have := b.sz; omega
    · omega
    · omega
    · omega
  have hs : Fo.Subs V (SB V (W.heap.size + 5) Gd wb) (two rb rc F G) := ((h.sub.own).below b.kp (fun c hc => h.sub.inn_of c hc)).mono hsb
  have e1 := b.eG
  have e2 := b.ew
  have e3 := b.ef
  refine ⟨O, eo, eo2, ⟨ho1, ho2, trivial⟩, ⟨ho3, ho4, trivial⟩, hs.1, hs.2.1, ⟨_, _, _, _, _, St.start (by have := b.sz; omega) (by omega) ⟨by omega, by omega⟩ ⟨by omega, by omega, by omega⟩ _ M0 b.bg b.bw b.bf⟩, ?_, Kept.refl _ _⟩
  rw [Nat.add_zero]
  refine GI.start2 ?_
  have := h.nd
  simpa [two, Fo.inn] using this

/-- A list of the ground is numbered. -/
theorem NP.list {O : Nat → Nat} {W w w' : World} {lo G M0 : Nat} {KK AA : List (Nat × Nat)} {mk sk ma sa : Value} {tk ta : Nat} {ND : List Nd} {k : Nat} {LS : List (Nat × Nat)} {lv nv : Value} {PQ : List (Nat × Nat)} {a : Option Addr} {m : Nat} {x : Nat × Nat} {i : Nat} {L2 : List (Nat × Nat)} {lv' : Value} (h : NP O W w lo G M0 KK AA mk sk ma sa tk ta ND k LS lv nv PQ) (hl : LS.length + 1 ≤ 2 * k + 3) (q : LQ w w' W.heap.size G LS lv M0 x i L2 lv') (kx : KX O KK a m x) :
    NP O W w' lo G M0 KK AA mk sk ma sa tk ta ND k (LS ++ L2) lv' nv PQ ∧ (LS ++ L2)[i]? = some x := by
  refine ⟨⟨h.pn.list q, h.le, h.pq, fun i d p h1 h2 => ?_, fun z hz => ?_, ?_, ?_, h.hg⟩, q.at_⟩
  · obtain ⟨x', y', r1, r2, r3, r4⟩ := h.rel i d p h1 h2
    exact ⟨x', y', get_app r1, r2, get_app r3, r4⟩
  · rcases List.mem_append.1 hz with e | e
    · exact h.so z e
    · rcases q.new with e2 | e2
      · rw [e2] at e; cases e
      · rw [e2, List.mem_singleton] at e
        rw [e]
        exact kx.lso
  · have : L2.length ≤ 1 := by rcases q.new with e | e <;> simp [e]
    rw [List.length_append]
    omega
  · have h1 := h.hg
    exact Below.kept h.be q.kept (fun c hc => ⟨by omega, fun e => by have := (World.ownsRow.lt h.pn.z.ln.ow c e).1; omega, by omega⟩) (Nat.le_refl _)

/-- The ground of two roots as it is answered. -/
def GE2 (W W' : World) (rb rc : Nat) (F G : Fo) (Gd : Nat) : Prop :=
  ∃ (O : Nat → Nat) (A7 : World) (lo wb M0 : Nat) (KK AA : List (Nat × Nat)) (KR AR : List Fo) (mk sk ma sa : Value) (tk ta : Nat) (LS : List (Nat × Nat)) (lv nv : Value) (PQ : List (Nat × Nat)),
    GI O A7 (SB A7 lo Gd wb) KK AA KR AR [] [] [] 0 (tcK F + tcK G) ∧ NP O W W' lo Gd M0 KK AA mk sk ma sa tk ta (ndK O KK KR ++ ndA O AA AR) (ndK O KK KR ++ ndA O AA AR).length LS lv nv PQ ∧ (∃ i : Nat, KK[i]? = some (rb, 1) ∧ KR[i]? = some F) ∧ (∃ i : Nat, KK[i]? = some (rc, 1) ∧ KR[i]? = some G) ∧ (∃ (i : Nat) (x : Nat × Nat), LS[i]? = some x ∧ KX O KK (some ⟨rb, 0, none⟩) 1 x) ∧ (∃ (i : Nat) (x : Nat × Nat), LS[i]? = some x ∧ KX O KK (some ⟨rc, 0, none⟩) 1 x) ∧ O rb = 0 ∧ O rc = 0 ∧ Below W.heap.size W A7 ∧ lo = W.heap.size + 5

/-- k nodes are there, and both roots have a number. -/
def NQ2 (O : Nat → Nat) (W : World) (lo G M0 : Nat) (KK AA : List (Nat × Nat)) (mk sk ma sa : Value) (tk ta : Nat) (ND : List Nd) (rb rc k : Nat) (w : World) : Prop :=
  ∃ LS lv nv PQ, NP O W w lo G M0 KK AA mk sk ma sa tk ta ND k LS lv nv PQ ∧ (∃ (i : Nat) (x : Nat × Nat), LS[i]? = some x ∧ KX O KK (some ⟨rb, 0, none⟩) 1 x) ∧ ∃ (i : Nat) (x : Nat × Nat), LS[i]? = some x ∧ KX O KK (some ⟨rc, 0, none⟩) 1 x

section
variable {O : Nat → Nat} {W A7 w : World} {lo G wb M0 : Nat} {KK AA : List (Nat × Nat)} {KR AR : List Fo} {mk sk ma sa : Value} {tk ta rb rc k tot : Nat}

theorem NQ2.next (h : NQ2 O W lo G M0 KK AA mk sk ma sa tk ta (ndK O KK KR ++ ndA O AA AR) rb rc k w) (gi : GI O A7 (SB A7 lo G wb) KK AA KR AR [] [] [] 0 tot) (hk : Below W.heap.size W A7) (hlo : lo = W.heap.size + 5) (ht : tot ≤ 4000000) {d : Nd} (hd : (ndK O KK KR ++ ndA O AA AR)[k]? = some d) :
    Calls Try.prog 41 #[.pointer (some ⟨G, 0, none⟩), .pointer (some ⟨d.b, d.o, none⟩)] w fun e w' => (∃ v, e = .returned v) ∧ NQ2 O W lo G M0 KK AA mk sk ma sa tk ta (ndK O KK KR ++ ndA O AA AR) rb rc (k + 1) w' := by
  obtain ⟨LS, lv, nv, PQ, np, ⟨i, x, h1, h2⟩, j, y, h3, h4⟩ := h
  obtain ⟨n1, n2, n3⟩ := gi.node hk hlo (List.mem_of_getElem? hd)
  refine (np.step (gi.bdd ht) (by have := gi.bound.1; omega) hd n1 n2 (n3.elim (fun e => .inr (.inr (.inr (.inr (.inl e))))) (fun e => .inr (.inr (.inr (.inr (.inr e))))))).mono ?_
  rintro e w' ⟨hv, LS', lv', nv', PQ', g1, L2, rfl⟩
  exact ⟨hv, _, lv', nv', PQ', g1, ⟨i, x, get_app h1, h2⟩, j, y, get_app h3, h4⟩

theorem NQ2.kid (h : NQ2 O W lo G M0 KK AA mk sk ma sa tk ta (ndK O KK KR ++ ndA O AA AR) rb rc k w) (gi : GI O A7 (SB A7 lo G wb) KK AA KR AR [] [] [] 0 tot) (hk : Below W.heap.size W A7) (hlo : lo = W.heap.size + 5) (ht : tot ≤ 4000000) (hl : k < K.off KK KK.length) :
    ∃ b o, w.cell? ⟨tk, k, none⟩ = some (.pointer (some ⟨b, o, none⟩)) ∧ Calls Try.prog 41 #[.pointer (some ⟨G, 0, none⟩), .pointer (some ⟨b, o, none⟩)] w fun e w' => (∃ v, e = .returned v) ∧ NQ2 O W lo G M0 KK AA mk sk ma sa tk ta (ndK O KK KR ++ ndA O AA AR) rb rc (k + 1) w' := by
  obtain ⟨d, hd⟩ : ∃ d, (ndK O KK KR)[k]? = some d := ⟨_, List.getElem?_eq_getElem (by rw [gi.numK]; exact hl)⟩
  obtain ⟨i, e, r, j, h1, h2, h3, h4, h5, h6⟩ := gi.atK hd
  obtain ⟨LS, lv, nv, PQ, np, hr⟩ := id h
  refine ⟨d.b, d.o, ?_, h.next gi hk hlo ht (get_app hd)⟩
  rcases np.pn.z.tK.full i e j h1 h3 with e1 | e1
  · cases e1
  · rw [← h4, ← h6] at e1
    exact e1

theorem NQ2.alt (h : NQ2 O W lo G M0 KK AA mk sk ma sa tk ta (ndK O KK KR ++ ndA O AA AR) rb rc (K.off KK KK.length + k) w) (gi : GI O A7 (SB A7 lo G wb) KK AA KR AR [] [] [] 0 tot) (hk : Below W.heap.size W A7) (hlo : lo = W.heap.size + 5) (ht : tot ≤ 4000000) (hl : k < A.off AA AA.length) :
    ∃ b o, w.cell? ⟨ta, k, none⟩ = some (.pointer (some ⟨b, o, none⟩)) ∧ Calls Try.prog 41 #[.pointer (some ⟨G, 0, none⟩), .pointer (some ⟨b, o + 2, none⟩)] w fun e w' => (∃ v, e = .returned v) ∧ NQ2 O W lo G M0 KK AA mk sk ma sa tk ta (ndK O KK KR ++ ndA O AA AR) rb rc (K.off KK KK.length + (k + 1)) w' := by
  obtain ⟨d, hd⟩ : ∃ d, (ndA O AA AR)[k]? = some d := ⟨_, List.getElem?_eq_getElem (by rw [gi.numA]; exact hl)⟩
  obtain ⟨i, e, r, j, h1, h2, h3, h4, h5, h6⟩ := gi.atA hd
  obtain ⟨LS, lv, nv, PQ, np, hr⟩ := id h
  have hdd : (ndK O KK KR ++ ndA O AA AR)[K.off KK KK.length + k]? = some d := by
    rw [← gi.numK, List.getElem?_append_right (by omega), Nat.add_sub_cancel_left]
    exact hd
  have hc := h.next gi hk hlo ht hdd
  have e2 : d.b = e.1 ∧ d.o = O e.1 + j * 9 + 2 := ⟨congrArg Prod.fst h6, congrArg Prod.snd h6⟩
  refine ⟨e.1, O e.1 + j * 9, ?_, ?_⟩
  · rcases np.pn.z.tA.full i e j h1 h3 with e1 | e1
    · cases e1
    · rw [← h4] at e1
      exact e1
  · rw [← e2.2, ← e2.1]
    exact hc

theorem NQ2.c2 (h : NQ2 O W lo G M0 KK AA mk sk ma sa tk ta (ndK O KK KR ++ ndA O AA AR) rb rc k w) : w.cell? ⟨G, 2, none⟩ = some (.slice (some ⟨tk, 0, none⟩) (K.off KK KK.length) (K.off KK KK.length)) ∧ w.cell? ⟨G, 6, none⟩ = some (.slice (some ⟨ta, 0, none⟩) (A.off AA AA.length) (A.off AA AA.length)) := by
  obtain ⟨LS, lv, nv, PQ, np, hr⟩ := h
  exact ⟨np.pn.z.c2, np.pn.z.c6⟩

theorem NQ2.fin {F H : Fo} (h : NQ2 O W lo G M0 KK AA mk sk ma sa tk ta (ndK O KK KR ++ ndA O AA AR) rb rc (K.off KK KK.length + A.off AA AA.length) w) (gi : GI O A7 (SB A7 lo G wb) KK AA KR AR [] [] [] 0 (tcK F + tcK H)) (hr : ∃ i : Nat, KK[i]? = some (rb, 1) ∧ KR[i]? = some F) (hr2 : ∃ i : Nat, KK[i]? = some (rc, 1) ∧ KR[i]? = some H) (hO : O rb = 0) (hO2 : O rc = 0) (hk : Below W.heap.size W A7) (hlo : lo = W.heap.size + 5) : GE2 W w rb rc F H G := by
  obtain ⟨LS, lv, nv, PQ, np, hx, hy⟩ := h
  refine ⟨O, A7, lo, wb, M0, KK, AA, KR, AR, mk, sk, ma, sa, tk, ta, LS, lv, nv, PQ, gi, ?_, hr, hr2, hx, hy, hO, hO2, hk, hlo⟩
  have e : (ndK O KK KR ++ ndA O AA AR).length = K.off KK KK.length + A.off AA AA.length := by rw [List.length_append, gi.numK, gi.numA]
  rw [e]
  exact np
end

end Go.Proofs.Ytfgmgbkiebeeoaa

namespace Go.Proofs.Ytfgmgbkiebeeoaa
open Go.RowKit Go.Joins

/-- A term without what is below it. -/
def bare : Fo → Fo
  | .v k (.v nm (.v mn (.s la ln lc lk (.s na nn nc nk (.s ka kn kc _ (.s aa an ac _ _)))))) => .v k (.v nm (.v mn (.s la ln lc lk (.s na nn nc nk (.s ka kn kc .nil (.s aa an ac .nil .nil))))))
  | _ => .nil
def hdK (x x' : Fo) : Prop := (bare x').sim (bare x)
def hdA : Fo → Fo → Prop
  | .v con (.s _ cn _ ck x), .v con' (.s _ cn' _ ck' x') => (con = con' ∧ cn = cn' ∧ ck'.sim ck) ∧ hdK x x'
  | _, _ => False
/-- What two elements of rows have to have in common, the terms below them aside. -/
def hd (al : Bool) (y y' : Fo) : Prop := if al then hdA y y' else hdK y y'
def bdA : Fo → Fo
  | .v _ (.s _ _ _ _ x) => x
  | _ => .nil
/-- An element's term. -/
def bdy (al : Bool) (y : Fo) : Fo := if al then bdA y else y
def fdl (al : Bool) : List Fld := if al then E 2 else E 3
def sz (al : Bool) : Nat := if al then 9 else 7
def hr (al : Bool) : Nat := if al then 2 else 0
def tcB (al : Bool) (F : Fo) : Nat := if al then tcA F else tcK F
def itB (al : Bool) (b o : Nat) (F : Fo) : List Nd := if al then itA b o F else itK b o F
/-- The blocks of a row and below it. -/
def ib (a : Option Addr) (k : Fo) : List Nat := blk a k.len ++ k.inn

theorem bdy_fit {al : Bool} {y : Fo} (h : Fit E y (fdl al)) : Fit E (bdy al y) (E 3) := by
  cases al with
  | false => exact h
  | true =>
    obtain ⟨con, ca, cn, cc, ck, x, rfl, -, -, hx⟩ := alt_open h
    exact hx

theorem fdl_len (al : Bool) : (fdl al).length = sz al := by cases al <;> rfl

theorem row_split {al : Bool} {n : Nat} {q : Fo} (h : Fit E q (rep (fdl al) (n + 1))) : ∃ y q1, q = y.app q1 ∧ Fit E y (fdl al) ∧ Fit E q1 (rep (fdl al) n) ∧ y.len = sz al := by
  obtain ⟨y, q1, e, h1, h2, h3⟩ := Fit.split (fs := fdl al) (gs := rep (fdl al) n) h
  exact ⟨y, q1, e, h1, h2, by rw [h3, fdl_len]⟩

theorem row_pos {al : Bool} {n : Nat} {q : Fo} (h : Fit E q (rep (fdl al) n)) (hn : 0 < n) : 0 < q.len := by
  have := Fit.len h
  rw [rep_len, fdl_len] at this
  rw [this]
  have : 0 < sz al := by cases al <;> decide
  exact Nat.mul_pos hn this

theorem sim_step (al : Bool) {y y' q q' : Fo} (h : Fit E y (fdl al)) (h' : Fit E y' (fdl al)) : (y'.app q').sim (y.app q) ↔ hd al y y' ∧ (kF (bdy al y')).sim (kF (bdy al y)) ∧ (aF (bdy al y')).sim (aF (bdy al y)) ∧ q'.sim q := by
  cases al with
  | false =>
    obtain ⟨k, nm, mn, la, ln, lc, lk, na, nn, nc, nk, ka, kn, kc, kk, aa, an, ac, ak, rfl, -⟩ := core_open h
    obtain ⟨k', nm', mn', la', ln', lc', lk', na', nn', nc', nk', ka', kn', kc', kk', aa', an', ac', ak', rfl, -⟩ := core_open h'
    simp only [Fo.app, Fo.sim, hd, hdK, bare, bdy, kF, aF, Bool.false_eq_true, if_false]
    constructor
    · rintro ⟨h1, h2, h3, h4, h5, h6, h7, h8, h9, h10, h11, h12⟩
      exact ⟨⟨h1, h2, h3, h4, h5, h6, h7, h8, trivial, h10, trivial, trivial⟩, h9, h11, h12⟩
    · rintro ⟨⟨h1, h2, h3, h4, h5, h6, h7, h8, -, h10, -, -⟩, h9, h11, h12⟩
      exact ⟨h1, h2, h3, h4, h5, h6, h7, h8, h9, h10, h11, h12⟩
  | true =>
    obtain ⟨con, ca, cn, cc, ck, x, rfl, -, -, hx⟩ := alt_open h
    obtain ⟨con', ca', cn', cc', ck', x', rfl, -, -, hx'⟩ := alt_open h'
    obtain ⟨k, nm, mn, la, ln, lc, lk, na, nn, nc, nk, ka, kn, kc, kk, aa, an, ac, ak, rfl, -⟩ := core_open hx
    obtain ⟨k', nm', mn', la', ln', lc', lk', na', nn', nc', nk', ka', kn', kc', kk', aa', an', ac', ak', rfl, -⟩ := core_open hx'
    simp only [Fo.app, Fo.sim, hd, hdA, hdK, bare, bdy, bdA, kF, aF, if_true]
    constructor
    · rintro ⟨g1, g2, g3, h1, h2, h3, h4, h5, h6, h7, h8, h9, h10, h11, h12⟩
      exact ⟨⟨⟨g1.symm, g2.symm, g3⟩, h1, h2, h3, h4, h5, h6, h7, h8, trivial, h10, trivial, trivial⟩, h9, h11, h12⟩
    · rintro ⟨⟨⟨g1, g2, g3⟩, h1, h2, h3, h4, h5, h6, h7, h8, -, h10, -, -⟩, h9, h11, h12⟩
      exact ⟨g1.symm, g2.symm, g3, h1, h2, h3, h4, h5, h6, h7, h8, h9, h10, h11, h12⟩

theorem hd_num {al : Bool} {y y' : Fo} (h : Fit E y (fdl al)) (h' : Fit E y' (fdl al)) (e : hd al y y') : kN (bdy al y') = kN (bdy al y) ∧ aN (bdy al y') = aN (bdy al y) := by
  have key : ∀ x x', Fit E x (E 3) → Fit E x' (E 3) → hdK x x' → kN x' = kN x ∧ aN x' = aN x := by
    intro x x' hx hx' e
    obtain ⟨k, nm, mn, la, ln, lc, lk, na, nn, nc, nk, ka, kn, kc, kk, aa, an, ac, ak, rfl, -⟩ := core_open hx
    obtain ⟨k', nm', mn', la', ln', lc', lk', na', nn', nc', nk', ka', kn', kc', kk', aa', an', ac', ak', rfl, -⟩ := core_open hx'
    simp only [hdK, bare, Fo.sim] at e
    exact ⟨e.2.2.2.2.2.2.2.1, e.2.2.2.2.2.2.2.2.2.1⟩
  cases al with
  | false => exact key _ _ h h' e
  | true =>
    obtain ⟨con, ca, cn, cc, ck, x, rfl, -, -, hx⟩ := alt_open h
    obtain ⟨con', ca', cn', cc', ck', x', rfl, -, -, hx'⟩ := alt_open h'
    exact key x x' hx hx' e.2

theorem tcB_step {al : Bool} {y : Fo} (h : Fit E y (fdl al)) (q : Fo) : tcB al (y.app q) = 1 + tcK (kF (bdy al y)) + tcA (aF (bdy al y)) + tcB al q := by
  cases al with
  | false =>
    obtain ⟨k, nm, mn, la, ln, lc, lk, na, nn, nc, nk, ka, kn, kc, kk, aa, an, ac, ak, rfl, -⟩ := core_open h
    show tcK _ = _
    simp only [Fo.app]
    rw [tcK_nd]
    rfl
  | true =>
    obtain ⟨con, ca, cn, cc, ck, x, rfl, -, -, hx⟩ := alt_open h
    obtain ⟨k, nm, mn, la, ln, lc, lk, na, nn, nc, nk, ka, kn, kc, kk, aa, an, ac, ak, rfl, -⟩ := core_open hx
    show tcA _ = _
    simp only [Fo.app]
    rw [tcA_nd]
    rfl

theorem tcB_nil (al : Bool) : tcB al .nil = 0 := by
  cases al
  · exact tcK_nil
  · exact tcA_nil

theorem inn_step {al : Bool} {y : Fo} (h : Fit E y (fdl al)) (q : Fo) : List.Sublist (ib (kA (bdy al y)) (kF (bdy al y)) ++ (ib (aA (bdy al y)) (aF (bdy al y)) ++ q.inn)) (y.app q).inn := by
  have key : ∀ x, Fit E x (E 3) → List.Sublist (ib (kA x) (kF x) ++ (ib (aA x) (aF x) ++ q.inn)) (x.app q).inn := by
    intro x hx
    obtain ⟨k, nm, mn, la, ln, lc, lk, na, nn, nc, nk, ka, kn, kc, kk, aa, an, ac, ak, rfl, -⟩ := core_open hx
    simp only [Fo.app, Fo.inn, kA, kF, aA, aF, ib]
    exact (List.sublist_append_right _ _).trans (List.sublist_append_right _ _)
  cases al with
  | false => exact key y h
  | true =>
    obtain ⟨con, ca, cn, cc, ck, x, rfl, -, -, hx⟩ := alt_open h
    exact (key x hx).trans (List.sublist_append_right _ _)

theorem it_step {al : Bool} {y : Fo} (h : Fit E y (fdl al)) (b o : Nat) (q : Fo) : itB al b o (y.app q) = ⟨b, o + hr al, bdy al y⟩ :: itB al b (o + sz al) q := by
  cases al with
  | false =>
    obtain ⟨k, nm, mn, la, ln, lc, lk, na, nn, nc, nk, ka, kn, kc, kk, aa, an, ac, ak, rfl, -⟩ := core_open h
    rfl
  | true =>
    obtain ⟨con, ca, cn, cc, ck, x, rfl, -, -, hx⟩ := alt_open h
    obtain ⟨k, nm, mn, la, ln, lc, lk, na, nn, nc, nk, ka, kn, kc, kk, aa, an, ac, ak, rfl, -⟩ := core_open hx
    rfl

/-- What is known of a row in memory. -/
structure RM (W : World) (S : Nat → Prop) (b o : Nat) (q : Fo) : Prop where
  cel : Cel W q.vals b o
  sub : q.Subs W S
  at_ : S b

theorem RM.step {W : World} {S : Nat → Prop} {b o : Nat} {al : Bool} {y q : Fo} (h : RM W S b o (y.app q)) (hl : y.len = sz al) : RM W S b o y ∧ RM W S b (o + sz al) q := by
  obtain ⟨hc, hs, ha⟩ := h
  rw [Fo.app_vals] at hc
  have hc2 := hc.right
  rw [Fo.vals_length, hl] at hc2
  exact ⟨⟨hc.left, hs.left, ha⟩, hc2, hs.right, ha⟩

theorem RM.body {W : World} {S : Nat → Prop} {b o : Nat} {al : Bool} {y : Fo} (h : RM W S b o y) (hf : Fit E y (fdl al)) : RM W S b (o + hr al) (bdy al y) := by
  cases al with
  | false => exact h
  | true =>
    obtain ⟨con, ca, cn, cc, ck, x, rfl, -, -, hx⟩ := alt_open hf
    exact ⟨fun i v hv => by
      replace hv : x.vals[i]? = some v := hv
      have := h.cel (i + 2) v (by simpa [Fo.vals] using hv)
      have e : o + (i + 2) = o + 2 + i := by omega
      rwa [e] at this, h.sub.2, h.at_⟩

/-- The rows right below a term. -/
theorem RM.kids {W : World} {S : Nat → Prop} {b o : Nat} {x : Fo} (h : RM W S b o x) (hf : Fit E x (E 3)) : (0 < kN x → ∃ c p, kA x = some ⟨c, p, none⟩ ∧ RM W S c p (kF x) ∧ ib (kA x) (kF x) = c :: (kF x).inn) ∧ (0 < aN x → ∃ c p, aA x = some ⟨c, p, none⟩ ∧ RM W S c p (aF x) ∧ ib (aA x) (aF x) = c :: (aF x).inn) ∧ Fit E (kF x) (rep (E 3) (kN x)) ∧ Fit E (aF x) (rep (E 2) (aN x)) := by
  obtain ⟨k, nm, mn, la, ln, lc, lk, na, nn, nc, nk, ka, kn, kc, kk, aa, an, ac, ak, rfl, -, -, h3, h4, h5, h6⟩ := core_open hf
  obtain ⟨-, -, s5, s6, -⟩ := h.sub
  refine ⟨fun hn => ?_, fun hn => ?_, h5, h6⟩
  · have hl : 0 < kk.len := row_pos (al := false) h5 hn
    obtain ⟨c, p, rfl, g1, g2, g3⟩ := s5.2.2 hl
    refine ⟨c, p, rfl, ⟨g2, g3, g1⟩, ?_⟩
    show blk (some ⟨c, p, none⟩) kk.len ++ kk.inn = c :: kk.inn
    rw [blk_pos hl]
    rfl
  · have hl : 0 < ak.len := row_pos (al := true) h6 hn
    obtain ⟨c, p, rfl, g1, g2, g3⟩ := s6.2.2 hl
    refine ⟨c, p, rfl, ⟨g2, g3, g1⟩, ?_⟩
    show blk (some ⟨c, p, none⟩) ak.len ++ ak.inn = c :: ak.inn
    rw [blk_pos hl]
    rfl

end Go.Proofs.Ytfgmgbkiebeeoaa

namespace Go.Proofs.Ytfgmgbkiebeeoaa
open Go.RowKit Go.Joins

/-- The ground as it is numbered. -/
structure Gx where
  O : Nat → Nat
  KK : List (Nat × Nat)
  AA : List (Nat × Nat)
  KR : List Fo
  AR : List Fo
  LS : List (Nat × Nat)
  PQ : List (Nat × Nat)

def Gx.ND (x : Gx) : List Nd := ndK x.O x.KK x.KR ++ ndA x.O x.AA x.AR
def Gx.C (x : Gx) : Nat := K.off x.KK x.KK.length
def Gx.D (x : Gx) : Nat := A.off x.AA x.AA.length
def Gx.first (x : Gx) (al : Bool) (i : Nat) : Nat := if al then x.C + A.off x.AA i else K.off x.KK i
def Gx.row (x : Gx) (al : Bool) (i b n : Nat) (r : Fo) : Prop := if al then x.AA[i]? = some (b, n) ∧ x.AR[i]? = some r else x.KK[i]? = some (b, n) ∧ x.KR[i]? = some r
/-- The list that a slice is. -/
def Gx.Li (x : Gx) (al : Bool) (a : Option Addr) (n : Nat) (k : Fo) (l : Nat) : Prop := (n = 0 ∧ l = 0) ∨ ∃ i b, 0 < n ∧ a = some ⟨b, x.O b, none⟩ ∧ x.row al i b n k ∧ x.LS[l]? = some (x.first al i, n)

structure Gx.Ok (x : Gx) : Prop where
  pos : ∀ al i b n r, x.row al i b n r → 0 < n ∧ Fit E r (rep (fdl al) n)
  term : ∀ (al : Bool) (i b n : Nat) (r : Fo) (j : Nat) (d : Nd), x.row al i b n r → (itB al b (x.O b) r)[j]? = some d → x.ND[x.first al i + j]? = some d
  kid : ∀ (a : Nat) (d : Nd), x.ND[a]? = some d → ∃ p : Nat × Nat, x.PQ[a]? = some p ∧ x.Li false (kA d.x) (kN d.x) (kF d.x) p.1 ∧ x.Li true (aA d.x) (aN d.x) (aF d.x) p.2
  own : ∀ al i b n r al' i' b' n' r', x.row al i b n r → x.row al' i' b' n' r' → x.first al i = x.first al' i' → b = b'
  l0 : x.LS[0]? = some (0, 0)
  side : ∀ i b n r j, x.row false i b n r → j < n → x.first false i + j < x.C
  side2 : ∀ i b n r j, x.row true i b n r → j < n → A.off x.AA i + j < x.D
  lim : x.ND.length ≤ 4000000 ∧ x.LS.length ≤ 10000000 ∧ x.ND.length = x.C + x.D

theorem nodup_at {α : Type} {L : List α} (h : L.Nodup) {i j : Nat} {a : α} (h1 : L[i]? = some a) (h2 : L[j]? = some a) : i = j :=
  (List.getElem?_inj (List.getElem?_eq_some_iff.1 h1).1 h).1 (h1.trans h2.symm)

section
variable {O : Nat → Nat} {W A7 w : World} {lo G wb M0 : Nat} {KK AA : List (Nat × Nat)} {KR AR : List Fo} {mk sk ma sa : Value} {tk ta tot : Nat} {LS : List (Nat × Nat)} {lv nv : Value} {PQ : List (Nat × Nat)}

theorem Gx.mk_ok (np : NP O W w lo G M0 KK AA mk sk ma sa tk ta (ndK O KK KR ++ ndA O AA AR) (ndK O KK KR ++ ndA O AA AR).length LS lv nv PQ) (gi : GI O A7 (SB A7 lo G wb) KK AA KR AR [] [] [] 0 tot) (ht : tot ≤ 4000000) : (Gx.mk O KK AA KR AR LS PQ).Ok := by
  have hbd := gi.bdd ht
  have hnd := np.pn.z.ln.nd
  have hl0 := np.pn.l0
  have hb := gi.bound.1
  have hll := np.ll
  refine ⟨?_, ?_, ?_, ?_, hl0, ?_, ?_, ?_⟩
  · intro al i b n r h
    cases al with
    | false => exact ⟨(gi.fk i (b, n) r h.1 h.2).2, (gi.fk i (b, n) r h.1 h.2).1⟩
    | true => exact ⟨(gi.fa i (b, n) r h.1 h.2).2, (gi.fa i (b, n) r h.1 h.2).1⟩
  · intro al i b n r j d h hd
    cases al with
    | false => exact get_app (gi.putK (e := (b, n)) h.1 h.2 hd)
    | true => exact gi.putA (e := (b, n)) h.1 h.2 hd
  · intro a d hd
    have hd' : (ndK O KK KR ++ ndA O AA AR)[a]? = some d := hd
    have hal := (List.getElem?_eq_some_iff.1 hd').1
    have hpq := np.pq
    obtain ⟨p, hp⟩ : ∃ p, PQ[a]? = some p := ⟨_, List.getElem?_eq_getElem (by omega)⟩
    obtain ⟨X, Y, r1, r2, r3, r4⟩ := np.rel a d p hd' hp
    have hdn : Done O KK KR AA AR d.x := by
      rcases gi.pd d (List.mem_of_getElem? hd') with e | e | e
      · cases e
      · cases e
      · exact e
    refine ⟨p, hp, ?_, ?_⟩
    · rcases r2 with ⟨h0, rfl⟩ | ⟨k, b, h1, h2, h3, rfl⟩
      · exact .inl ⟨h0, nodup_at hnd r1 hl0⟩
      · obtain ⟨i, b', g1, g2, g3⟩ := hdn.k h3
        have eb : b = b' := by rw [h1] at g1; injection g1 with g1; injection g1
        have ei := fst_inj hbd.nk h2 g2 eb
        subst ei
        exact .inr ⟨k, b, h3, h1, ⟨h2, g3⟩, r1⟩
    · rcases r4 with ⟨h0, rfl⟩ | ⟨k, b, h1, h2, h3, rfl⟩
      · exact .inl ⟨h0, nodup_at hnd r3 hl0⟩
      · obtain ⟨i, b', g1, g2, g3⟩ := hdn.a h3
        have eb : b = b' := by rw [h1] at g1; injection g1 with g1; injection g1
        have ei := fst_inj hbd.na h2 g2 eb
        subst ei
        exact .inr ⟨k, b, h3, h1, ⟨h2, g3⟩, r3⟩
  · intro al i b n r al' i' b' n' r' h h' e
    cases al with
    | false =>
      have p1 := (gi.fk i (b, n) r h.1 h.2).2
      cases al' with
      | false =>
        have p2 := (gi.fk i' (b', n') r' h'.1 h'.2).2
        have e' : K.off KK i = K.off KK i' := e
        have h1 : KK[i]? = some (b, n) := h.1
        have h1' : KK[i']? = some (b', n') := h'.1
        have := (K.off_inj (j := 0) (j' := 0) h1 h1' p1 p2 (by omega)).1
        subst this
        have := h.1.symm.trans h'.1
        injection this with this
        injection this
      | true =>
        have := K.off_end h.1 p1
        have e' : K.off KK i = K.off KK KK.length + A.off AA i' := e
        dsimp only at this
        omega
    | true =>
      have p1 := (gi.fa i (b, n) r h.1 h.2).2
      cases al' with
      | false =>
        have p2 := (gi.fk i' (b', n') r' h'.1 h'.2).2
        have := K.off_end h'.1 p2
        have e' : K.off KK KK.length + A.off AA i = K.off KK i' := e
        dsimp only at this
        omega
      | true =>
        have p2 := (gi.fa i' (b', n') r' h'.1 h'.2).2
        have e' : K.off KK KK.length + A.off AA i = K.off KK KK.length + A.off AA i' := e
        have h1 : AA[i]? = some (b, n) := h.1
        have h1' : AA[i']? = some (b', n') := h'.1
        have := (A.off_inj (j := 0) (j' := 0) h1 h1' p1 p2 (by omega)).1
        subst this
        have := h.1.symm.trans h'.1
        injection this with this
        injection this
  · intro i b n r j h hj
    exact K.off_end h.1 hj
  · intro i b n r j h hj
    exact A.off_end h.1 hj
  · refine ⟨by show (ndK O KK KR ++ ndA O AA AR).length ≤ _; omega, by show LS.length ≤ _; omega, ?_⟩
    show (ndK O KK KR ++ ndA O AA AR).length = K.off KK KK.length + A.off AA AA.length
    rw [List.length_append, gi.numK, gi.numA]
end

/-- The ground in memory, as it is read. -/
structure Gx.At (x : Gx) (V : World) (G nb nc lsb cm kc ac tk ta : Nat) : Prop where
  n8 : V.cell? ⟨G, 8, none⟩ = some (.slice (some ⟨nb, 0, none⟩) x.ND.length nc)
  n9 : V.cell? ⟨G, 9, none⟩ = some (.slice (some ⟨lsb, 0, none⟩) x.LS.length cm)
  nd : ∀ (a : Nat) (d : Nd) (p : Nat × Nat), x.ND[a]? = some d → x.PQ[a]? = some p → V.cell? ⟨nb, a * 3, none⟩ = some (.pointer (some ⟨d.b, d.o, none⟩)) ∧ V.cell? ⟨nb, a * 3 + 1, none⟩ = some (.int .i64 p.1) ∧ V.cell? ⟨nb, a * 3 + 2, none⟩ = some (.int .i64 p.2)
  ls : ∀ (l : Nat) (X : Nat × Nat), x.LS[l]? = some X → V.cell? ⟨lsb, l * 2, none⟩ = some (.int .i64 X.1) ∧ V.cell? ⟨lsb, l * 2 + 1, none⟩ = some (.int .i64 X.2)
  c2 : V.cell? ⟨G, 2, none⟩ = some (.slice (some ⟨tk, 0, none⟩) x.C kc)
  c6 : V.cell? ⟨G, 6, none⟩ = some (.slice (some ⟨ta, 0, none⟩) x.D ac)
  th : ∀ i b n r j, x.row true i b n r → j < n → V.cell? ⟨ta, A.off x.AA i + j, none⟩ = some (.pointer (some ⟨b, x.O b + j * 9, none⟩))
  nc : x.ND.length ≤ nc ∧ x.LS.length ≤ cm

theorem Gx.At.kept {x : Gx} {V V' : World} {G nb nc lsb cm kc ac tk ta : Nat} {S : Nat → Prop} (h : x.At V G nb nc lsb cm kc ac tk ta) (k : Kept S V V') (hG : S G) (hn : S nb) (hl : S lsb) (ht : S ta) : x.At V' G nb nc lsb cm kc ac tk ta := by
  have f : ∀ (p : Addr) v, S p.block → V.cell? p = some v → V'.cell? p = some v := fun p v hs hv => (k.cell (block_lt_of_cell hv) hs).trans hv
  refine ⟨f _ _ hG h.n8, f _ _ hG h.n9, fun a d p h1 h2 => ?_, fun l X h1 => ?_, f _ _ hG h.c2, f _ _ hG h.c6, fun i b n r j h1 h2 => f _ _ ht (h.th i b n r j h1 h2), h.nc⟩
  · obtain ⟨g1, g2, g3⟩ := h.nd a d p h1 h2
    exact ⟨f _ _ hn g1, f _ _ hn g2, f _ _ hn g3⟩
  · obtain ⟨g1, g2⟩ := h.ls l X h1
    exact ⟨f _ _ hl g1, f _ _ hl g2⟩

theorem ncs_ptr : ∀ (ds : List Nd) (ps : List (Nat × Nat)) (i : Nat) (d : Nd) (p : Nat × Nat), ds[i]? = some d → ps[i]? = some p → (ncs ds ps)[i * 3]? = some (kp d.pos)
  | [], _, _, _, _, h, _ => by simp at h
  | _ :: _, [], _, _, _, _, h => by simp at h
  | e :: ds, q :: ps, 0, d, p, h1, h2 => by
    have e2 : e = d := by simpa using h1
    subst e2
    rfl
  | e :: ds, q :: ps, i + 1, d, p, h1, h2 => by
    have g1 := ncs_ptr ds ps i d p (by simpa using h1) (by simpa using h2)
    rw [show (i + 1) * 3 = i * 3 + 1 + 1 + 1 from by omega]
    simpa [ncs] using g1

section
variable {O : Nat → Nat} {W A7 w : World} {lo G wb M0 : Nat} {KK AA : List (Nat × Nat)} {KR AR : List Fo} {mk sk ma sa : Value} {tk ta tot : Nat} {LS : List (Nat × Nat)} {lv nv : Value} {PQ : List (Nat × Nat)}

theorem Gx.mk_at (np : NP O W w lo G M0 KK AA mk sk ma sa tk ta (ndK O KK KR ++ ndA O AA AR) (ndK O KK KR ++ ndA O AA AR).length LS lv nv PQ) (hne : 0 < (ndK O KK KR ++ ndA O AA AR).length) : ∃ nb nc lsb cm, (Gx.mk O KK AA KR AR LS PQ).At w G nb nc lsb cm (K.off KK KK.length) (A.off AA AA.length) tk ta ∧ nv.ownBlock = some nb ∧ lv.ownBlock = some lsb := by
  obtain ⟨nb, nc, e1, n1, n2⟩ := ownsRow_ex np.pn.ow hne
  obtain ⟨lsb, cm, e2, m1, m2⟩ := ownsRow_ex np.pn.z.ln.ow (List.getElem?_eq_some_iff.1 np.pn.l0).1
  have htk : (ndK O KK KR ++ ndA O AA AR).take (ndK O KK KR ++ ndA O AA AR).length = ndK O KK KR ++ ndA O AA AR := List.take_length
  rw [htk] at n2
  refine ⟨nb, nc, lsb, cm, ⟨?_, ?_, fun a d p h1 h2 => ?_, fun l X h1 => ?_, np.pn.z.c2, np.pn.z.c6, fun i b n r j h1 h2 => ?_, n1, m1⟩, ?_, ?_⟩
  · have := np.pn.c8
    rw [e1] at this
    exact this
  · have := np.pn.z.ln.c9
    rw [e2] at this
    exact this
  · obtain ⟨g1, g2⟩ := ncs_at _ _ a d p h1 h2
    exact ⟨n2 _ _ (ncs_ptr _ _ a d p h1 h2), n2 _ _ g1, n2 _ _ g2⟩
  · obtain ⟨g1, g2⟩ := lvs_at LS l X h1
    exact ⟨m2 _ _ g1, m2 _ _ g2⟩
  · rcases np.pn.z.tA.full i (b, n) j h1.1 h2 with e | e
    · cases e
    · exact e
  · rw [e1]; rfl
  · rw [e2]; rfl
end

end Go.Proofs.Ytfgmgbkiebeeoaa

namespace Go.Proofs.Ytfgmgbkiebeeoaa
open Go.RowKit Go.Joins

/-- A pair of lists that waits. -/
structure Pe where
  x : Nat
  y : Nat
  al : Bool
  i : Nat
  b : Nat
  i' : Nat
  b' : Nat
  n : Nat
  r : Fo
  r' : Fo

structure Pe.Ok (X : Gx) (W : World) (S : Nat → Prop) (BR : List Nat) (p : Pe) : Prop where
  e : X.row p.al p.i p.b p.n p.r
  f : X.row p.al p.i' p.b' p.n p.r'
  lx : X.LS[p.x]? = some (X.first p.al p.i, p.n)
  ly : X.LS[p.y]? = some (X.first p.al p.i', p.n)
  me : RM W S p.b (X.O p.b) p.r
  mf : RM W S p.b' (X.O p.b') p.r'
  br : p.b' ∈ BR ∧ ∀ c ∈ p.r'.inn, c ∈ BR

def Pe.tb (p : Pe) : List Nat := p.b :: p.r.inn
def qtb (Q : List Pe) : List Nat := Q.flatMap Pe.tb
def qib (Q : List Pe) : List Nat := Q.flatMap (fun p => p.r.inn)
def qsum (Q : List Pe) : Nat := (Q.map (fun p => tcB p.al p.r)).sum
def qsim (Q : List Pe) : Prop := ∀ p ∈ Q, p.r'.sim p.r

theorem qib_tb {Q : List Pe} {c : Nat} (h : c ∈ qib Q) : c ∈ qtb Q := by
  obtain ⟨p, h1, h2⟩ := List.mem_flatMap.1 h
  exact List.mem_flatMap.2 ⟨p, h1, List.mem_cons_of_mem _ h2⟩

/-- What is known of the lists that wait and of the sets so far. -/
structure PI (X : Gx) (W : World) (S : Nat → Prop) (BR : List Nat) (Q : List Pe) (cb cc : List Nat) (tn un : Nat → Prop) : Prop where
  ok : ∀ p ∈ Q, p.Ok X W S BR
  nd : (qtb Q ++ (cb ++ cc)).Nodup
  dj : ∀ c ∈ qtb Q ++ (cb ++ cc), c ∉ BR
  ft : ∀ (a : Nat) (d : Nd), X.ND[a]? = some d → (d.b ∈ qtb Q ∨ d.b ∈ cb ∨ d.b ∈ BR) → tn a
  fl : ∀ (l : Nat) (al : Bool) (i b n : Nat) (r : Fo), X.row al i b n r → X.LS[l]? = some (X.first al i, n) → (b ∈ qib Q ∨ b ∈ cb ∨ b ∈ BR) → un l
  u0 : un 0

/-- A pair of lists at hand, from j on. -/
structure Cu (X : Gx) (W : World) (S : Nat → Prop) (BR : List Nat) (p : Pe) (j m : Nat) (q q' : Fo) (tn : Nat → Prop) : Prop where
  e : X.row p.al p.i p.b p.n p.r
  f : X.row p.al p.i' p.b' p.n p.r'
  jm : j + m = p.n
  fq : Fit E q (rep (fdl p.al) m)
  fq' : Fit E q' (rep (fdl p.al) m)
  te : ∀ (t : Nat) (d : Nd), (itB p.al p.b (X.O p.b + j * sz p.al) q)[t]? = some d → X.ND[X.first p.al p.i + j + t]? = some d
  tf : ∀ (t : Nat) (d : Nd), (itB p.al p.b' (X.O p.b' + j * sz p.al) q')[t]? = some d → X.ND[X.first p.al p.i' + j + t]? = some d
  me : RM W S p.b (X.O p.b + j * sz p.al) q
  mf : RM W S p.b' (X.O p.b' + j * sz p.al) q'
  br : p.b' ∈ BR ∧ ∀ c ∈ q'.inn, c ∈ BR
  nb : p.b ∉ BR
  fr : ∀ t, j ≤ t → t < p.n → tn (X.first p.al p.i + t)

section
variable {X : Gx} {W : World} {S : Nat → Prop} {BR : List Nat} {Q : List Pe} {cb cc : List Nat} {tn un : Nat → Prop}

theorem PI.less {cb' cc' : List Nat} (h : PI X W S BR Q cb cc tn un) (h1 : List.Sublist cb' cb) (h2 : List.Sublist cc' cc) : PI X W S BR Q cb' cc' tn un := by
  have hs : List.Sublist (qtb Q ++ (cb' ++ cc')) (qtb Q ++ (cb ++ cc)) := List.Sublist.append_left (h1.append h2) _
  exact ⟨h.ok, h.nd.sublist hs, fun c hc => h.dj c (hs.subset hc), fun a d hd hb => h.ft a d hd (hb.imp id (Or.imp (fun e => h1.subset e) id)), fun l al i b n r hr hl hb => h.fl l al i b n r hr hl (hb.imp id (Or.imp (fun e => h1.subset e) id)), h.u0⟩

/-- The last pair is taken. -/
theorem PI.pop {p : Pe} (ok : X.Ok) (h : PI X W S BR (Q ++ [p]) [] [] tn un) : PI X W S BR Q p.r.inn [p.b] tn un ∧ Cu X W S BR p 0 p.n p.r p.r' tn := by
  have hp := h.ok p (by simp)
  have e1 : qtb (Q ++ [p]) = qtb Q ++ (p.b :: p.r.inn) := by simp [qtb, Pe.tb]
  have e2 : qib (Q ++ [p]) = qib Q ++ p.r.inn := by simp [qib]
  have hper : List.Perm (qtb Q ++ (p.r.inn ++ [p.b])) (qtb (Q ++ [p]) ++ ([] ++ [])) := by
    rw [e1, List.append_nil, List.append_nil]
    exact List.Perm.append_left _ (List.perm_append_comm (l₁ := p.r.inn) (l₂ := [p.b]))
  have hbn : p.b ∉ BR := h.dj p.b (hper.subset (by simp))
  refine ⟨⟨fun x hx => h.ok x (List.mem_append.2 (.inl hx)), hper.nodup_iff.2 h.nd, fun c hc => h.dj c (hper.subset hc), fun a d hd hb => h.ft a d hd ?_, fun l al i b n r hr hl hb => h.fl l al i b n r hr hl ?_, h.u0⟩, ?_⟩
  · rw [e1]
    rcases hb with e | e | e
    · exact .inl (List.mem_append.2 (.inl e))
    · exact .inl (List.mem_append.2 (.inr (List.mem_cons_of_mem _ e)))
    · exact .inr (.inr e)
  · rw [e2]
    rcases hb with e | e | e
    · exact .inl (List.mem_append.2 (.inl e))
    · exact .inl (List.mem_append.2 (.inr e))
    · exact .inr (.inr e)
  · obtain ⟨n1, f1⟩ := ok.pos _ _ _ _ _ hp.e
    obtain ⟨n2, f2⟩ := ok.pos _ _ _ _ _ hp.f
    refine ⟨hp.e, hp.f, by omega, f1, f2, fun t d hd => ?_, fun t d hd => ?_, by simpa using hp.me, by simpa using hp.mf, hp.br, hbn, fun t h1 h2 => ?_⟩
    · rw [Nat.zero_mul, Nat.add_zero] at hd
      exact ok.term _ _ _ _ _ t d hp.e hd
    · rw [Nat.zero_mul, Nat.add_zero] at hd
      exact ok.term _ _ _ _ _ t d hp.f hd
    · have key : ∀ (al : Bool) (b o n : Nat) (r : Fo), Fit E r (rep (fdl al) n) → ∀ t, t < n → ∃ d : Nd, (itB al b o r)[t]? = some d ∧ d.b = b := by
        intro al b o n
        induction n generalizing o with
        | zero => intro r _ t ht; omega
        | succ n ih =>
          intro r hr t ht
          obtain ⟨y, q1, rfl, hy, hq, -⟩ := row_split hr
          rw [it_step hy]
          cases t with
          | zero => exact ⟨_, rfl, rfl⟩
          | succ t =>
            obtain ⟨d, g1, g2⟩ := ih (o + sz al) q1 hq t (by omega)
            exact ⟨d, by simpa using g1, g2⟩
      obtain ⟨d, g1, g2⟩ := key p.al p.b (X.O p.b) p.n p.r f1 t h2
      refine h.ft _ d (ok.term _ _ _ _ _ t d hp.e g1) (.inl ?_)
      rw [g2, e1]
      simp

/-- The terms at hand are put together. -/
theorem PI.visit {b a : Nat} {d : Nd} (h : PI X W S BR Q cb [b] tn un) (ha : X.ND[a]? = some d) (hb : d.b = b) : PI X W S BR Q cb [b] (fun c => tn c ∧ c ≠ a) un := by
  refine ⟨h.ok, h.nd, h.dj, fun a' d' hd hx => ⟨h.ft a' d' hd hx, fun e => ?_⟩, h.fl, h.u0⟩
  subst e
  have e2 : d = d' := by rw [ha] at hd; exact Option.some.inj hd
  rw [← e2, hb] at hx
  obtain ⟨h1, h2, h3⟩ := List.nodup_append.1 h.nd
  obtain ⟨h4, h5, h6⟩ := List.nodup_append.1 h2
  rcases hx with e | e | e
  · exact h3 b e b (by simp) rfl
  · exact h6 b e b (by simp) rfl
  · exact h.dj b (by simp) e

/-- Two lists more wait. -/
theorem PI.push {p : Pe} (ok : X.Ok) (h : PI X W S BR Q ((p.b :: p.r.inn) ++ cb) cc tn un) (hp : p.Ok X W S BR) : un p.x ∧ un p.y ∧ p.x ≠ p.y ∧ PI X W S BR (Q ++ [p]) cb cc tn (fun c => un c ∧ c ≠ p.x) := by
  have e1 : qtb (Q ++ [p]) = qtb Q ++ (p.b :: p.r.inn) := by simp [qtb, Pe.tb]
  have e2 : qib (Q ++ [p]) = qib Q ++ p.r.inn := by simp [qib]
  have e3 : qtb (Q ++ [p]) ++ (cb ++ cc) = qtb Q ++ (((p.b :: p.r.inn) ++ cb) ++ cc) := by rw [e1]; simp
  have hbn : p.b ∉ BR := h.dj p.b (by simp)
  have hx : un p.x := h.fl _ _ _ _ _ _ hp.e hp.lx (.inr (.inl (by simp)))
  have hy : un p.y := h.fl _ _ _ _ _ _ hp.f hp.ly (.inr (.inr hp.br.1))
  have hxy : p.x ≠ p.y := fun e => by
    have := hp.lx
    rw [e, hp.ly] at this
    have e4 := congrArg Prod.fst (Option.some.inj this)
    exact hbn (by rw [ok.own _ _ _ _ _ _ _ _ _ _ hp.e hp.f e4.symm]; exact hp.br.1)
  refine ⟨hx, hy, hxy, ⟨fun x hx => ?_, by rw [e3]; exact h.nd, fun c hc => h.dj c (by rw [← e3]; exact hc), fun a d hd hb => h.ft a d hd ?_, fun l al i b n r hr hl hb => ⟨h.fl l al i b n r hr hl ?_, fun e => ?_⟩, h.u0, fun e => ?_⟩⟩
  · rcases List.mem_append.1 hx with e | e
    · exact h.ok x e
    · rw [List.mem_singleton.1 e]; exact hp
  · rw [e1] at hb
    rcases hb with e | e | e
    · rcases List.mem_append.1 e with e | e
      · exact .inl e
      · exact .inr (.inl (List.mem_append.2 (.inl e)))
    · exact .inr (.inl (List.mem_append.2 (.inr e)))
    · exact .inr (.inr e)
  · rw [e2] at hb
    rcases hb with e | e | e
    · rcases List.mem_append.1 e with e | e
      · exact .inl e
      · exact .inr (.inl (List.mem_append.2 (.inl (List.mem_cons_of_mem _ e))))
    · exact .inr (.inl (List.mem_append.2 (.inr e)))
    · exact .inr (.inr e)
  · have e5 := hp.lx
    rw [← e, hl] at e5
    have e6 := ok.own _ _ _ _ _ _ _ _ _ _ hr hp.e (congrArg Prod.fst (Option.some.inj e5))
    rw [e6, e2] at hb
    have hn := h.nd
    obtain ⟨h1, h2, h3⟩ := List.nodup_append.1 hn
    obtain ⟨h4, -, -⟩ := List.nodup_append.1 h2
    rw [List.cons_append] at h4
    have h5 := (List.nodup_cons.1 h4).1
    rcases hb with e | e | e
    · rcases List.mem_append.1 e with e | e
      · exact h3 p.b (qib_tb e) p.b (by simp) rfl
      · exact h5 (List.mem_append.2 (.inl e))
    · exact h5 (List.mem_append.2 (.inr e))
    · exact hbn e
  · have e5 := hp.lx
    rw [← e, ok.l0] at e5
    have e6 : 0 = p.n := congrArg Prod.snd (Option.some.inj e5)
    have := (ok.pos _ _ _ _ _ hp.e).1
    omega

/-- The elements at hand. -/
theorem Cu.step {p : Pe} {j m : Nat} {q q' : Fo} (h : Cu X W S BR p j (m + 1) q q' tn) : ∃ y q1 y' q1', q = y.app q1 ∧ q' = y'.app q1' ∧ Fit E y (fdl p.al) ∧ Fit E y' (fdl p.al) ∧ X.ND[X.first p.al p.i + j]? = some ⟨p.b, X.O p.b + j * sz p.al + hr p.al, bdy p.al y⟩ ∧ X.ND[X.first p.al p.i' + j]? = some ⟨p.b', X.O p.b' + j * sz p.al + hr p.al, bdy p.al y'⟩ ∧ RM W S p.b (X.O p.b + j * sz p.al) y ∧ RM W S p.b' (X.O p.b' + j * sz p.al) y' ∧ (∀ c ∈ y'.inn, c ∈ BR) ∧ tn (X.first p.al p.i + j) ∧ Cu X W S BR p (j + 1) m q1 q1' (fun c => tn c ∧ c ≠ X.first p.al p.i + j) := by
  obtain ⟨y, q1, rfl, hy, hq, hl⟩ := row_split h.fq
  obtain ⟨y', q1', rfl, hy', hq', hl'⟩ := row_split h.fq'
  obtain ⟨r1, r2⟩ := h.me.step hl
  obtain ⟨s1, s2⟩ := h.mf.step hl'
  have hjm := h.jm
  have te := h.te
  have tf := h.tf
  rw [it_step hy] at te
  rw [it_step hy'] at tf
  have hi := h.br.2
  rw [Fo.inn_app] at hi
  have eo : ∀ o : Nat, o + j * sz p.al + sz p.al = o + (j + 1) * sz p.al := fun o => by rw [Nat.add_mul]; omega
  refine ⟨y, q1, y', q1', rfl, rfl, hy, hy', te 0 _ rfl, tf 0 _ rfl, r1, s1, fun c hc => hi c (List.mem_append.2 (.inl hc)), h.fr j (Nat.le_refl _) (by omega), h.e, h.f, by omega, hq, hq', fun t d hd => ?_, fun t d hd => ?_, ?_, ?_, ⟨h.br.1, fun c hc => hi c (List.mem_append.2 (.inr hc))⟩, h.nb, fun t h1 h2 => ⟨h.fr t (by omega) h2, by omega⟩⟩
  · have := te (t + 1) d (by rw [eo]; simpa using hd)
    rwa [show X.first p.al p.i + (j + 1) + t = X.first p.al p.i + j + (t + 1) from by omega]
  · have := tf (t + 1) d (by rw [eo]; simpa using hd)
    rwa [show X.first p.al p.i' + (j + 1) + t = X.first p.al p.i' + j + (t + 1) from by omega]
  · rw [← eo]; exact r2
  · rw [← eo]; exact s2

/-- The lists below two terms: none, or two that are to wait. -/
theorem PI.lists (ok : X.Ok) {al : Bool} {a a' : Option Addr} {n : Nat} {k k' : Fo} {l l' : Nat} (h : PI X W S BR Q (ib a k ++ cb) cc tn un) (hl : X.Li al a n k l) (hl' : X.Li al a' n k' l') (hm : 0 < n → ∃ c o, a = some ⟨c, o, none⟩ ∧ RM W S c o k ∧ ib a k = c :: k.inn) (hm' : 0 < n → ∃ c o, a' = some ⟨c, o, none⟩ ∧ RM W S c o k' ∧ ib a' k' = c :: k'.inn) (hb : ∀ c ∈ ib a' k', c ∈ BR) :
    (n = 0 ∧ l = 0 ∧ l' = 0) ∨ (∃ p : Pe, p.x = l ∧ p.y = l' ∧ p.al = al ∧ p.r = k ∧ p.r' = k' ∧ un l ∧ un l' ∧ l ≠ l' ∧ PI X W S BR (Q ++ [p]) cb cc tn (fun c => un c ∧ c ≠ l)) := by
  rcases hl with ⟨h0, h1⟩ | ⟨i, b, hn, ha, hr, hs⟩
  · rcases hl' with ⟨-, h2⟩ | ⟨i', b', hn', -⟩
    · exact .inl ⟨h0, h1, h2⟩
    · omega
  · rcases hl' with ⟨h0, -⟩ | ⟨i', b', hn', ha', hr', hs'⟩
    · omega
    · obtain ⟨c, o, e1, m1, e2⟩ := hm hn
      obtain ⟨c', o', e1', m1', e2'⟩ := hm' hn
      rw [ha] at e1
      rw [ha'] at e1'
      cases e1
      cases e1'
      refine .inr ⟨⟨l, l', al, i, b, i', b', n, k, k'⟩, rfl, rfl, rfl, rfl, rfl, ?_⟩
      rw [e2] at h
      rw [e2'] at hb
      obtain ⟨g1, g2, g3, g4⟩ := PI.push (p := ⟨l, l', al, i, b, i', b', n, k, k'⟩) ok h ⟨hr, hr', hs, hs', m1, m1', hb _ (by simp), fun c hc => hb c (List.mem_cons_of_mem _ hc)⟩
      exact ⟨g1, g2, g3, g4⟩
end

end Go.Proofs.Ytfgmgbkiebeeoaa

namespace Go.Proofs.Ytfgmgbkiebeeoaa
open Go.RowKit Go.Joins

set_option maxHeartbeats 2000000 in
set_option maxRecDepth 100000 in
/-- A member that stands for itself is found. -/
theorem find_new {w : World} {b o : Nat} (hp : w.cell? ⟨b, o, none⟩ = some (.pointer none)) : Calls Try.prog 49 #[.pointer (some ⟨b, o, none⟩)] w fun e w' => e = .returned (.pointer (some ⟨b, o, none⟩)) ∧ w' = w := by
  go_enter Try.func49, Try.ntmps49
  go_upto_region 1 with fail
  go_loopw [0] (fun s0 wr => s0 = .pointer (some ⟨b, o, none⟩) ∧ wr = w) (fun _ _ => 0)
  case atStart => exact ⟨rfl, rfl⟩
  case round =>
    obtain ⟨rfl, rfl⟩ := hrel
    go_wp2_with fail
    go_ret
    exact ⟨rfl, rfl⟩

set_option maxHeartbeats 2000000 in
set_option maxRecDepth 100000 in
/-- Two members that stand for themselves become one set. -/
theorem join_new {w : World} {b i j : Nat} (hi : w.cell? ⟨b, i, none⟩ = some (.pointer none)) (hj : w.cell? ⟨b, j, none⟩ = some (.pointer none)) (hf : w.frozen? ⟨b, i, none⟩ = false) : Calls Try.prog 50 #[.pointer (some ⟨b, i, none⟩), .pointer (some ⟨b, j, none⟩)] w fun e w' => (∃ v, e = .returned v) ∧ w' = w.setCell ⟨b, i, none⟩ (.pointer (some ⟨b, j, none⟩)) := by
  have H1 := hide (find_new hi)
  have H2 := hide (find_new hj)
  go_enter Try.func50, Try.ntmps50
  go_wp2_with (first
    | (go_at_call_of 49 (Value.pointer (some ⟨b, i, none⟩)); refine H1.out.mono ?_; rintro e w1 ⟨rfl, rfl⟩)
    | (go_at_call_of 49 (Value.pointer (some ⟨b, j, none⟩)); refine H2.out.mono ?_; rintro e w1 ⟨rfl, rfl⟩))
  go_end0
  exact ⟨⟨_, rfl⟩, rfl⟩

theorem info85 : (Try.prog.info? 85).map (fun i => i.size) = some 1 := by kernel_rfl

theorem ptr_other {w : World} {b i j : Nat} {cs : Array Value} (hb : w.heap[b]? = some (.cells cs 85)) (hne : i ≠ j) : (binOp .eql 83 (.pointer (some ⟨b, i, none⟩)) (.pointer (some ⟨b, j, none⟩))).run Try.prog w = .ok (.bool false) w := by
  obtain ⟨k, hk, hz⟩ := Option.map_eq_some_iff.1 info85
  exact run_eql_ptr_other w Try.underlying83 hk (by have e : k.size = 1 := hz; rw [e]; decide) (fun e => hne (congrArg Addr.off e)) hb hb

theorem ptr_same {w : World} {b i : Nat} : (binOp .eql 83 (.pointer (some ⟨b, i, none⟩)) (.pointer (some ⟨b, i, none⟩))).run Try.prog w = .ok (.bool true) w := by
  obtain ⟨k, hk, -⟩ := Option.map_eq_some_iff.1 info85
  exact run_eql_ptr_same w _ Try.underlying83 hk

set_option maxHeartbeats 2000000 in
set_option maxRecDepth 100000 in
/-- joinTwo of two members that stand for themselves. -/
theorem two_new {w : World} {b i j : Nat} {cs : Array Value} (hb : w.heap[b]? = some (.cells cs 85)) (hi : w.cell? ⟨b, i, none⟩ = some (.pointer none)) (hj : w.cell? ⟨b, j, none⟩ = some (.pointer none)) (hf : w.frozen? ⟨b, i, none⟩ = false) (hne : i ≠ j) : Calls Try.prog 29 #[.pointer (some ⟨b, i, none⟩), .pointer (some ⟨b, j, none⟩)] w fun e w' => e = .returned (.bool true) ∧ w' = w.setCell ⟨b, i, none⟩ (.pointer (some ⟨b, j, none⟩)) := by
  have H1 := hide (find_new hi)
  have H2 := hide (find_new hj)
  have H3 := hide (join_new hi hj hf)
  have hpp := ptr_other hb hne
  go_enter Try.func29, Try.ntmps29
  go_wp2_with (first
    | (go_at_call_of 49 (Value.pointer (some ⟨b, i, none⟩)); refine H1.out.mono ?_; rintro e w1 ⟨rfl, rfl⟩)
    | (go_at_call_of 49 (Value.pointer (some ⟨b, j, none⟩)); refine H2.out.mono ?_; rintro e w1 ⟨rfl, rfl⟩)
    | (go_at_call 50; refine H3.out.mono ?_; rintro e w1 ⟨⟨v1, rfl⟩, rfl⟩))
  go_ret
  exact ⟨rfl, rfl⟩

set_option maxHeartbeats 2000000 in
set_option maxRecDepth 100000 in
/-- joinTwo of a member that stands for itself with itself. -/
theorem two_same {w : World} {b i : Nat} (hi : w.cell? ⟨b, i, none⟩ = some (.pointer none)) : Calls Try.prog 29 #[.pointer (some ⟨b, i, none⟩), .pointer (some ⟨b, i, none⟩)] w fun e w' => e = .returned (.bool false) ∧ w' = w := by
  have H1 := hide (find_new hi)
  have hpp := ptr_same (w := w) (b := b) (i := i)
  go_enter Try.func29, Try.ntmps29
  go_wp2_with (go_at_call 49; refine H1.out.mono ?_; rintro e w1 ⟨rfl, rfl⟩)
  go_ret
  exact ⟨rfl, rfl⟩

end Go.Proofs.Ytfgmgbkiebeeoaa

namespace Go.Proofs.Ytfgmgbkiebeeoaa
open Go.RowKit Go.Joins

def qcs (Q : List Pe) : List Value := Q.flatMap (fun p => [.int .i64 (p.x : Int), .int .i64 (p.y : Int)])
theorem qcs_app (Q : List Pe) (p : Pe) : qcs (Q ++ [p]) = qcs Q ++ [.int .i64 (p.x : Int), .int .i64 (p.y : Int)] := by simp [qcs]
theorem qcs_len : ∀ Q : List Pe, (qcs Q).length = Q.length * 2
  | [] => rfl
  | p :: Q => by
    have := qcs_len Q
    simp only [qcs, List.flatMap_cons, List.length_append, List.length_cons, List.length_nil] at this ⊢
    omega

/-- Where all lies while terms are compared. -/
structure SC (X : Gx) (W0 : World) (n0 lo G nb nc lsb cm kc ac tk ta Tb Ub : Nat) : Prop where
  ok : X.Ok
  at_ : X.At W0 G nb nc lsb cm kc ac tk ta
  ne : Tb ≠ Ub ∧ G ≠ Tb ∧ G ≠ Ub ∧ nb ≠ Tb ∧ nb ≠ Ub ∧ lsb ≠ Tb ∧ lsb ≠ Ub ∧ ta ≠ Tb ∧ ta ≠ Ub
  lt : Tb < lo ∧ Ub < lo ∧ G < lo ∧ nb < lo ∧ lsb < lo ∧ ta < lo
  n0 : n0 ≤ Tb ∧ n0 ≤ Ub
  hlo : lo ≤ W0.heap.size

/-- The sets and the lists that wait, in memory. -/
structure SV (X : Gx) (W0 : World) (lo Tb Ub : Nat) (V : World) (tn un : Nat → Prop) (Q : List Pe) (qv : Value) : Prop where
  kp : Kept (fun c => c < lo ∧ c ≠ Tb ∧ c ≠ Ub) W0 V
  tr : ∀ a, a < X.ND.length → tn a → V.cell? ⟨Tb, a, none⟩ = some (.pointer none)
  tc : ∃ cs, V.heap[Tb]? = some (.cells cs 85)
  ur : ∀ l, l < X.LS.length → un l → V.cell? ⟨Ub, l, none⟩ = some (.pointer none)
  uc : ∃ cs, V.heap[Ub]? = some (.cells cs 85)
  ow : V.ownsRow lo 77 2 qv Q.length (qcs Q)
  hv : lo ≤ V.heap.size

theorem cells_live {V : World} {b i : Nat} {cs : Array Value} {t : TypeId} (h : V.heap[b]? = some (.cells cs t)) : V.frozen? ⟨b, i, none⟩ = false := by simp [World.frozen?, h]

theorem cells_set {V : World} {b i : Nat} {cs : Array Value} {t : TypeId} (h : V.heap[b]? = some (.cells cs t)) (v : Value) : ∃ cs', (V.setCell ⟨b, i, none⟩ v).heap[b]? = some (.cells cs' t) := by
  refine ⟨cs.setIfInBounds i v, ?_⟩
  simp only [World.setCell, Array.getElem?_modify, if_true, h]
  simp

section
variable {X : Gx} {W0 : World} {n0 lo G nb nc lsb cm kc ac tk ta Tb Ub : Nat} {V V' : World} {tn un : Nat → Prop} {Q : List Pe} {qv : Value}

theorem SV.keep (c : SC X W0 n0 lo G nb nc lsb cm kc ac tk ta Tb Ub) (h : SV X W0 lo Tb Ub V tn un Q qv) (k : Kept (fun _ => True) V V') : SV X W0 lo Tb Ub V' tn un Q qv := by
  have hv := h.hv
  have l1 := c.lt
  refine ⟨h.kp.trans (k.mono (fun _ _ _ => trivial)), fun a h1 h2 => (k.cell (p := ⟨Tb, a, none⟩) (by show Tb < _; omega) trivial).trans (h.tr a h1 h2), ?_, fun a h1 h2 => (k.cell (p := ⟨Ub, a, none⟩) (by show Ub < _; omega) trivial).trans (h.ur a h1 h2), ?_, ownsRow_kept h.ow k (fun _ _ => trivial), by have := k.size; omega⟩
  · obtain ⟨cs, hc⟩ := h.tc
    exact ⟨cs, (k.block Tb (by omega) trivial).trans hc⟩
  · obtain ⟨cs, hc⟩ := h.uc
    exact ⟨cs, (k.block Ub (by omega) trivial).trans hc⟩

theorem SV.at (c : SC X W0 n0 lo G nb nc lsb cm kc ac tk ta Tb Ub) (h : SV X W0 lo Tb Ub V tn un Q qv) : X.At V G nb nc lsb cm kc ac tk ta := by
  obtain ⟨n1, n2, n3, n4, n5, n6, n7, n8, n9⟩ := c.ne
  obtain ⟨l1, l2, l3, l4, l5, l6⟩ := c.lt
  exact c.at_.kept h.kp ⟨l3, n2, n3⟩ ⟨l4, n4, n5⟩ ⟨l5, n6, n7⟩ ⟨l6, n8, n9⟩

theorem SV.rm (c : SC X W0 n0 lo G nb nc lsb cm kc ac tk ta Tb Ub) (h : SV X W0 lo Tb Ub V tn un Q qv) {b o : Nat} {q : Fo} (m : RM W0 (fun c => c < n0) b o q) : RM V (fun c => c < n0) b o q := by
  have l1 := c.lt
  have l2 := c.n0
  have l3 := c.hlo
  have hS : ∀ d, d < n0 → (d < lo ∧ d ≠ Tb ∧ d ≠ Ub) ∧ d < W0.heap.size := fun d hd => ⟨⟨by omega, by omega, by omega⟩, by omega⟩
  exact ⟨m.cel.kept h.kp (hS _ m.at_).2 (hS _ m.at_).1, m.sub.kept h.kp hS, m.at_⟩

/-- Two terms become one set. -/
theorem SV.joinT (c : SC X W0 n0 lo G nb nc lsb cm kc ac tk ta Tb Ub) (h : SV X W0 lo Tb Ub V tn un Q qv) {a a' : Nat} (ha : a < X.ND.length) (ha' : a' < X.ND.length) (h1 : tn a) (h2 : tn a') (hne : a ≠ a') :
    Calls Try.prog 29 #[.pointer (some ⟨Tb, a, none⟩), .pointer (some ⟨Tb, a', none⟩)] V fun e V' => e = .returned (.bool true) ∧ SV X W0 lo Tb Ub V' (fun c => tn c ∧ c ≠ a) un Q qv ∧ Kept (fun d => d ≠ Tb) V V' := by
  obtain ⟨cs, hc⟩ := h.tc
  have l1 := c.lt
  have hn := c.ne.1
  refine (two_new hc (h.tr a ha h1) (h.tr a' ha' h2) (cells_live hc) hne).mono ?_
  rintro e V' ⟨rfl, rfl⟩
  have k : Kept (fun d => d ≠ Tb) V (V.setCell ⟨Tb, a, none⟩ (.pointer (some ⟨Tb, a', none⟩))) := Kept.setCell _ _ _ _ (by simp)
  have hv := h.hv
  refine ⟨rfl, ⟨h.kp.trans (k.mono (fun d _ hd => hd.2.1)), fun b hb hx => ?_, cells_set hc _, fun b hb hx => ?_, ?_, ownsRow_kept h.ow k (fun b e => by have := ownsRow_blk h.ow b e; omega), by simpa [World.setCell] using hv⟩, k⟩
  · rw [World.cell?_setCell_other _ _ _ _ (fun e => hx.2 (by cases e; rfl))]
    exact h.tr b hb hx.1
  · rw [k.cell (p := ⟨Ub, b, none⟩) (by show Ub < _; omega) (fun e => hn e.symm)]
    exact h.ur b hb hx
  · obtain ⟨ds, hd⟩ := h.uc
    exact ⟨ds, (k.block Ub (by omega) (fun e => hn e.symm)).trans hd⟩

/-- Two lists become one set. -/
theorem SV.joinU (c : SC X W0 n0 lo G nb nc lsb cm kc ac tk ta Tb Ub) (h : SV X W0 lo Tb Ub V tn un Q qv) {a a' : Nat} (ha : a < X.LS.length) (ha' : a' < X.LS.length) (h1 : un a) (h2 : un a') (hne : a ≠ a') :
    Calls Try.prog 29 #[.pointer (some ⟨Ub, a, none⟩), .pointer (some ⟨Ub, a', none⟩)] V fun e V' => e = .returned (.bool true) ∧ SV X W0 lo Tb Ub V' tn (fun c => un c ∧ c ≠ a) Q qv ∧ Kept (fun d => d ≠ Ub) V V' := by
  obtain ⟨cs, hc⟩ := h.uc
  have l1 := c.lt
  have hn := c.ne.1
  refine (two_new hc (h.ur a ha h1) (h.ur a' ha' h2) (cells_live hc) hne).mono ?_
  rintro e V' ⟨rfl, rfl⟩
  have k : Kept (fun d => d ≠ Ub) V (V.setCell ⟨Ub, a, none⟩ (.pointer (some ⟨Ub, a', none⟩))) := Kept.setCell _ _ _ _ (by simp)
  have hv := h.hv
  refine ⟨rfl, ⟨h.kp.trans (k.mono (fun d _ hd => hd.2.2)), fun b hb hx => ?_, ?_, fun b hb hx => ?_, cells_set hc _, ownsRow_kept h.ow k (fun b e => by have := ownsRow_blk h.ow b e; omega), by simpa [World.setCell] using hv⟩, k⟩
  · rw [k.cell (p := ⟨Tb, b, none⟩) (by show Tb < _; omega) hn]
    exact h.tr b hb hx
  · obtain ⟨ds, hd⟩ := h.tc
    exact ⟨ds, (k.block Tb (by omega) hn).trans hd⟩
  · rw [World.cell?_setCell_other _ _ _ _ (fun e => hx.2 (by cases e; rfl))]
    exact h.ur b hb hx.1

/-- The empty list with itself. -/
theorem SV.same0 (ok : X.Ok) (h : SV X W0 lo Tb Ub V tn un Q qv) (h0 : un 0) :
    Calls Try.prog 29 #[.pointer (some ⟨Ub, 0, none⟩), .pointer (some ⟨Ub, 0, none⟩)] V fun e V' => e = .returned (.bool false) ∧ V' = V :=
  two_same (h.ur 0 (List.getElem?_eq_some_iff.1 ok.l0).1 h0)

/-- The last pair is taken. -/
theorem SV.pop {p : Pe} (h : SV X W0 lo Tb Ub V tn un (Q ++ [p]) qv) : ∃ b c, qv = .slice (some ⟨b, 0, none⟩) (Q.length + 1) c ∧ Q.length + 1 ≤ c ∧ V.cell? ⟨b, Q.length * 2, none⟩ = some (.int .i64 (p.x : Int)) ∧ V.cell? ⟨b, Q.length * 2 + 1, none⟩ = some (.int .i64 (p.y : Int)) ∧ SV X W0 lo Tb Ub V tn un Q (.slice (some ⟨b, 0, none⟩) Q.length c) := by
  have ow := h.ow
  rw [List.length_append, List.length_singleton, qcs_app] at ow
  obtain ⟨b, c, e, hc, hcl⟩ := ownsRow_ex ow (by omega)
  have hl := qcs_len Q
  refine ⟨b, c, e, hc, hcl _ _ ?_, hcl _ _ ?_, h.kp, h.tr, h.tc, h.ur, h.uc, ?_, h.hv⟩
  · rw [List.getElem?_append_right (by omega), hl, Nat.sub_self]; rfl
  · rw [List.getElem?_append_right (by omega), hl, show Q.length * 2 + 1 - Q.length * 2 = 1 from by omega]; rfl
  · rw [e] at ow
    exact ownsRow_cut ow hl

/-- A pair more waits. -/
theorem SV.push {p : Pe} {g cap : Nat} (c : SC X W0 n0 lo G nb nc lsb cm kc ac tk ta Tb Ub) (h : SV X W0 lo Tb Ub V tn un Q qv) (o1 : V'.ownsRow lo 77 2 (.slice (some ⟨g, 0, none⟩) (Q.length + 1) cap) (Q.length + 1) (qcs Q ++ [.int .i64 (p.x : Int), .int .i64 (p.y : Int)])) (o2 : V.grownBy V' qv.ownBlock) :
    SV X W0 lo Tb Ub V' tn un (Q ++ [p]) (.slice (some ⟨g, 0, none⟩) (Q ++ [p]).length cap) := by
  have k : Kept (fun d => d < lo) V V' := Kept.grown o2 (fun d e hd => by have := ownsRow_blk h.ow d e; omega)
  have l1 := c.lt
  have hv := h.hv
  refine ⟨h.kp.trans (k.mono (fun d _ hd => hd.1)), fun a h1 h2 => (k.cell (p := ⟨Tb, a, none⟩) (by show Tb < _; omega) l1.1).trans (h.tr a h1 h2), ?_, fun a h1 h2 => (k.cell (p := ⟨Ub, a, none⟩) (by show Ub < _; omega) l1.2.1).trans (h.ur a h1 h2), ?_, ?_, by have := k.size; omega⟩
  · obtain ⟨cs, hc⟩ := h.tc
    exact ⟨cs, (k.block Tb (by omega) l1.1).trans hc⟩
  · obtain ⟨cs, hc⟩ := h.uc
    exact ⟨cs, (k.block Ub (by omega) l1.2.1).trans hc⟩
  · rw [qcs_app, List.length_append, List.length_singleton]
    exact o1
end

end Go.Proofs.Ytfgmgbkiebeeoaa

namespace Go.Proofs.Ytfgmgbkiebeeoaa
open Go.RowKit Go.Joins

/-- What the walk over two lists knows: D is asked, R is left of the lists at hand, c terms are. -/
structure LI (X : Gx) (W0 : World) (n0 lo Tb Ub : Nat) (BR : List Nat) (D : Prop) (M : Nat) (p : Pe) (bs : List (Nat × List Value)) (V : World) (Qs Q : List Pe) (qv : Value) (cb : List Nat) (R : Prop) (c : Nat) (tn un : Nat → Prop) : Prop where
  sv : SV X W0 lo Tb Ub V tn un Qs qv
  pi : PI X W0 (fun c => c < n0) BR Q cb [p.b] tn un
  sm : D ↔ qsim Q ∧ R
  me : qsum Q + c ≤ M
  bx : ∀ e ∈ bs, Bx V e.1 e.2 ∧ lo ≤ e.1 ∧ qv.ownBlock ≠ some e.1

theorem qsim_app {Q : List Pe} {p : Pe} : qsim (Q ++ [p]) ↔ qsim Q ∧ p.r'.sim p.r := by
  constructor
  · intro h
    exact ⟨fun x hx => h x (List.mem_append.2 (.inl hx)), h p (by simp)⟩
  · rintro ⟨h1, h2⟩ x hx
    rcases List.mem_append.1 hx with e | e
    · exact h1 x e
    · rw [List.mem_singleton.1 e]; exact h2
theorem qsum_app (Q : List Pe) (p : Pe) : qsum (Q ++ [p]) = qsum Q + tcB p.al p.r := by simp [qsum]

section
variable {X : Gx} {W0 : World} {n0 lo G nb nc lsb cm kc ac tk ta Tb Ub : Nat} {BR : List Nat} {D : Prop} {M : Nat} {p : Pe} {bs : List (Nat × List Value)} {V V' : World} {Q Qs : List Pe} {qv : Value} {cb : List Nat} {R : Prop} {c : Nat} {tn un : Nat → Prop}

theorem LI.keep (sc : SC X W0 n0 lo G nb nc lsb cm kc ac tk ta Tb Ub) (h : LI X W0 n0 lo Tb Ub BR D M p bs V Qs Q qv cb R c tn un) (k : Kept (fun _ => True) V V') : LI X W0 n0 lo Tb Ub BR D M p bs V' Qs Q qv cb R c tn un :=
  ⟨h.sv.keep sc k, h.pi, h.sm, h.me, fun e he => ⟨(h.bx e he).1.kept k trivial, (h.bx e he).2⟩⟩

/-- The terms at hand become one set. -/
theorem LI.visit {j m : Nat} {q q' : Fo} (sc : SC X W0 n0 lo G nb nc lsb cm kc ac tk ta Tb Ub) (h : LI X W0 n0 lo Tb Ub BR D M p bs V Q Q qv q.inn R c tn un) (cu : Cu X W0 (fun c => c < n0) BR p j (m + 1) q q' tn) :
    Calls Try.prog 29 #[.pointer (some ⟨Tb, X.first p.al p.i + j, none⟩), .pointer (some ⟨Tb, X.first p.al p.i' + j, none⟩)] V fun e V' => e = .returned (.bool true) ∧ LI X W0 n0 lo Tb Ub BR D M p bs V' Q Q qv q.inn R c (fun d => tn d ∧ d ≠ X.first p.al p.i + j) un := by
  obtain ⟨y, q1, y', q1', e1, e2, f1, f2, t1, t2, m1, m2, hbr, htn, cu'⟩ := cu.step
  have ha := (List.getElem?_eq_some_iff.1 t1).1
  have ha' := (List.getElem?_eq_some_iff.1 t2).1
  have htn' : tn (X.first p.al p.i' + j) := h.pi.ft _ _ t2 (.inr (.inr cu.br.1))
  have hne : X.first p.al p.i + j ≠ X.first p.al p.i' + j := fun e => by
    rw [e, t2] at t1
    have e3 : p.b' = p.b := congrArg Nd.b (Option.some.inj t1)
    exact cu.nb (by rw [← e3]; exact cu.br.1)
  have hlo := sc.lt
  have hj := h.sv.joinT sc ha ha' htn htn' hne
  refine hj.mono ?_
  rintro e V' ⟨rfl, s, k⟩
  exact ⟨rfl, s, h.pi.visit t1 rfl, h.sm, h.me, fun e he => ⟨(h.bx e he).1.kept k (by have := (h.bx e he).2.1; omega), (h.bx e he).2⟩⟩

/-- What two elements are, that are the same but for what is below them. -/
theorem LI.split {j : Nat} {y y' q1 q1' : Fo} (h : LI X W0 n0 lo Tb Ub BR D M p bs V Q Q qv (y.app q1).inn ((y'.app q1').sim (y.app q1)) (tcB p.al (y.app q1) + j) tn un) (f1 : Fit E y (fdl p.al)) (f2 : Fit E y' (fdl p.al)) (hh : hd p.al y y') :
    LI X W0 n0 lo Tb Ub BR D M p bs V Q Q qv (ib (kA (bdy p.al y)) (kF (bdy p.al y)) ++ (ib (aA (bdy p.al y)) (aF (bdy p.al y)) ++ q1.inn)) ((kF (bdy p.al y')).sim (kF (bdy p.al y)) ∧ (aF (bdy p.al y')).sim (aF (bdy p.al y)) ∧ q1'.sim q1) (tcB false (kF (bdy p.al y)) + (tcB true (aF (bdy p.al y)) + (tcB p.al q1 + (j + 1)))) tn un := by
  refine ⟨h.sv, h.pi.less (inn_step f1 q1) (List.Sublist.refl _), ?_, ?_, h.bx⟩
  · rw [h.sm, sim_step p.al f1 f2]
    exact and_congr_right (fun _ => ⟨fun e => e.2, fun e => ⟨hh, e⟩⟩)
  · have h1 := h.me
    have h2 := tcB_step f1 q1
    have e1 : tcB false (kF (bdy p.al y)) = tcK (kF (bdy p.al y)) := rfl
    have e2 : tcB true (aF (bdy p.al y)) = tcA (aF (bdy p.al y)) := rfl
    omega

/-- The lists right below: none, or two that are made one set and have to wait. -/
theorem LI.list {al : Bool} {a a' : Option Addr} {n : Nat} {k k' : Fo} {l l' : Nat} (sc : SC X W0 n0 lo G nb nc lsb cm kc ac tk ta Tb Ub) (h : LI X W0 n0 lo Tb Ub BR D M p bs V Q Q qv (ib a k ++ cb) (k'.sim k ∧ R) (tcB al k + c) tn un) (hl : X.Li al a n k l) (hl' : X.Li al a' n k' l') (hf : Fit E k (rep (fdl al) n)) (hf' : Fit E k' (rep (fdl al) n)) (hm : 0 < n → ∃ c o, a = some ⟨c, o, none⟩ ∧ RM W0 (fun c => c < n0) c o k ∧ ib a k = c :: k.inn) (hm' : 0 < n → ∃ c o, a' = some ⟨c, o, none⟩ ∧ RM W0 (fun c => c < n0) c o k' ∧ ib a' k' = c :: k'.inn) (hb : ∀ c ∈ ib a' k', c ∈ BR) :
    (l < X.LS.length ∧ l' < X.LS.length) ∧ ((l = 0 ∧ l' = 0 ∧ (Calls Try.prog 29 #[.pointer (some ⟨Ub, 0, none⟩), .pointer (some ⟨Ub, 0, none⟩)] V fun e V' => e = .returned (.bool false) ∧ V' = V) ∧ LI X W0 n0 lo Tb Ub BR D M p bs V Q Q qv cb R c tn un) ∨
    (∃ pe : Pe, pe.x = l ∧ pe.y = l' ∧ Calls Try.prog 29 #[.pointer (some ⟨Ub, l, none⟩), .pointer (some ⟨Ub, l', none⟩)] V fun e V' => e = .returned (.bool true) ∧ ∃ un', LI X W0 n0 lo Tb Ub BR D M p bs V' Q (Q ++ [pe]) qv cb R c tn un')) := by
  have hlt : ∀ (a : Option Addr) (k : Fo) (l : Nat), X.Li al a n k l → l < X.LS.length := fun a k l hl => by
    rcases hl with ⟨-, rfl⟩ | ⟨i, b, -, -, -, hs⟩
    · exact (List.getElem?_eq_some_iff.1 sc.ok.l0).1
    · exact (List.getElem?_eq_some_iff.1 hs).1
  have g1 := hlt _ _ _ hl
  have g2 := hlt _ _ _ hl'
  refine ⟨⟨g1, g2⟩, ?_⟩
  rcases h.pi.lists sc.ok hl hl' hm hm' hb with ⟨h0, e1, e2⟩ | ⟨pe, e1, e2, e3, e4, e5, u1, u2, hne, pi'⟩
  · left
    subst h0
    have hk : k = .nil := fit_nil hf
    have hk' : k' = .nil := fit_nil hf'
    refine ⟨e1, e2, h.sv.same0 sc.ok h.pi.u0, h.sv, h.pi.less (List.sublist_append_right _ _) (List.Sublist.refl _), ?_, by have := h.me; omega, h.bx⟩
    rw [h.sm, hk, hk']
    exact and_congr_right (fun _ => ⟨fun e => e.2, fun e => ⟨trivial, e⟩⟩)
  · right
    refine ⟨pe, e1, e2, ?_⟩
    have hlo := sc.lt
    refine (h.sv.joinU sc g1 g2 u1 u2 hne).mono ?_
    rintro e V' ⟨rfl, s, kk⟩
    refine ⟨rfl, _, s, pi', ?_, ?_, fun e he => ⟨(h.bx e he).1.kept kk (by have := (h.bx e he).2.1; omega), (h.bx e he).2⟩⟩
    · rw [h.sm, qsim_app, e4, e5, and_assoc]
    · have := h.me
      rw [qsum_app, e3, e4]
      omega

/-- They wait. -/
theorem LI.push {pe : Pe} {g cap : Nat} (sc : SC X W0 n0 lo G nb nc lsb cm kc ac tk ta Tb Ub) (h : LI X W0 n0 lo Tb Ub BR D M p bs V Q (Q ++ [pe]) qv cb R c tn un) (o1 : V'.ownsRow lo 77 2 (.slice (some ⟨g, 0, none⟩) (Q.length + 1) cap) (Q.length + 1) (qcs Q ++ [.int .i64 (pe.x : Int), .int .i64 (pe.y : Int)])) (o2 : V.grownBy V' qv.ownBlock) (hat : qv.ownBlock = some g ∨ g = V.heap.size) :
    LI X W0 n0 lo Tb Ub BR D M p bs V' (Q ++ [pe]) (Q ++ [pe]) (.slice (some ⟨g, 0, none⟩) (Q.length + 1) cap) cb R c tn un := by
  have s := h.sv.push (p := pe) sc o1 o2
  rw [List.length_append, List.length_singleton] at s
  have k : Kept (fun d => qv.ownBlock ≠ some d) V V' := Kept.grown o2 (fun d e hd => hd e)
  refine ⟨s, h.pi, h.sm, h.me, fun e he => ?_⟩
  obtain ⟨x1, x2, x3⟩ := h.bx e he
  refine ⟨x1.kept k x3, x2, fun e1 => ?_⟩
  have e2 : g = e.1 := Option.some.inj e1
  rcases hat with e3 | e3
  · exact x3 (by rw [e3, e2])
  · have l1 := x1.lt
    omega

/-- Boxes more. -/
theorem LI.more {b3 b4 : Nat} {L3 L4 : List Value} (sc : SC X W0 n0 lo G nb nc lsb cm kc ac tk ta Tb Ub) (h : LI X W0 n0 lo Tb Ub BR D M p bs V Q Q qv cb R c tn un) (k : Kept (fun _ => True) V V') (x3 : Bx V' b3 L3) (x4 : Bx V' b4 L4) (h3 : V.heap.size ≤ b3) (h4 : V.heap.size ≤ b4) : LI X W0 n0 lo Tb Ub BR D M p ((b3, L3) :: (b4, L4) :: bs) V' Q Q qv cb R c tn un := by
  have hk := h.keep sc k
  have hv := h.sv.hv
  have hq : ∀ d, qv.ownBlock = some d → d < V.heap.size := fun d e => (World.ownsRow.lt h.sv.ow d e).2
  refine ⟨hk.sv, hk.pi, hk.sm, hk.me, fun e he => ?_⟩
  rcases List.mem_cons.1 he with rfl | he
  · exact ⟨x3, by show lo ≤ b3; omega, fun e => by have := hq _ e; dsimp only at this; omega⟩
  · rcases List.mem_cons.1 he with rfl | he
    · exact ⟨x4, by show lo ≤ b4; omega, fun e => by have := hq _ e; dsimp only at this; omega⟩
    · exact hk.bx e he

theorem LI.fewer {bs' : List (Nat × List Value)} (h : LI X W0 n0 lo Tb Ub BR D M p bs V Qs Q qv cb R c tn un) (hs : ∀ e ∈ bs', e ∈ bs) : LI X W0 n0 lo Tb Ub BR D M p bs' V Qs Q qv cb R c tn un :=
  ⟨h.sv, h.pi, h.sm, h.me, fun e he => h.bx e (hs e he)⟩

theorem tcB_pos {al : Bool} {n : Nat} {q : Fo} (h : Fit E q (rep (fdl al) n)) : n ≤ tcB al q := by
  induction n generalizing q with
  | zero => exact Nat.zero_le _
  | succ n ih =>
    obtain ⟨y, q1, rfl, hy, hq, -⟩ := row_split h
    have := ih hq
    rw [tcB_step hy]
    omega

theorem PI.len {cc : List Nat} {S : Nat → Prop} (ok : X.Ok) (h : PI X W0 S BR Q cb cc tn un) : Q.length ≤ qsum Q := by
  have key : ∀ L : List Pe, (∀ p ∈ L, p.Ok X W0 S BR) → L.length ≤ qsum L := by
    intro L
    induction L with
    | nil => intro _; exact Nat.le_refl _
    | cons p L ih =>
      intro hl
      have h1 := ih (fun x hx => hl x (List.mem_cons_of_mem _ hx))
      obtain ⟨n1, f1⟩ := ok.pos _ _ _ _ _ (hl p List.mem_cons_self).e
      have h2 := tcB_pos f1
      simp only [qsum, List.map_cons, List.sum_cons, List.length_cons] at h1 ⊢
      omega
  exact key Q h.ok
end

end Go.Proofs.Ytfgmgbkiebeeoaa
