import Derived.Test.YtcnokpaicnjkfaaCk
namespace Go.Proofs.Ytcnokpaicnjkfaa
open Go.RowKit Go.Joins

theorem Kept.trans2 {S T : Nat → Prop} {A B C : World} (h : Kept S A B) (k : Kept T B C) (hT : ∀ b, b < A.heap.size → S b → T b) : Kept S A C :=
  ⟨k.os.trans h.os, k.tape.trans h.tape, k.output.trans h.output, Nat.le_trans h.size k.size, fun i hi hs => (k.block i (Nat.lt_of_lt_of_le hi h.size) (hT i hi hs)).trans (h.block i hi hs)⟩

/-- A row of names that grows, behind the world V1. -/
structure FI (V1 wr : World) (v0 v : Value) (L : List ByteArray) : Prop where
  own : wr.ownsRow 0 9 1 v L.length (L.map Value.string)
  at_ : ∀ g, v.ownBlock = some g → v0.ownBlock = some g ∨ V1.heap.size ≤ g
  kp : Kept (fun c => c < V1.heap.size ∧ v0.ownBlock ≠ some c) V1 wr

theorem FI.start {V1 : World} {v : Value} {L : List ByteArray} (h : V1.ownsRow 0 9 1 v L.length (L.map Value.string)) : FI V1 V1 v v L := ⟨h, fun _ hg => .inl hg, Kept.refl _ _⟩

theorem FI.call {V1 wr w1 : World} {v0 v : Value} {L L' : List ByteArray} {a : Option Addr} {c : Nat} (h : FI V1 wr v0 v L) (ho : w1.ownsRow 0 9 1 (.slice a L'.length c) L'.length (L'.map Value.string)) (hk : Kept (fun c => v.ownBlock ≠ some c) wr w1) (hg : ∀ g, (Value.slice a L'.length c).ownBlock = some g → v.ownBlock = some g ∨ wr.heap.size ≤ g) : FI V1 w1 v0 (.slice a L'.length c) L' := by
  have hz := h.kp.size
  refine ⟨ho, fun g hg' => ?_, h.kp.trans (hk.mono (fun b hb hs e => ?_))⟩
  · rcases hg g hg' with e | e
    · exact h.at_ g e
    · exact .inr (by omega)
  · rcases h.at_ b e with e2 | e2
    · exact hs.2 e2
    · omega

theorem FI.keep {V1 wr w1 : World} {v0 v : Value} {L : List ByteArray} (h : FI V1 wr v0 v L) (hk : Kept (fun _ => True) wr w1) : FI V1 w1 v0 v L :=
  ⟨ownsRow_kept h.own hk (fun _ _ => trivial), h.at_, h.kp.trans (hk.mono (fun _ _ _ => trivial))⟩

theorem FI.sr {V1 wr : World} {v0 v : Value} {L B : List ByteArray} {ba : Option Addr} {bc : Nat} (h : FI V1 wr v0 v L) (hb : SR V1 (fun c => c < V1.heap.size ∧ v0.ownBlock ≠ some c) ba bc B) : SR wr (fun c => c < wr.heap.size ∧ v.ownBlock ≠ some c) ba bc B := by
  have hz := h.kp.size
  refine (hb.kept h.kp (fun b hs => ⟨hs, hs.1⟩)).mono (fun b hs => ⟨by omega, fun e => ?_⟩)
  rcases h.at_ b e with e2 | e2
  · exact hs.2 e2
  · omega

theorem FI.rd {V1 wr : World} {v0 v : Value} {L : List ByteArray} {fs : List Fld} {n nb i : Nat} {a : Option Addr} {r : Fo} (h : FI V1 wr v0 v L) (hr : Rd E fs n nb a i r V1) (hz : nb ≤ V1.heap.size) (hv : ∀ g, v0.ownBlock = some g → nb ≤ g) : Rd E fs n nb a i r wr :=
  hr.kept h.kp hz (fun c hc => ⟨by omega, fun e => by have := hv c e; omega⟩)

theorem FI.frp {W V1 wr : World} {v0 : Value} {a : Option Addr} {n c : Nat} {L' : List ByteArray} (h : FI V1 wr v0 (.slice a n c) L') (hn : n = L'.length) (hk : Kept (fun _ => True) W V1) : FrP v0 L' W (.returned (.slice a n c)) wr := by
  subst hn
  have hz := hk.size
  refine ⟨a, c, rfl, h.own, (hk.mono (fun _ _ _ => trivial)).trans2 h.kp (fun b hb hs => ⟨by omega, hs⟩), fun g hg => ?_⟩
  rcases h.at_ g hg with e | e
  · exact .inl e
  · exact .inr (by omega)

theorem sr_row2 {W : World} {B : Nat} {v : Value} {n : Nat} {L : List ByteArray} (h : W.ownsRow B 9 1 v n (L.map Value.string)) : ∃ a c, v = .slice a n c ∧ n = L.length ∧ SR W (fun b => v.ownBlock = some b ∧ b < W.heap.size) a c L := by
  have hl := h.1
  rw [List.length_map, Nat.mul_one] at hl
  rcases h.2 with ⟨rfl, rfl⟩ | ⟨g, cap, cur, rfl, hb, hg, hnc, hcm, hcs, ht⟩
  · have e : L = [] := List.length_eq_zero_iff.1 hl
    subst e
    exact ⟨none, 0, rfl, rfl, SR.nil _ _ _ _ (Nat.zero_le _)⟩
  · refine ⟨_, cap, rfl, hl.symm, ⟨by omega, hcm, fun _ => ⟨g, 0, rfl, ⟨rfl, (Array.getElem?_eq_some_iff.1 hg).1⟩, fun i x hx => ?_⟩⟩⟩
    have h2 := h.cells (g := g) rfl i (.string x) (by rw [List.getElem?_map, hx]; rfl)
    rwa [addr_add] at h2

/-- A row of names that is built behind the world V0. -/
structure BR (V0 w : World) (v : Value) (P : List ByteArray) : Prop where
  own : w.ownsRow 0 9 1 v P.length (P.map Value.string)
  hi : ∀ g, v.ownBlock = some g → V0.heap.size ≤ g
  kp : Kept (fun c => c < V0.heap.size) V0 w

theorem BR.empty (V0 V : World) (k : Kept (fun c => c < V0.heap.size) V0 V) : BR V0 (V.alloc (.cells #[] 9)) (.slice (some ⟨V.heap.size, 0, none⟩) 0 0) [] :=
  ⟨⟨rfl, .inr ⟨V.heap.size, 0, #[], rfl, Nat.zero_le _, (MapKept.heap_alloc V _).1, Nat.le_refl _, Nat.zero_le _, rfl, rfl⟩⟩, fun c hc => by have e : V.heap.size = c := Option.some.inj hc; have := k.size; omega, k.trans (Kept.alloc _ _ _)⟩

theorem BR.grow {V0 w w' : World} {v v' : Value} {P Q : List ByteArray} (h : BR V0 w v P) (ho : w'.ownsRow 0 9 1 v' (P ++ Q).length ((P ++ Q).map Value.string)) (hg : w.grownBy w' v.ownBlock) (ha : ∀ g, v'.ownBlock = some g → v.ownBlock = some g ∨ w.heap.size ≤ g) : BR V0 w' v' (P ++ Q) :=
  ⟨ho, fun g e => by
    rcases ha g e with e2 | e2
    · exact h.hi g e2
    · have := h.kp.size; omega, h.kp.trans (Kept.grown hg (fun c hc hlt => by have := h.hi c hc; omega))⟩

theorem BR.sr {V0 w : World} {a : Option Addr} {n c : Nat} {P : List ByteArray} (h : BR V0 w (.slice a n c) P) {v0 : Value} (hv : ∀ g, v0.ownBlock = some g → g < V0.heap.size) : SR w (fun c => c < w.heap.size ∧ v0.ownBlock ≠ some c) a c P := by
  obtain ⟨a', c', e, -, hs⟩ := sr_row2 h.own
  cases e
  exact hs.mono (fun b hb => ⟨hb.2, fun e => by have := hv b e; have := h.hi b hb.1; omega⟩)

/-- The same with letters for what comes out. -/
theorem sr_drawB {ops : Array Oper} {o : Oper} {a : Act} {K : Act → World → Prop} {Q : Exit → Act → World → Prop} {E : Prop} (hgd : o.guard = none) (s x : Operand)
    (ho : o.op = .call { callee := .builtin .append, args := #[s, x], argTypes := #[25, 25] }) (V0 w : World) (v : Value) (L M : List ByteArray) (m t : Nat) (hm : m = M.length) (ht : t = (L ++ M).length) (b : Option Addr) (c : Nat) (S : Nat → Prop) (hs : a.eval s = v) (hown : BR V0 w v L) (hx : a.eval x = .slice b m c) (hM : SR w S b c M) (hle : t ≤ 33554432)
    (h : ∀ ga gc w', BR V0 w' (.slice ga t gc) (L ++ M) → K (a.put o.dst (.slice ga t gc)) w') :
    if Region.wanted o (yielded ops a.tmps) = true then Oper.wp Try.prog o a w K Q else E := by
  rw [List.length_append] at ht
  refine sr_draw hgd s x ho w v L M L.length m rfl hm b c S hs hown.own hx hM (by omega) (fun ga gc w' h1 h2 h3 => ?_)
  have e : L.length + m = t := by omega
  rw [e] at h1 h3 ⊢
  refine h ga gc w' (hown.grow ?_ h2 h3)
  have e2 : (L ++ M).length = t := by rw [List.length_append]; omega
  rw [e2]
  exact h1

theorem occ_one (h : Hd) (ks al : Tm) (B : List ByteArray) (hc : h.cs = []) : ((Tm.nd h ks al .nil).occ B B).flatten = ow h.k h.nm h.ns (fun X Y => ks.occ X Y) (fun X => al.occ X X) B := by
  simp only [Tm.occ, hc, List.append_nil, List.flatten_cons, List.flatten_nil]

end Go.Proofs.Ytcnokpaicnjkfaa
