import Derived.WalkKit
import Derived.WalkSpells
import Derived.WalkLawsBesides
import Derived.Deep.OwnRows
import Derived.Deep.QuietTactic
import Derived.BigQuiet
import Derived.Deep.RegionWith
import Derived.Lib.SmallJoins
namespace Go.Proofs.Ytmnligaelihmiaa
open Go.RowKit Go.Joins

/-- What lay in the blocks of S lies as it lay. -/
structure Kept (S : Nat → Prop) (A B : World) : Prop where
  os : B.os = A.os
  tape : B.tape = A.tape
  output : B.output = A.output
  size : A.heap.size ≤ B.heap.size
  block : ∀ k, k < A.heap.size → S k → B.heap[k]? = A.heap[k]?

theorem Kept.refl (S : Nat → Prop) (A : World) : Kept S A A := ⟨rfl, rfl, rfl, Nat.le_refl _, fun _ _ _ => rfl⟩

theorem Kept.trans {S : Nat → Prop} {A B C : World} (h : Kept S A B) (k : Kept S B C) : Kept S A C :=
  ⟨k.os.trans h.os, k.tape.trans h.tape, k.output.trans h.output, Nat.le_trans h.size k.size, fun i hi hs => (k.block i (Nat.lt_of_lt_of_le hi h.size) hs).trans (h.block i hi hs)⟩

theorem Kept.mono {S T : Nat → Prop} {A B : World} (h : Kept S A B) (hT : ∀ b, b < A.heap.size → T b → S b) : Kept T A B :=
  ⟨h.os, h.tape, h.output, h.size, fun i hi ht => h.block i hi (hT i hi ht)⟩

theorem Kept.below {S : Nat → Prop} {A B : World} (h : Kept S A B) {n : Nat} (hn : ∀ b, b < n → S b) (hA : n ≤ A.heap.size) : Below n A B :=
  ⟨h.os, h.tape, h.output, h.size, fun i hi => h.block i (Nat.lt_of_lt_of_le hi hA) (hn i hi)⟩

theorem Kept.of_below {S : Nat → Prop} {A B : World} {n : Nat} (h : Below n A B) (hS : ∀ b, b < A.heap.size → S b → b < n) : Kept S A B :=
  ⟨h.os, h.tape, h.output, h.size, fun i hi hs => h.block i (hS i hi hs)⟩

theorem kt {S : Nat → Prop} {A B : World} (h : Below A.heap.size A B) : Kept S A B := Kept.of_below h (fun _ hb _ => hb)

theorem Kept.alloc (S : Nat → Prop) (A : World) (o : Obj) : Kept S A (A.alloc o) :=
  ⟨rfl, rfl, rfl, by simp, fun k hk _ => Below.heap_alloc _ _ _ hk⟩

theorem Kept.drew (S : Nat → Prop) (A : World) : Kept S A A.drew := ⟨rfl, rfl, rfl, Nat.le_refl _, fun _ _ _ => rfl⟩

theorem Kept.setCell (S : Nat → Prop) (A : World) (p : Addr) (v : Value) (h : ¬ S p.block) : Kept S A (A.setCell p v) :=
  ⟨rfl, rfl, rfl, by simp [World.setCell], fun k _ hs => Below.heap_setCell _ _ _ _ (fun e => h (e ▸ hs))⟩

theorem Kept.set {S : Nat → Prop} {A B : World} (k : Kept S A B) {p : Addr} {v : Value} (h : ¬ S p.block) : Kept S A (B.setCell p v) := k.trans (Kept.setCell S B p v h)

theorem Kept.cell {S : Nat → Prop} {A B : World} (h : Kept S A B) {p : Addr} (hl : p.block < A.heap.size) (hs : S p.block) : B.cell? p = A.cell? p :=
  World.cell?_of_block (w := A) (h.block p.block hl hs)

theorem Kept.frozen {S : Nat → Prop} {A B : World} (h : Kept S A B) {p : Addr} (hl : p.block < A.heap.size) (hs : S p.block) : B.frozen? p = A.frozen? p :=
  World.frozen?_of_block (w := A) (h.block p.block hl hs)

theorem Below.kept {A B : World} {n : Nat} {w : World} (h : Below n w A) {S : Nat → Prop} (k : Kept S A B) (hn : ∀ b, b < n → S b) (hw : n ≤ w.heap.size) : Below n w B :=
  h.trans (k.below hn (Nat.le_trans hw h.size))

theorem addr_add (b o j : Nat) : (⟨b, o, none⟩ : Addr).add j = ⟨b, o + j, none⟩ := by unfold Addr.add; split <;> simp_all

theorem hide {p : Prop} (h : p) : Hid p := h

/-- A row of cells: plain ones, and slices with the row of cells that they hold. -/
inductive Fo where
  | nil : Fo
  | v (x : Value) (r : Fo) : Fo
  | s (a : Option Addr) (n cap : Nat) (ks r : Fo) : Fo

def Fo.vals : Fo → List Value
  | .nil => []
  | .v x r => x :: r.vals
  | .s a n cap _ r => .slice a n cap :: r.vals

def Fo.len : Fo → Nat
  | .nil => 0
  | .v _ r => r.len + 1
  | .s _ _ _ _ r => r.len + 1

def Fo.size : Fo → Nat
  | .nil => 0
  | .v _ r => r.size + 1
  | .s _ _ _ ks r => ks.size + r.size + 1

def textSize : Value → Nat
  | .string t => t.size
  | _ => 0

/-- Elements of slices and bytes of texts. -/
def Fo.wt : Fo → Nat
  | .nil => 0
  | .v x r => textSize x + r.wt
  | .s _ n _ ks r => n + ks.wt + r.wt

/-- Plain cells. -/
def Fo.ct : Fo → Nat
  | .nil => 0
  | .v _ r => r.ct + 1
  | .s _ _ _ ks r => ks.ct + r.ct

/-- Plain cells within slices. -/
def Fo.sct : Fo → Nat
  | .nil => 0
  | .v _ r => r.sct
  | .s _ _ _ ks r => ks.ct + r.sct

def Fo.app : Fo → Fo → Fo
  | .nil, G => G
  | .v x r, G => .v x (r.app G)
  | .s a n cap ks r, G => .s a n cap ks (r.app G)

theorem Fo.vals_length : ∀ F : Fo, F.vals.length = F.len
  | .nil => rfl
  | .v _ r => by simp only [Fo.vals, Fo.len, List.length_cons, r.vals_length]
  | .s _ _ _ _ r => by simp only [Fo.vals, Fo.len, List.length_cons, r.vals_length]

theorem Fo.app_vals : ∀ F G : Fo, (F.app G).vals = F.vals ++ G.vals
  | .nil, _ => rfl
  | .v _ r, G => by simp only [Fo.app, Fo.vals, r.app_vals G, List.cons_append]
  | .s _ _ _ _ r, G => by simp only [Fo.app, Fo.vals, r.app_vals G, List.cons_append]

theorem Fo.app_len : ∀ F G : Fo, (F.app G).len = F.len + G.len
  | .nil, _ => by simp [Fo.app, Fo.len]
  | .v _ r, G => by simp only [Fo.app, Fo.len, r.app_len G]; omega
  | .s _ _ _ _ r, G => by simp only [Fo.app, Fo.len, r.app_len G]; omega

theorem Fo.app_nil : ∀ F : Fo, F.app .nil = F
  | .nil => rfl
  | .v _ r => by simp only [Fo.app, r.app_nil]
  | .s _ _ _ _ r => by simp only [Fo.app, r.app_nil]

theorem Fo.app_assoc : ∀ F G H : Fo, (F.app G).app H = F.app (G.app H)
  | .nil, _, _ => rfl
  | .v _ r, G, H => by simp only [Fo.app, r.app_assoc G H]
  | .s _ _ _ _ r, G, H => by simp only [Fo.app, r.app_assoc G H]

theorem Fo.app_size : ∀ F G : Fo, (F.app G).size = F.size + G.size
  | .nil, _ => by simp [Fo.app, Fo.size]
  | .v _ r, G => by simp only [Fo.app, Fo.size, r.app_size G]; omega
  | .s _ _ _ _ r, G => by simp only [Fo.app, Fo.size, r.app_size G]; omega

theorem Fo.app_wt : ∀ F G : Fo, (F.app G).wt = F.wt + G.wt
  | .nil, _ => by simp [Fo.app, Fo.wt]
  | .v _ r, G => by simp only [Fo.app, Fo.wt, r.app_wt G]; omega
  | .s _ _ _ _ r, G => by simp only [Fo.app, Fo.wt, r.app_wt G]; omega

theorem Fo.app_ct : ∀ F G : Fo, (F.app G).ct = F.ct + G.ct
  | .nil, _ => by simp [Fo.app, Fo.ct]
  | .v _ r, G => by simp only [Fo.app, Fo.ct, r.app_ct G]; omega
  | .s _ _ _ _ r, G => by simp only [Fo.app, Fo.ct, r.app_ct G]; omega

/-- The values lie in block b from cell o on. -/
def Cel (W : World) (L : List Value) (b o : Nat) : Prop := ∀ i v, L[i]? = some v → W.cell? ⟨b, o + i, none⟩ = some v

theorem Cel.keep {A B : World} {L : List Value} {b o : Nat} (h : Cel A L b o) (k : ∀ j, o ≤ j → j < o + L.length → ∀ v, A.cell? ⟨b, j, none⟩ = some v → B.cell? ⟨b, j, none⟩ = some v) : Cel B L b o := fun i v hv => by
  have hi : i < L.length := (List.getElem?_eq_some_iff.1 hv).1
  exact k (o + i) (by omega) (by omega) v (h i v hv)

theorem Cel.below {A B : World} {n : Nat} {L : List Value} {b o : Nat} (h : Cel A L b o) (k : Below n A B) (hb : b < n) : Cel B L b o := fun i v hv => (k.cell (p := ⟨b, o + i, none⟩) hb).trans (h i v hv)

theorem Cel.kept {A B : World} {S : Nat → Prop} {L : List Value} {b o : Nat} (h : Cel A L b o) (k : Kept S A B) (hb : b < A.heap.size) (hs : S b) : Cel B L b o := fun i v hv => (k.cell (p := ⟨b, o + i, none⟩) hb hs).trans (h i v hv)

theorem Cel.left {W : World} {L M : List Value} {b o : Nat} (h : Cel W (L ++ M) b o) : Cel W L b o := fun i v hv => by
  have hi : i < L.length := (List.getElem?_eq_some_iff.1 hv).1
  exact h i v (by rw [List.getElem?_append_left hi]; exact hv)

theorem Cel.right {W : World} {L M : List Value} {b o : Nat} (h : Cel W (L ++ M) b o) : Cel W M b (o + L.length) := fun i v hv => by
  have := h (L.length + i) v (by rw [List.getElem?_append_right (by omega)]; simpa using hv)
  rw [← Nat.add_assoc] at this
  exact this

theorem Cel.join {W : World} {L M : List Value} {b o : Nat} (h : Cel W L b o) (k : Cel W M b (o + L.length)) : Cel W (L ++ M) b o := fun i v hv => by
  by_cases hi : i < L.length
  · rw [List.getElem?_append_left hi] at hv; exact h i v hv
  · rw [List.getElem?_append_right (by omega)] at hv
    have := k (i - L.length) v hv
    have e : o + L.length + (i - L.length) = o + i := by omega
    rwa [e] at this

theorem Cel.nil (W : World) (b o : Nat) : Cel W [] b o := fun i v hv => by simp at hv

/-- What the slices of a row hold lies in blocks of S. -/
def Fo.Subs (W : World) (S : Nat → Prop) : Fo → Prop
  | .nil => True
  | .v _ r => r.Subs W S
  | .s a n cap ks r => (n ≤ cap ∧ cap ≤ maxLen ∧ (0 < ks.len → ∃ b o, a = some ⟨b, o, none⟩ ∧ S b ∧ Cel W ks.vals b o ∧ ks.Subs W S)) ∧ r.Subs W S

/-- A slice holds the row. -/
def Fo.Sub (W : World) (S : Nat → Prop) (a : Option Addr) (n cap : Nat) (ks : Fo) : Prop :=
  n ≤ cap ∧ cap ≤ maxLen ∧ (0 < ks.len → ∃ b o, a = some ⟨b, o, none⟩ ∧ S b ∧ Cel W ks.vals b o ∧ ks.Subs W S)

theorem Fo.Subs.keep {A B : World} {S T : Nat → Prop} (hT : ∀ b, S b → T b) (h2 : ∀ p : Addr, S p.block → ∀ v, A.cell? p = some v → B.cell? p = some v) : ∀ {F : Fo}, F.Subs A S → F.Subs B T
  | .nil, _ => trivial
  | .v _ r, h => Fo.Subs.keep hT h2 (F := r) h
  | .s _ _ _ ks r, ⟨⟨h1, h3, h4⟩, h5⟩ => ⟨⟨h1, h3, fun hl => by
      obtain ⟨b, o, e, s, c, x⟩ := h4 hl
      exact ⟨b, o, e, hT _ s, c.keep (fun j _ _ v hv => h2 ⟨b, j, none⟩ s v hv), Fo.Subs.keep hT h2 x⟩⟩, Fo.Subs.keep hT h2 h5⟩

theorem Fo.Sub.keep {A B : World} {S T : Nat → Prop} (hT : ∀ b, S b → T b) (h2 : ∀ p : Addr, S p.block → ∀ v, A.cell? p = some v → B.cell? p = some v) {a : Option Addr} {n cap : Nat} {F : Fo} (h : F.Sub A S a n cap) : F.Sub B T a n cap :=
  (Fo.Subs.keep hT h2 (F := .s a n cap F .nil) ⟨h, trivial⟩).1

theorem Fo.Subs.kept {A B : World} {S T : Nat → Prop} (k : Kept T A B) (hS : ∀ b, S b → T b ∧ b < A.heap.size) {F : Fo} (h : F.Subs A S) : F.Subs B S := h.keep (fun _ x => x) (fun _ hp _ hv => (k.cell (hS _ hp).2 (hS _ hp).1).trans hv)
theorem Fo.Sub.kept {A B : World} {S T : Nat → Prop} (k : Kept T A B) (hS : ∀ b, S b → T b ∧ b < A.heap.size) {a : Option Addr} {n cap : Nat} {F : Fo} (h : F.Sub A S a n cap) : F.Sub B S a n cap := h.keep (fun _ x => x) (fun _ hp _ hv => (k.cell (hS _ hp).2 (hS _ hp).1).trans hv)
theorem Fo.Subs.below {A B : World} {n : Nat} {S : Nat → Prop} (k : Below n A B) (hS : ∀ b, S b → b < n) {F : Fo} (h : F.Subs A S) : F.Subs B S := h.keep (fun _ x => x) (fun _ hp _ hv => (k.cell (hS _ hp)).trans hv)
theorem Fo.Sub.below {A B : World} {m : Nat} {S : Nat → Prop} (k : Below m A B) (hS : ∀ b, S b → b < m) {a : Option Addr} {n cap : Nat} {F : Fo} (h : F.Sub A S a n cap) : F.Sub B S a n cap := h.keep (fun _ x => x) (fun _ hp _ hv => (k.cell (hS _ hp)).trans hv)
theorem Fo.Subs.mono {A : World} {S T : Nat → Prop} (hT : ∀ b, S b → T b) {F : Fo} (h : F.Subs A S) : F.Subs A T := h.keep hT (fun _ _ _ x => x)
theorem Fo.Sub.mono {A : World} {S T : Nat → Prop} (hT : ∀ b, S b → T b) {a : Option Addr} {n cap : Nat} {F : Fo} (h : F.Sub A S a n cap) : F.Sub A T a n cap := h.keep hT (fun _ _ _ x => x)

theorem Fo.Subs.app {W : World} {S : Nat → Prop} : ∀ {F G : Fo}, F.Subs W S → G.Subs W S → (F.app G).Subs W S
  | .nil, _, _, h => h
  | .v _ r, _, h, k => Fo.Subs.app (F := r) h k
  | .s _ _ _ _ _, _, ⟨h, h'⟩, k => ⟨h, h'.app k⟩

theorem Fo.Subs.left {W : World} {S : Nat → Prop} : ∀ {F G : Fo}, (F.app G).Subs W S → F.Subs W S
  | .nil, _, _ => trivial
  | .v _ r, _, h => Fo.Subs.left (F := r) h
  | .s _ _ _ _ r, _, ⟨h, h'⟩ => ⟨h, Fo.Subs.left (F := r) h'⟩

theorem Fo.Subs.right {W : World} {S : Nat → Prop} : ∀ {F G : Fo}, (F.app G).Subs W S → G.Subs W S
  | .nil, _, h => h
  | .v _ r, _, h => Fo.Subs.right (F := r) h
  | .s _ _ _ _ r, _, ⟨_, h'⟩ => Fo.Subs.right (F := r) h'

/-- The same cells and slices, wherever they lie. -/
def Fo.sim : Fo → Fo → Prop
  | .nil, .nil => True
  | .v x r, .v y q => x = y ∧ r.sim q
  | .s _ n _ ks r, .s _ m _ js q => n = m ∧ ks.sim js ∧ r.sim q
  | _, _ => False

theorem Fo.sim_nil : ∀ {G : Fo}, G.sim .nil → G = .nil
  | .nil, _ => rfl
  | .v _ _, h => h.elim
  | .s _ _ _ _ _, h => h.elim
theorem Fo.sim_v : ∀ {G : Fo} {x : Value} {r : Fo}, G.sim (.v x r) → ∃ q, G = .v x q ∧ q.sim r
  | .v _ q, _, _, ⟨e, h⟩ => ⟨q, by rw [e], h⟩
  | .nil, _, _, h => h.elim
  | .s _ _ _ _ _, _, _, h => h.elim
theorem Fo.sim_s : ∀ {G : Fo} {a : Option Addr} {n cap : Nat} {ks r : Fo}, G.sim (.s a n cap ks r) → ∃ a' cap' js q, G = .s a' n cap' js q ∧ js.sim ks ∧ q.sim r
  | .s a' _ cap' js q, _, _, _, _, _, ⟨e, h1, h2⟩ => ⟨a', cap', js, q, by rw [e], h1, h2⟩
  | .nil, _, _, _, _, _, h => h.elim
  | .v _ _, _, _, _, _, _, h => h.elim

theorem Fo.sim.refl : ∀ F : Fo, F.sim F
  | .nil => trivial
  | .v _ r => ⟨rfl, Fo.sim.refl r⟩
  | .s _ _ _ ks r => ⟨rfl, Fo.sim.refl ks, Fo.sim.refl r⟩

theorem Fo.sim.symm : ∀ {F G : Fo}, F.sim G → G.sim F
  | .nil, _, h => by cases ‹Fo› <;> first | trivial | exact h.elim
  | .v _ r, .v _ q, ⟨a, b⟩ => ⟨a.symm, b.symm⟩
  | .s _ _ _ _ _, .s _ _ _ _ _, ⟨a, b, c⟩ => ⟨a.symm, b.symm, c.symm⟩
  | .v _ _, .nil, h => h.elim
  | .v _ _, .s _ _ _ _ _, h => h.elim
  | .s _ _ _ _ _, .nil, h => h.elim
  | .s _ _ _ _ _, .v _ _, h => h.elim

theorem Fo.sim.trans : ∀ {F G H : Fo}, F.sim G → G.sim H → F.sim H
  | .nil, .nil, _, _, h => h
  | .v _ _, .v _ _, .v _ _, ⟨a, b⟩, ⟨c, d⟩ => ⟨a.trans c, b.trans d⟩
  | .s _ _ _ _ _, .s _ _ _ _ _, .s _ _ _ _ _, ⟨a, b, c⟩, ⟨d, e, f⟩ => ⟨a.trans d, b.trans e, c.trans f⟩
  | .v _ _, .v _ _, .nil, _, h => h.elim
  | .v _ _, .v _ _, .s _ _ _ _ _, _, h => h.elim
  | .s _ _ _ _ _, .s _ _ _ _ _, .nil, _, h => h.elim
  | .s _ _ _ _ _, .s _ _ _ _ _, .v _ _, _, h => h.elim
  | .nil, .v _ _, _, h, _ => h.elim
  | .nil, .s _ _ _ _ _, _, h, _ => h.elim
  | .v _ _, .nil, _, h, _ => h.elim
  | .v _ _, .s _ _ _ _ _, _, h, _ => h.elim
  | .s _ _ _ _ _, .nil, _, h, _ => h.elim
  | .s _ _ _ _ _, .v _ _, _, h, _ => h.elim

theorem Fo.sim.facts : ∀ {F G : Fo}, F.sim G → F.len = G.len ∧ F.size = G.size ∧ F.wt = G.wt ∧ F.ct = G.ct ∧ F.sct = G.sct
  | .nil, .nil, _ => ⟨rfl, rfl, rfl, rfl, rfl⟩
  | .v _ _, .v _ _, ⟨e, h⟩ => by
    obtain ⟨h1, h2, h3, h4, h5⟩ := h.facts
    subst e
    simp only [Fo.len, Fo.size, Fo.wt, Fo.ct, Fo.sct, h1, h2, h3, h4, h5, and_self]
  | .s _ _ _ _ _, .s _ _ _ _ _, ⟨e, h, g⟩ => by
    obtain ⟨h1, h2, h3, h4, h5⟩ := h.facts
    obtain ⟨g1, g2, g3, g4, g5⟩ := g.facts
    subst e
    simp only [Fo.len, Fo.size, Fo.wt, Fo.ct, Fo.sct, h2, h3, h4, g1, g2, g3, g4, g5, and_self]
  | .nil, .v _ _, h => h.elim
  | .nil, .s _ _ _ _ _, h => h.elim
  | .v _ _, .nil, h => h.elim
  | .v _ _, .s _ _ _ _ _, h => h.elim
  | .s _ _ _ _ _, .nil, h => h.elim
  | .s _ _ _ _ _, .v _ _, h => h.elim

theorem Fo.sim.len {F G : Fo} (h : F.sim G) : F.len = G.len := h.facts.1
theorem Fo.sim.size {F G : Fo} (h : F.sim G) : F.size = G.size := h.facts.2.1
theorem Fo.sim.wt {F G : Fo} (h : F.sim G) : F.wt = G.wt := h.facts.2.2.1
theorem Fo.sim.ct {F G : Fo} (h : F.sim G) : F.ct = G.ct := h.facts.2.2.2.1
theorem Fo.sim.sct {F G : Fo} (h : F.sim G) : F.sct = G.sct := h.facts.2.2.2.2

theorem Fo.sim.app : ∀ {F F' G G' : Fo}, F.sim F' → G.sim G' → (F.app G).sim (F'.app G')
  | .nil, .nil, _, _, _, h => h
  | .v _ _, .v _ _, _, _, ⟨a, b⟩, h => ⟨a, b.app h⟩
  | .s _ _ _ _ _, .s _ _ _ _ _, _, _, ⟨a, b, c⟩, h => ⟨a, b, c.app h⟩
  | .nil, .v _ _, _, _, h, _ => h.elim
  | .nil, .s _ _ _ _ _, _, _, h, _ => h.elim
  | .v _ _, .nil, _, _, h, _ => h.elim
  | .v _ _, .s _ _ _ _ _, _, _, h, _ => h.elim
  | .s _ _ _ _ _, .nil, _, _, h, _ => h.elim
  | .s _ _ _ _ _, .v _ _, _, _, h, _ => h.elim

/-- What kind of cell: a number, a truth, a text, a limb, a slice of the kind k. -/
inductive Fld where
  | i : Fld
  | b : Fld
  | u : Fld
  | t : Fld
  | s (k : Nat) : Fld

def rep (fs : List Fld) : Nat → List Fld
  | 0 => []
  | n + 1 => fs ++ rep fs n

/-- The row is of these kinds. -/
def Fit (E : Nat → List Fld) : Fo → List Fld → Prop
  | .nil, [] => True
  | .v (.int .i64 x) r, .i :: fs => (Lit.int .i64 x).wf = true ∧ Fit E r fs
  | .v (.bool _) r, .b :: fs => Fit E r fs
  | .v (.int .u32 x) r, .u :: fs => (Lit.int .u32 x).wf = true ∧ Fit E r fs
  | .v (.string x) r, .t :: fs => x.size ≤ maxLen ∧ Fit E r fs
  | .s _ n _ ks r, .s k :: fs => Fit E ks (rep (E k) n) ∧ Fit E r fs
  | _, _ => False

theorem fit_nil {E : Nat → List Fld} : ∀ {F : Fo}, Fit E F [] → F = .nil
  | .nil, _ => rfl
  | .v x _, h => by cases x <;> simp [Fit] at h
  | .s _ _ _ _ _, h => by simp [Fit] at h
theorem fit_i {E : Nat → List Fld} : ∀ {F : Fo} {fs : List Fld}, Fit E F (.i :: fs) → ∃ x r, F = .v (.int .i64 x) r ∧ (Lit.int .i64 x).wf = true ∧ Fit E r fs
  | .v (.int .i64 x) r, _, ⟨h1, h2⟩ => ⟨x, r, rfl, h1, h2⟩
  | .nil, _, h => by simp [Fit] at h
  | .s _ _ _ _ _, _, h => by simp [Fit] at h
theorem fit_t {E : Nat → List Fld} : ∀ {F : Fo} {fs : List Fld}, Fit E F (.t :: fs) → ∃ x r, F = .v (.string x) r ∧ x.size ≤ maxLen ∧ Fit E r fs
  | .v (.string x) r, _, ⟨h1, h2⟩ => ⟨x, r, rfl, h1, h2⟩
  | .nil, _, h => by simp [Fit] at h
  | .s _ _ _ _ _, _, h => by simp [Fit] at h
theorem fit_b {E : Nat → List Fld} : ∀ {F : Fo} {fs : List Fld}, Fit E F (.b :: fs) → ∃ x r, F = .v (.bool x) r ∧ Fit E r fs
  | .v (.bool x) r, _, h => ⟨x, r, rfl, h⟩
  | .nil, _, h => by simp [Fit] at h
  | .s _ _ _ _ _, _, h => by simp [Fit] at h
theorem fit_u {E : Nat → List Fld} : ∀ {F : Fo} {fs : List Fld}, Fit E F (.u :: fs) → ∃ x r, F = .v (.int .u32 x) r ∧ (Lit.int .u32 x).wf = true ∧ Fit E r fs
  | .v (.int .u32 x) r, _, ⟨h1, h2⟩ => ⟨x, r, rfl, h1, h2⟩
  | .nil, _, h => by simp [Fit] at h
  | .s _ _ _ _ _, _, h => by simp [Fit] at h
theorem fit_s {E : Nat → List Fld} {k : Nat} : ∀ {F : Fo} {fs : List Fld}, Fit E F (.s k :: fs) → ∃ a n cap ks r, F = .s a n cap ks r ∧ Fit E ks (rep (E k) n) ∧ Fit E r fs
  | .s a n cap ks r, _, ⟨h1, h2⟩ => ⟨a, n, cap, ks, r, rfl, h1, h2⟩
  | .nil, _, h => by simp [Fit] at h
  | .v x _, _, h => by cases x <;> simp [Fit] at h

end Go.Proofs.Ytmnligaelihmiaa
