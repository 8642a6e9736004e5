import Derived.WalkKit
import Derived.WalkSpells
import Derived.WalkLawsBesides
import Derived.Deep.OwnRows
import Derived.Deep.QuietTactic
import Derived.BigQuiet
import Derived.Deep.RegionWith
import Derived.Lib.SmallJoins
import Derived.Deep.AppendLies
import Derived.Laws.OwnMore
import Derived.Maps.AppendAt
import Derived.Deep.DeepCutAuto
namespace Go.Proofs.Ytcnbnhoeobdbnaa.U
open Go.RowKit Go.Joins

/-- What lay in the blocks of S lies as it lay. -/
structure Kept (S : Nat → Prop) (A B : World) : Prop where
  os : B.os = A.os
  tape : B.tape = A.tape
  output : B.output = A.output
  size : A.heap.size ≤ B.heap.size
  block : ∀ k, k < A.heap.size → S k → B.heap[k]? = A.heap[k]?

theorem Kept.refl (S : Nat → Prop) (A : World) : Kept S A A := ⟨rfl, rfl, rfl, Nat.le_refl _, fun _ _ _ => rfl⟩

theorem Kept.trans {S : Nat → Prop} {A B C : World} (h : Kept S A B) (k : Kept S B C) : Kept S A C :=
  ⟨k.os.trans h.os, k.tape.trans h.tape, k.output.trans h.output, Nat.le_trans h.size k.size, fun i hi hs => (k.block i (Nat.lt_of_lt_of_le hi h.size) hs).trans (h.block i hi hs)⟩

theorem Kept.mono {S T : Nat → Prop} {A B : World} (h : Kept S A B) (hT : ∀ b, b < A.heap.size → T b → S b) : Kept T A B :=
  ⟨h.os, h.tape, h.output, h.size, fun i hi ht => h.block i hi (hT i hi ht)⟩

theorem Kept.below {S : Nat → Prop} {A B : World} (h : Kept S A B) {n : Nat} (hn : ∀ b, b < n → S b) (hA : n ≤ A.heap.size) : Below n A B :=
  ⟨h.os, h.tape, h.output, h.size, fun i hi => h.block i (Nat.lt_of_lt_of_le hi hA) (hn i hi)⟩

theorem Kept.of_below {S : Nat → Prop} {A B : World} {n : Nat} (h : Below n A B) (hS : ∀ b, b < A.heap.size → S b → b < n) : Kept S A B :=
  ⟨h.os, h.tape, h.output, h.size, fun i hi hs => h.block i (hS i hi hs)⟩

theorem kt {S : Nat → Prop} {A B : World} (h : Below A.heap.size A B) : Kept S A B := Kept.of_below h (fun _ hb _ => hb)

theorem Kept.alloc (S : Nat → Prop) (A : World) (o : Obj) : Kept S A (A.alloc o) :=
  ⟨rfl, rfl, rfl, by simp, fun k hk _ => Below.heap_alloc _ _ _ hk⟩

theorem Kept.drew (S : Nat → Prop) (A : World) : Kept S A A.drew := ⟨rfl, rfl, rfl, Nat.le_refl _, fun _ _ _ => rfl⟩

theorem Kept.setCell (S : Nat → Prop) (A : World) (p : Addr) (v : Value) (h : ¬ S p.block) : Kept S A (A.setCell p v) :=
  ⟨rfl, rfl, rfl, by simp [World.setCell], fun k _ hs => Below.heap_setCell _ _ _ _ (fun e => h (e ▸ hs))⟩

theorem Kept.set {S : Nat → Prop} {A B : World} (k : Kept S A B) {p : Addr} {v : Value} (h : ¬ S p.block) : Kept S A (B.setCell p v) := k.trans (Kept.setCell S B p v h)

theorem Kept.cell {S : Nat → Prop} {A B : World} (h : Kept S A B) {p : Addr} (hl : p.block < A.heap.size) (hs : S p.block) : B.cell? p = A.cell? p :=
  World.cell?_of_block (w := A) (h.block p.block hl hs)

theorem Kept.frozen {S : Nat → Prop} {A B : World} (h : Kept S A B) {p : Addr} (hl : p.block < A.heap.size) (hs : S p.block) : B.frozen? p = A.frozen? p :=
  World.frozen?_of_block (w := A) (h.block p.block hl hs)

theorem Below.kept {A B : World} {n : Nat} {w : World} (h : Below n w A) {S : Nat → Prop} (k : Kept S A B) (hn : ∀ b, b < n → S b) (hw : n ≤ w.heap.size) : Below n w B :=
  h.trans (k.below hn (Nat.le_trans hw h.size))

theorem addr_add (b o j : Nat) : (⟨b, o, none⟩ : Addr).add j = ⟨b, o + j, none⟩ := by unfold Addr.add; split <;> simp_all

theorem hide {p : Prop} (h : p) : Hid p := h

/-- A row of cells: plain ones, and slices with the row of cells that they hold. -/
inductive Fo where
  | nil : Fo
  | v (x : Value) (r : Fo) : Fo
  | s (a : Option Addr) (n cap : Nat) (ks r : Fo) : Fo

def Fo.vals : Fo → List Value
  | .nil => []
  | .v x r => x :: r.vals
  | .s a n cap _ r => .slice a n cap :: r.vals

def Fo.len : Fo → Nat
  | .nil => 0
  | .v _ r => r.len + 1
  | .s _ _ _ _ r => r.len + 1

def Fo.size : Fo → Nat
  | .nil => 0
  | .v _ r => r.size + 1
  | .s _ _ _ ks r => ks.size + r.size + 1

def textSize : Value → Nat
  | .string t => t.size
  | _ => 0

/-- Elements of slices and bytes of texts. -/
def Fo.wt : Fo → Nat
  | .nil => 0
  | .v x r => textSize x + r.wt
  | .s _ n _ ks r => n + ks.wt + r.wt

/-- Plain cells. -/
def Fo.ct : Fo → Nat
  | .nil => 0
  | .v _ r => r.ct + 1
  | .s _ _ _ ks r => ks.ct + r.ct

/-- Plain cells within slices. -/
def Fo.sct : Fo → Nat
  | .nil => 0
  | .v _ r => r.sct
  | .s _ _ _ ks r => ks.ct + r.sct

def Fo.app : Fo → Fo → Fo
  | .nil, G => G
  | .v x r, G => .v x (r.app G)
  | .s a n cap ks r, G => .s a n cap ks (r.app G)

theorem Fo.vals_length : ∀ F : Fo, F.vals.length = F.len
  | .nil => rfl
  | .v _ r => by simp only [Fo.vals, Fo.len, List.length_cons, r.vals_length]
  | .s _ _ _ _ r => by simp only [Fo.vals, Fo.len, List.length_cons, r.vals_length]

theorem Fo.app_vals : ∀ F G : Fo, (F.app G).vals = F.vals ++ G.vals
  | .nil, _ => rfl
  | .v _ r, G => by simp only [Fo.app, Fo.vals, r.app_vals G, List.cons_append]
  | .s _ _ _ _ r, G => by simp only [Fo.app, Fo.vals, r.app_vals G, List.cons_append]

theorem Fo.app_len : ∀ F G : Fo, (F.app G).len = F.len + G.len
  | .nil, _ => by simp [Fo.app, Fo.len]
  | .v _ r, G => by simp only [Fo.app, Fo.len, r.app_len G]; omega
  | .s _ _ _ _ r, G => by simp only [Fo.app, Fo.len, r.app_len G]; omega

theorem Fo.app_nil : ∀ F : Fo, F.app .nil = F
  | .nil => rfl
  | .v _ r => by simp only [Fo.app, r.app_nil]
  | .s _ _ _ _ r => by simp only [Fo.app, r.app_nil]

theorem Fo.app_assoc : ∀ F G H : Fo, (F.app G).app H = F.app (G.app H)
  | .nil, _, _ => rfl
  | .v _ r, G, H => by simp only [Fo.app, r.app_assoc G H]
  | .s _ _ _ _ r, G, H => by simp only [Fo.app, r.app_assoc G H]

theorem Fo.app_size : ∀ F G : Fo, (F.app G).size = F.size + G.size
  | .nil, _ => by simp [Fo.app, Fo.size]
  | .v _ r, G => by simp only [Fo.app, Fo.size, r.app_size G]; omega
  | .s _ _ _ _ r, G => by simp only [Fo.app, Fo.size, r.app_size G]; omega

theorem Fo.app_wt : ∀ F G : Fo, (F.app G).wt = F.wt + G.wt
  | .nil, _ => by simp [Fo.app, Fo.wt]
  | .v _ r, G => by simp only [Fo.app, Fo.wt, r.app_wt G]; omega
  | .s _ _ _ _ r, G => by simp only [Fo.app, Fo.wt, r.app_wt G]; omega

theorem Fo.app_ct : ∀ F G : Fo, (F.app G).ct = F.ct + G.ct
  | .nil, _ => by simp [Fo.app, Fo.ct]
  | .v _ r, G => by simp only [Fo.app, Fo.ct, r.app_ct G]; omega
  | .s _ _ _ _ r, G => by simp only [Fo.app, Fo.ct, r.app_ct G]; omega

/-- The values lie in block b from cell o on. -/
def Cel (W : World) (L : List Value) (b o : Nat) : Prop := ∀ i v, L[i]? = some v → W.cell? ⟨b, o + i, none⟩ = some v

theorem Cel.keep {A B : World} {L : List Value} {b o : Nat} (h : Cel A L b o) (k : ∀ j, o ≤ j → j < o + L.length → ∀ v, A.cell? ⟨b, j, none⟩ = some v → B.cell? ⟨b, j, none⟩ = some v) : Cel B L b o := fun i v hv => by
  have hi : i < L.length := (List.getElem?_eq_some_iff.1 hv).1
  exact k (o + i) (by omega) (by omega) v (h i v hv)

theorem Cel.below {A B : World} {n : Nat} {L : List Value} {b o : Nat} (h : Cel A L b o) (k : Below n A B) (hb : b < n) : Cel B L b o := fun i v hv => (k.cell (p := ⟨b, o + i, none⟩) hb).trans (h i v hv)

theorem Cel.kept {A B : World} {S : Nat → Prop} {L : List Value} {b o : Nat} (h : Cel A L b o) (k : Kept S A B) (hb : b < A.heap.size) (hs : S b) : Cel B L b o := fun i v hv => (k.cell (p := ⟨b, o + i, none⟩) hb hs).trans (h i v hv)

theorem Cel.left {W : World} {L M : List Value} {b o : Nat} (h : Cel W (L ++ M) b o) : Cel W L b o := fun i v hv => by
  have hi : i < L.length := (List.getElem?_eq_some_iff.1 hv).1
  exact h i v (by rw [List.getElem?_append_left hi]; exact hv)

theorem Cel.right {W : World} {L M : List Value} {b o : Nat} (h : Cel W (L ++ M) b o) : Cel W M b (o + L.length) := fun i v hv => by
  have := h (L.length + i) v (by rw [List.getElem?_append_right (by omega)]; simpa using hv)
  rw [← Nat.add_assoc] at this
  exact this

theorem Cel.join {W : World} {L M : List Value} {b o : Nat} (h : Cel W L b o) (k : Cel W M b (o + L.length)) : Cel W (L ++ M) b o := fun i v hv => by
  by_cases hi : i < L.length
  · rw [List.getElem?_append_left hi] at hv; exact h i v hv
  · rw [List.getElem?_append_right (by omega)] at hv
    have := k (i - L.length) v hv
    have e : o + L.length + (i - L.length) = o + i := by omega
    rwa [e] at this

theorem Cel.nil (W : World) (b o : Nat) : Cel W [] b o := fun i v hv => by simp at hv

/-- What the slices of a row hold lies in blocks of S. -/
def Fo.Subs (W : World) (S : Nat → Prop) : Fo → Prop
  | .nil => True
  | .v _ r => r.Subs W S
  | .s a n cap ks r => (n ≤ cap ∧ cap ≤ maxLen ∧ (0 < ks.len → ∃ b o, a = some ⟨b, o, none⟩ ∧ S b ∧ Cel W ks.vals b o ∧ ks.Subs W S)) ∧ r.Subs W S

/-- A slice holds the row. -/
def Fo.Sub (W : World) (S : Nat → Prop) (a : Option Addr) (n cap : Nat) (ks : Fo) : Prop :=
  n ≤ cap ∧ cap ≤ maxLen ∧ (0 < ks.len → ∃ b o, a = some ⟨b, o, none⟩ ∧ S b ∧ Cel W ks.vals b o ∧ ks.Subs W S)

theorem Fo.Subs.keep {A B : World} {S T : Nat → Prop} (hT : ∀ b, S b → T b) (h2 : ∀ p : Addr, S p.block → ∀ v, A.cell? p = some v → B.cell? p = some v) : ∀ {F : Fo}, F.Subs A S → F.Subs B T
  | .nil, _ => trivial
  | .v _ r, h => Fo.Subs.keep hT h2 (F := r) h
  | .s _ _ _ ks r, ⟨⟨h1, h3, h4⟩, h5⟩ => ⟨⟨h1, h3, fun hl => by
      obtain ⟨b, o, e, s, c, x⟩ := h4 hl
      exact ⟨b, o, e, hT _ s, c.keep (fun j _ _ v hv => h2 ⟨b, j, none⟩ s v hv), Fo.Subs.keep hT h2 x⟩⟩, Fo.Subs.keep hT h2 h5⟩

theorem Fo.Sub.keep {A B : World} {S T : Nat → Prop} (hT : ∀ b, S b → T b) (h2 : ∀ p : Addr, S p.block → ∀ v, A.cell? p = some v → B.cell? p = some v) {a : Option Addr} {n cap : Nat} {F : Fo} (h : F.Sub A S a n cap) : F.Sub B T a n cap :=
  (Fo.Subs.keep hT h2 (F := .s a n cap F .nil) ⟨h, trivial⟩).1

theorem Fo.Subs.kept {A B : World} {S T : Nat → Prop} (k : Kept T A B) (hS : ∀ b, S b → T b ∧ b < A.heap.size) {F : Fo} (h : F.Subs A S) : F.Subs B S := h.keep (fun _ x => x) (fun _ hp _ hv => (k.cell (hS _ hp).2 (hS _ hp).1).trans hv)
theorem Fo.Sub.kept {A B : World} {S T : Nat → Prop} (k : Kept T A B) (hS : ∀ b, S b → T b ∧ b < A.heap.size) {a : Option Addr} {n cap : Nat} {F : Fo} (h : F.Sub A S a n cap) : F.Sub B S a n cap := h.keep (fun _ x => x) (fun _ hp _ hv => (k.cell (hS _ hp).2 (hS _ hp).1).trans hv)
theorem Fo.Subs.below {A B : World} {n : Nat} {S : Nat → Prop} (k : Below n A B) (hS : ∀ b, S b → b < n) {F : Fo} (h : F.Subs A S) : F.Subs B S := h.keep (fun _ x => x) (fun _ hp _ hv => (k.cell (hS _ hp)).trans hv)
theorem Fo.Sub.below {A B : World} {m : Nat} {S : Nat → Prop} (k : Below m A B) (hS : ∀ b, S b → b < m) {a : Option Addr} {n cap : Nat} {F : Fo} (h : F.Sub A S a n cap) : F.Sub B S a n cap := h.keep (fun _ x => x) (fun _ hp _ hv => (k.cell (hS _ hp)).trans hv)
theorem Fo.Subs.mono {A : World} {S T : Nat → Prop} (hT : ∀ b, S b → T b) {F : Fo} (h : F.Subs A S) : F.Subs A T := h.keep hT (fun _ _ _ x => x)
theorem Fo.Sub.mono {A : World} {S T : Nat → Prop} (hT : ∀ b, S b → T b) {a : Option Addr} {n cap : Nat} {F : Fo} (h : F.Sub A S a n cap) : F.Sub A T a n cap := h.keep hT (fun _ _ _ x => x)

theorem Fo.Subs.app {W : World} {S : Nat → Prop} : ∀ {F G : Fo}, F.Subs W S → G.Subs W S → (F.app G).Subs W S
  | .nil, _, _, h => h
  | .v _ r, _, h, k => Fo.Subs.app (F := r) h k
  | .s _ _ _ _ _, _, ⟨h, h'⟩, k => ⟨h, h'.app k⟩

theorem Fo.Subs.left {W : World} {S : Nat → Prop} : ∀ {F G : Fo}, (F.app G).Subs W S → F.Subs W S
  | .nil, _, _ => trivial
  | .v _ r, _, h => Fo.Subs.left (F := r) h
  | .s _ _ _ _ r, _, ⟨h, h'⟩ => ⟨h, Fo.Subs.left (F := r) h'⟩

theorem Fo.Subs.right {W : World} {S : Nat → Prop} : ∀ {F G : Fo}, (F.app G).Subs W S → G.Subs W S
  | .nil, _, h => h
  | .v _ r, _, h => Fo.Subs.right (F := r) h
  | .s _ _ _ _ r, _, ⟨_, h'⟩ => Fo.Subs.right (F := r) h'

/-- The same cells and slices, wherever they lie. -/
def Fo.sim : Fo → Fo → Prop
  | .nil, .nil => True
  | .v x r, .v y q => x = y ∧ r.sim q
  | .s _ n _ ks r, .s _ m _ js q => n = m ∧ ks.sim js ∧ r.sim q
  | _, _ => False

theorem Fo.sim_nil : ∀ {G : Fo}, G.sim .nil → G = .nil
  | .nil, _ => rfl
  | .v _ _, h => h.elim
  | .s _ _ _ _ _, h => h.elim
theorem Fo.sim_v : ∀ {G : Fo} {x : Value} {r : Fo}, G.sim (.v x r) → ∃ q, G = .v x q ∧ q.sim r
  | .v _ q, _, _, ⟨e, h⟩ => ⟨q, by rw [e], h⟩
  | .nil, _, _, h => h.elim
  | .s _ _ _ _ _, _, _, h => h.elim
theorem Fo.sim_s : ∀ {G : Fo} {a : Option Addr} {n cap : Nat} {ks r : Fo}, G.sim (.s a n cap ks r) → ∃ a' cap' js q, G = .s a' n cap' js q ∧ js.sim ks ∧ q.sim r
  | .s a' _ cap' js q, _, _, _, _, _, ⟨e, h1, h2⟩ => ⟨a', cap', js, q, by rw [e], h1, h2⟩
  | .nil, _, _, _, _, _, h => h.elim
  | .v _ _, _, _, _, _, _, h => h.elim

theorem Fo.sim.refl : ∀ F : Fo, F.sim F
  | .nil => trivial
  | .v _ r => ⟨rfl, Fo.sim.refl r⟩
  | .s _ _ _ ks r => ⟨rfl, Fo.sim.refl ks, Fo.sim.refl r⟩

theorem Fo.sim.symm : ∀ {F G : Fo}, F.sim G → G.sim F
  | .nil, _, h => by cases ‹Fo› <;> first | trivial | exact h.elim
  | .v _ r, .v _ q, ⟨a, b⟩ => ⟨a.symm, b.symm⟩
  | .s _ _ _ _ _, .s _ _ _ _ _, ⟨a, b, c⟩ => ⟨a.symm, b.symm, c.symm⟩
  | .v _ _, .nil, h => h.elim
  | .v _ _, .s _ _ _ _ _, h => h.elim
  | .s _ _ _ _ _, .nil, h => h.elim
  | .s _ _ _ _ _, .v _ _, h => h.elim

theorem Fo.sim.trans : ∀ {F G H : Fo}, F.sim G → G.sim H → F.sim H
  | .nil, .nil, _, _, h => h
  | .v _ _, .v _ _, .v _ _, ⟨a, b⟩, ⟨c, d⟩ => ⟨a.trans c, b.trans d⟩
  | .s _ _ _ _ _, .s _ _ _ _ _, .s _ _ _ _ _, ⟨a, b, c⟩, ⟨d, e, f⟩ => ⟨a.trans d, b.trans e, c.trans f⟩
  | .v _ _, .v _ _, .nil, _, h => h.elim
  | .v _ _, .v _ _, .s _ _ _ _ _, _, h => h.elim
  | .s _ _ _ _ _, .s _ _ _ _ _, .nil, _, h => h.elim
  | .s _ _ _ _ _, .s _ _ _ _ _, .v _ _, _, h => h.elim
  | .nil, .v _ _, _, h, _ => h.elim
  | .nil, .s _ _ _ _ _, _, h, _ => h.elim
  | .v _ _, .nil, _, h, _ => h.elim
  | .v _ _, .s _ _ _ _ _, _, h, _ => h.elim
  | .s _ _ _ _ _, .nil, _, h, _ => h.elim
  | .s _ _ _ _ _, .v _ _, _, h, _ => h.elim

theorem Fo.sim.facts : ∀ {F G : Fo}, F.sim G → F.len = G.len ∧ F.size = G.size ∧ F.wt = G.wt ∧ F.ct = G.ct ∧ F.sct = G.sct
  | .nil, .nil, _ => ⟨rfl, rfl, rfl, rfl, rfl⟩
  | .v _ _, .v _ _, ⟨e, h⟩ => by
    obtain ⟨h1, h2, h3, h4, h5⟩ := h.facts
    subst e
    simp only [Fo.len, Fo.size, Fo.wt, Fo.ct, Fo.sct, h1, h2, h3, h4, h5, and_self]
  | .s _ _ _ _ _, .s _ _ _ _ _, ⟨e, h, g⟩ => by
    obtain ⟨h1, h2, h3, h4, h5⟩ := h.facts
    obtain ⟨g1, g2, g3, g4, g5⟩ := g.facts
    subst e
    simp only [Fo.len, Fo.size, Fo.wt, Fo.ct, Fo.sct, h2, h3, h4, g1, g2, g3, g4, g5, and_self]
  | .nil, .v _ _, h => h.elim
  | .nil, .s _ _ _ _ _, h => h.elim
  | .v _ _, .nil, h => h.elim
  | .v _ _, .s _ _ _ _ _, h => h.elim
  | .s _ _ _ _ _, .nil, h => h.elim
  | .s _ _ _ _ _, .v _ _, h => h.elim

theorem Fo.sim.len {F G : Fo} (h : F.sim G) : F.len = G.len := h.facts.1
theorem Fo.sim.size {F G : Fo} (h : F.sim G) : F.size = G.size := h.facts.2.1
theorem Fo.sim.wt {F G : Fo} (h : F.sim G) : F.wt = G.wt := h.facts.2.2.1
theorem Fo.sim.ct {F G : Fo} (h : F.sim G) : F.ct = G.ct := h.facts.2.2.2.1
theorem Fo.sim.sct {F G : Fo} (h : F.sim G) : F.sct = G.sct := h.facts.2.2.2.2

theorem Fo.sim.app : ∀ {F F' G G' : Fo}, F.sim F' → G.sim G' → (F.app G).sim (F'.app G')
  | .nil, .nil, _, _, _, h => h
  | .v _ _, .v _ _, _, _, ⟨a, b⟩, h => ⟨a, b.app h⟩
  | .s _ _ _ _ _, .s _ _ _ _ _, _, _, ⟨a, b, c⟩, h => ⟨a, b, c.app h⟩
  | .nil, .v _ _, _, _, h, _ => h.elim
  | .nil, .s _ _ _ _ _, _, _, h, _ => h.elim
  | .v _ _, .nil, _, _, h, _ => h.elim
  | .v _ _, .s _ _ _ _ _, _, _, h, _ => h.elim
  | .s _ _ _ _ _, .nil, _, _, h, _ => h.elim
  | .s _ _ _ _ _, .v _ _, _, _, h, _ => h.elim

/-- What kind of cell: a number, a truth, a text, a slice of the kind k. -/
inductive Fld where
  | i : Fld
  | b : Fld
  | t : Fld
  | s (k : Nat) : Fld

def rep (fs : List Fld) : Nat → List Fld
  | 0 => []
  | n + 1 => fs ++ rep fs n

/-- The row is of these kinds. -/
def Fit (E : Nat → List Fld) : Fo → List Fld → Prop
  | .nil, [] => True
  | .v (.int .i64 x) r, .i :: fs => (Lit.int .i64 x).wf = true ∧ Fit E r fs
  | .v (.bool _) r, .b :: fs => Fit E r fs
  | .v (.string x) r, .t :: fs => x.size ≤ maxLen ∧ Fit E r fs
  | .s _ n _ ks r, .s k :: fs => Fit E ks (rep (E k) n) ∧ Fit E r fs
  | _, _ => False

theorem fit_nil {E : Nat → List Fld} : ∀ {F : Fo}, Fit E F [] → F = .nil
  | .nil, _ => rfl
  | .v x _, h => by cases x <;> simp [Fit] at h
  | .s _ _ _ _ _, h => by simp [Fit] at h
theorem fit_i {E : Nat → List Fld} : ∀ {F : Fo} {fs : List Fld}, Fit E F (.i :: fs) → ∃ x r, F = .v (.int .i64 x) r ∧ (Lit.int .i64 x).wf = true ∧ Fit E r fs
  | .v (.int .i64 x) r, _, ⟨h1, h2⟩ => ⟨x, r, rfl, h1, h2⟩
  | .nil, _, h => by simp [Fit] at h
  | .s _ _ _ _ _, _, h => by simp [Fit] at h
theorem fit_t {E : Nat → List Fld} : ∀ {F : Fo} {fs : List Fld}, Fit E F (.t :: fs) → ∃ x r, F = .v (.string x) r ∧ x.size ≤ maxLen ∧ Fit E r fs
  | .v (.string x) r, _, ⟨h1, h2⟩ => ⟨x, r, rfl, h1, h2⟩
  | .nil, _, h => by simp [Fit] at h
  | .s _ _ _ _ _, _, h => by simp [Fit] at h
theorem fit_b {E : Nat → List Fld} : ∀ {F : Fo} {fs : List Fld}, Fit E F (.b :: fs) → ∃ x r, F = .v (.bool x) r ∧ Fit E r fs
  | .v (.bool x) r, _, h => ⟨x, r, rfl, h⟩
  | .nil, _, h => by simp [Fit] at h
  | .s _ _ _ _ _, _, h => by simp [Fit] at h
theorem fit_s {E : Nat → List Fld} {k : Nat} : ∀ {F : Fo} {fs : List Fld}, Fit E F (.s k :: fs) → ∃ a n cap ks r, F = .s a n cap ks r ∧ Fit E ks (rep (E k) n) ∧ Fit E r fs
  | .s a n cap ks r, _, ⟨h1, h2⟩ => ⟨a, n, cap, ks, r, rfl, h1, h2⟩
  | .nil, _, h => by simp [Fit] at h
  | .v x _, _, h => by cases x <;> simp [Fit] at h

end Go.Proofs.Ytcnbnhoeobdbnaa.U

namespace Go.Proofs.Ytcnbnhoeobdbnaa.U
open Go.RowKit Go.Joins

theorem Fit.split {E : Nat → List Fld} : ∀ {F : Fo} {fs gs : List Fld}, Fit E F (fs ++ gs) → ∃ x r, F = x.app r ∧ Fit E x fs ∧ Fit E r gs ∧ x.len = fs.length := by
  intro F fs
  induction fs generalizing F with
  | nil => intro gs h; exact ⟨.nil, F, rfl, trivial, h, rfl⟩
  | cons f fs ih =>
    intro gs h
    cases f with
    | i =>
      obtain ⟨x, r, rfl, hx, hr⟩ := fit_i h
      obtain ⟨y, q, rfl, h1, h2, h3⟩ := ih hr
      exact ⟨.v (.int .i64 x) y, q, rfl, ⟨hx, h1⟩, h2, by simp only [Fo.len, h3, List.length_cons]⟩
    | b =>
      obtain ⟨x, r, rfl, hr⟩ := fit_b h
      obtain ⟨y, q, rfl, h1, h2, h3⟩ := ih hr
      exact ⟨.v (.bool x) y, q, rfl, h1, h2, by simp only [Fo.len, h3, List.length_cons]⟩
    | t =>
      obtain ⟨x, r, rfl, hx, hr⟩ := fit_t h
      obtain ⟨y, q, rfl, h1, h2, h3⟩ := ih hr
      exact ⟨.v (.string x) y, q, rfl, ⟨hx, h1⟩, h2, by simp only [Fo.len, h3, List.length_cons]⟩
    | s k =>
      obtain ⟨a, n, cap, ks, r, rfl, hx, hr⟩ := fit_s h
      obtain ⟨y, q, rfl, h1, h2, h3⟩ := ih hr
      exact ⟨.s a n cap ks y, q, rfl, ⟨hx, h1⟩, h2, by simp only [Fo.len, h3, List.length_cons]⟩

theorem Fit.next {E : Nat → List Fld} {r : Fo} {fs : List Fld} {n i : Nat} (h : Fit E r (rep fs (n - i))) (hi : i < n) : ∃ x q, r = x.app q ∧ Fit E x fs ∧ Fit E q (rep fs (n - (i + 1))) ∧ x.len = fs.length := by
  have e : n - i = (n - (i + 1)) + 1 := by omega
  rw [e] at h
  exact Fit.split h

theorem Fit.done {E : Nat → List Fld} {r : Fo} {fs : List Fld} {n i : Nat} (h : Fit E r (rep fs (n - i))) (hi : ¬ i < n) : r = .nil := by
  have e : n - i = 0 := by omega
  rw [e] at h
  exact fit_nil h

theorem Fit.app {E : Nat → List Fld} : ∀ {F G : Fo} {fs gs : List Fld}, Fit E F fs → Fit E G gs → Fit E (F.app G) (fs ++ gs) := by
  intro F G fs
  induction fs generalizing F with
  | nil => intro gs h k; rw [fit_nil h]; exact k
  | cons f fs ih =>
    intro gs h k
    cases f with
    | i => obtain ⟨x, r, rfl, hx, hr⟩ := fit_i h; exact ⟨hx, ih hr k⟩
    | b => obtain ⟨x, r, rfl, hr⟩ := fit_b h; exact ih hr k
    | t => obtain ⟨x, r, rfl, hx, hr⟩ := fit_t h; exact ⟨hx, ih hr k⟩
    | s k' => obtain ⟨a, n, cap, ks, r, rfl, hx, hr⟩ := fit_s h; exact ⟨hx, ih hr k⟩

theorem rep_snoc (fs : List Fld) : ∀ n, rep fs n ++ fs = rep fs (n + 1)
  | 0 => by simp [rep]
  | n + 1 => by rw [rep, List.append_assoc, rep_snoc fs n]; rfl

theorem rep_len (fs : List Fld) : ∀ n, (rep fs n).length = n * fs.length
  | 0 => by simp [rep]
  | n + 1 => by rw [rep, List.length_append, rep_len fs n, Nat.add_mul]; omega

theorem Fit.len {E : Nat → List Fld} : ∀ {F : Fo} {fs : List Fld}, Fit E F fs → F.len = fs.length := by
  intro F fs h
  have := Fit.split (F := F) (fs := fs) (gs := []) (by rw [List.append_nil]; exact h)
  obtain ⟨x, r, rfl, -, h2, h3⟩ := this
  rw [fit_nil h2, Fo.app_nil]
  exact h3

theorem Fo.sim.fit {E : Nat → List Fld} : ∀ {F G : Fo} {fs : List Fld}, G.sim F → Fit E F fs → Fit E G fs := by
  intro F
  induction F with
  | nil => intro G fs hs h; rw [Fo.sim_nil hs]; exact h
  | v x r ih =>
    intro G fs hs h
    obtain ⟨q, rfl, hq⟩ := Fo.sim_v hs
    cases fs with
    | nil => exact absurd (fit_nil h) (by simp)
    | cons f fs =>
      cases f with
      | i => obtain ⟨y, r', e, hy, hr⟩ := fit_i h; cases e; exact ⟨hy, ih hq hr⟩
      | b => obtain ⟨y, r', e, hr⟩ := fit_b h; cases e; exact (show Fit E q fs from ih hq hr)
      | t => obtain ⟨y, r', e, hy, hr⟩ := fit_t h; cases e; exact ⟨hy, ih hq hr⟩
      | s k => obtain ⟨a, n, cap, ks, r', e, -⟩ := fit_s h; cases e
  | s a n cap ks r ihk ih =>
    intro G fs hs h
    obtain ⟨a', cap', js, q, rfl, hj, hq⟩ := Fo.sim_s hs
    cases fs with
    | nil => exact absurd (fit_nil h) (by simp)
    | cons f fs =>
      cases f with
      | i => obtain ⟨y, r', e, -⟩ := fit_i h; cases e
      | b => obtain ⟨y, r', e, -⟩ := fit_b h; cases e
      | t => obtain ⟨y, r', e, -⟩ := fit_t h; cases e
      | s k => obtain ⟨a1, n1, cap1, ks1, r', e, hk, hr⟩ := fit_s h; cases e; exact ⟨ihk hj hk, ih hq hr⟩

theorem Fo.size_app_lt {F x r : Fo} (h : F = x.app r) : x.size ≤ F.size ∧ r.size ≤ F.size := by rw [h, Fo.app_size]; omega

/-- The block of a row that is not empty. -/
def blk : Option Addr → Nat → List Nat
  | some a, _ + 1 => [a.block]
  | _, _ => []

theorem blk_pos {a : Addr} {n : Nat} (h : 0 < n) : blk (some a) n = [a.block] := by
  cases n with
  | zero => omega
  | succ n => rfl

theorem blk_zero (a : Option Addr) : blk a 0 = [] := by cases a <;> rfl

/-- The blocks of the rows within a row. -/
def Fo.inn : Fo → List Nat
  | .nil => []
  | .v _ r => r.inn
  | .s a _ _ ks r => (blk a ks.len ++ ks.inn) ++ r.inn

theorem Fo.inn_app : ∀ F G : Fo, (F.app G).inn = F.inn ++ G.inn
  | .nil, _ => rfl
  | .v _ r, G => by simp only [Fo.app, Fo.inn, r.inn_app]
  | .s _ _ _ _ r, G => by simp only [Fo.app, Fo.inn, r.inn_app, List.append_assoc]

theorem Fo.len_zero : ∀ {F : Fo}, ¬ 0 < F.len → F = .nil
  | .nil, _ => rfl
  | .v _ _, h => by simp [Fo.len] at h
  | .s _ _ _ _ _, h => by simp [Fo.len] at h

theorem Fo.Subs.own {W : World} {S : Nat → Prop} : ∀ {F : Fo}, F.Subs W S → F.Subs W (fun c => c ∈ F.inn)
  | .nil, _ => trivial
  | .v _ r, h => Fo.Subs.own (F := r) h
  | .s a n cap ks r, ⟨⟨h1, h2, h3⟩, h4⟩ => by
    refine ⟨⟨h1, h2, fun hl => ?_⟩, (Fo.Subs.own h4).mono (fun c hc => by simp only [Fo.inn, List.mem_append]; exact .inr hc)⟩
    obtain ⟨b, o, rfl, -, c, x⟩ := h3 hl
    exact ⟨b, o, rfl, by simp [Fo.inn, blk_pos hl], c, (Fo.Subs.own x).mono (fun c hc => by simp only [Fo.inn, List.mem_append]; exact .inl (.inr hc))⟩

/-- All blocks of a row lie where S says. -/
theorem Fo.Subs.inn_of {W : World} {S : Nat → Prop} : ∀ {F : Fo}, F.Subs W S → ∀ c, c ∈ F.inn → S c
  | .nil, _, c, hc => by simp [Fo.inn] at hc
  | .v _ r, h, c, hc => Fo.Subs.inn_of (F := r) h c hc
  | .s a n cap ks r, ⟨⟨h1, h2, h3⟩, h4⟩, c, hc => by
    simp only [Fo.inn, List.mem_append] at hc
    by_cases hl : 0 < ks.len
    · obtain ⟨b, o, rfl, s, -, x⟩ := h3 hl
      rcases hc with (hc | hc) | hc
      · rw [blk_pos hl] at hc
        simp at hc
        rw [hc]
        exact s
      · exact Fo.Subs.inn_of x c hc
      · exact Fo.Subs.inn_of h4 c hc
    · rw [Fo.len_zero hl] at hc
      simp only [Fo.len, blk_zero, Fo.inn, List.not_mem_nil, false_or] at hc
      exact Fo.Subs.inn_of h4 c hc

/-- Blocks that may be written. -/
def Live (W : World) (L : List Nat) : Prop := ∀ c, c ∈ L → ∀ j, W.frozen? ⟨c, j, none⟩ = false

theorem Live.kept {A B : World} {L : List Nat} {S : Nat → Prop} (h : Live A L) (k : Kept S A B) (hS : ∀ c, c ∈ L → S c ∧ c < A.heap.size) : Live B L := fun c hc j =>
  (k.frozen (p := ⟨c, j, none⟩) (hS c hc).2 (hS c hc).1).trans (h c hc j)

theorem Live.below {A B : World} {L : List Nat} {n : Nat} (h : Live A L) (k : Below n A B) (hS : ∀ c, c ∈ L → c < n) : Live B L := fun c hc j =>
  (k.frozen (p := ⟨c, j, none⟩) (hS c hc)).trans (h c hc j)

theorem Live.sub {A : World} {L M : List Nat} (h : Live A L) (hs : ∀ c, c ∈ M → c ∈ L) : Live A M := fun c hc j => h c (hs c hc) j

theorem Live.set {A : World} {L : List Nat} (h : Live A L) (p : Addr) (v : Value) : Live (A.setCell p v) L := fun c hc j => by
  rw [World.frozen?_setCell]; exact h c hc j

theorem Live.app {A : World} {L M : List Nat} (h : Live A L) (k : Live A M) : Live A (L ++ M) := fun c hc j => by
  rcases List.mem_append.1 hc with x | x
  · exact h c x j
  · exact k c x j

/-- What is held lies in blocks of its own, from lo on. -/
structure Own (lo : Nat) (W : World) (F : Fo) : Prop where
  subs : F.Subs W (fun c => lo ≤ c ∧ c < W.heap.size)
  nodup : F.inn.Nodup
  live : Live W F.inn

theorem Own.nil (lo : Nat) (W : World) : Own lo W .nil := ⟨trivial, List.nodup_nil, fun c hc => by simp [Fo.inn] at hc⟩
theorem Own.v {lo : Nat} {W : World} {F : Fo} (x : Value) (h : Own lo W F) : Own lo W (.v x F) := ⟨h.subs, h.nodup, h.live⟩

theorem Own.kept {lo : Nat} {A B : World} {S : Nat → Prop} {F : Fo} (h : Own lo A F) (k : Kept S A B) (hS : ∀ c, lo ≤ c → c < A.heap.size → S c) : Own lo B F :=
  ⟨(h.subs.kept k (fun c x => ⟨hS c x.1 x.2, x.2⟩)).mono (fun _ x => ⟨x.1, Nat.lt_of_lt_of_le x.2 k.size⟩), h.nodup, h.live.kept k (fun c hc => have x := h.subs.inn_of c hc; ⟨hS c x.1 x.2, x.2⟩)⟩

theorem Own.below {lo : Nat} {A B : World} {F : Fo} (h : Own lo A F) (k : Below A.heap.size A B) : Own lo B F := h.kept (kt (S := fun _ => True) k) (fun _ _ _ => trivial)

theorem Own.mono {lo lo' : Nat} {A : World} {F : Fo} (h : Own lo A F) (hl : lo' ≤ lo) : Own lo' A F := ⟨h.subs.mono (fun _ x => ⟨Nat.le_trans hl x.1, x.2⟩), h.nodup, h.live⟩

theorem Own.app {lo : Nat} {A B : World} {F G : Fo} (h : Own lo A F) (k : Below A.heap.size A B) (hlo : lo ≤ A.heap.size) (g : Own A.heap.size B G) : Own lo B (F.app G) := by
  have h' := h.below k
  refine ⟨h'.subs.app (g.mono hlo).subs, ?_, by rw [Fo.inn_app]; exact h'.live.app g.live⟩
  rw [Fo.inn_app, List.nodup_append]
  refine ⟨h.nodup, g.nodup, fun x hx y hy e => ?_⟩
  subst e
  have h1 := (h.subs.inn_of x hx).2
  have h2 := (g.subs.inn_of x hy).1
  omega

theorem Own.appk {lo : Nat} {A B : World} {S : Nat → Prop} {F G : Fo} (h : Own lo A F) (k : Kept S A B) (hS : ∀ c, lo ≤ c → c < A.heap.size → S c) (hlo : lo ≤ A.heap.size) (g : Own A.heap.size B G) : Own lo B (F.app G) := by
  have h' := h.kept k hS
  refine ⟨h'.subs.app (g.mono hlo).subs, ?_, by rw [Fo.inn_app]; exact h'.live.app g.live⟩
  rw [Fo.inn_app, List.nodup_append]
  refine ⟨h.nodup, g.nodup, fun x hx y hy e => ?_⟩
  subst e
  have h1 := (h.subs.inn_of x hx).2
  have h2 := (g.subs.inn_of x hy).1
  omega

theorem Own.cons {lo : Nat} {A B : World} {a : Option Addr} {n cap : Nat} {ks G : Fo} (h : Own lo A (.s a n cap ks .nil)) (k : Below A.heap.size A B) (hlo : lo ≤ A.heap.size) (g : Own A.heap.size B G) : Own lo B (.s a n cap ks G) := h.app k hlo g

/-- The digits of a number ahead of a text. -/
def dg (k : Nat) (o : ByteArray) : ByteArray := if _h : k = 0 then o else dg (k / 10) (⟨#[UInt8.ofNat (48 + k % 10)]⟩ ++ o)
termination_by k
decreasing_by omega
def mt (k : Nat) : ByteArray := ⟨#[109]⟩ ++ dg k ⟨#[]⟩

/-- A cell's mark. -/
def mkV : Value → Nat → Value
  | .int t _, k => .int t (k : Int)
  | .string _, k => .string (mt k)
  | .bool _, k => .bool (decide (k % 3 = 0))
  | x, _ => x

/-- A row marked, from k on. -/
def Fo.mk : Fo → Nat → Fo
  | .nil, _ => .nil
  | .v x r, k => .v (mkV x k) (r.mk (k + 1))
  | .s a n cap ks r, k => .s a n cap (ks.mk k) (r.mk (k + ks.ct))

/-- What slices hold, marked. -/
def Fo.mks : Fo → Nat → Fo
  | .nil, _ => .nil
  | .v x r, k => .v x (r.mks k)
  | .s a n cap ks r, k => .s a n cap (ks.mk k) (r.mks (k + ks.ct))

theorem Fo.mk_len : ∀ (F : Fo) (k : Nat), (F.mk k).len = F.len
  | .nil, _ => rfl
  | .v _ r, k => by simp only [Fo.mk, Fo.len, r.mk_len]
  | .s _ _ _ _ r, k => by simp only [Fo.mk, Fo.len, r.mk_len]

theorem Fo.mk_app : ∀ (F G : Fo) (k : Nat), (F.app G).mk k = (F.mk k).app (G.mk (k + F.ct))
  | .nil, _, _ => rfl
  | .v _ r, G, k => by
    simp only [Fo.app, Fo.mk, Fo.ct, r.mk_app]
    congr 3
    omega
  | .s _ _ _ ks r, G, k => by
    simp only [Fo.app, Fo.mk, Fo.ct, r.mk_app]
    congr 3
    omega

theorem Fo.mk_inn : ∀ (F : Fo) (k : Nat), (F.mk k).inn = F.inn
  | .nil, _ => rfl
  | .v _ r, k => by simp only [Fo.mk, Fo.inn, r.mk_inn]
  | .s _ _ _ ks r, k => by simp only [Fo.mk, Fo.inn, ks.mk_inn, r.mk_inn, ks.mk_len]

theorem Fo.mks_inn : ∀ (F : Fo) (k : Nat), (F.mks k).inn = F.inn
  | .nil, _ => rfl
  | .v _ r, k => by simp only [Fo.mks, Fo.inn, r.mks_inn]
  | .s _ _ _ ks r, k => by simp only [Fo.mks, Fo.inn, ks.mk_inn, r.mks_inn, ks.mk_len]

end Go.Proofs.Ytcnbnhoeobdbnaa.U

namespace Go.Proofs.Ytcnbnhoeobdbnaa.U
open Go.RowKit Go.Joins

theorem ret_int {k : IntKind} {a b : Int} (h : a = b) : Ending.returned (.int k a) = .returned (.int k b) := by rw [h]

/-- The law's own reckoning of sizes. -/
def szV (left : Int) (n : Nat) : Int := if left < n then -1 else left - n
theorem szV_lt {left : Int} {n : Nat} (h : left < n) : szV left n = -1 := if_pos h
theorem szV_ge {left : Int} {n : Nat} (h : ¬ left < n) : szV left n = left - n := if_neg h

/-- A box of our own. -/
structure Bx (W : World) (b : Nat) (L : List Value) : Prop where
  lt : b < W.heap.size
  cel : ∀ i v, L[i]? = some v → W.cell? ⟨b, i, none⟩ = some v
  live : ∀ j, W.frozen? ⟨b, j, none⟩ = false

theorem Bx.new (W : World) (L : List Value) (t : TypeId) : Bx (W.alloc (.cells L.toArray t)) W.heap.size L :=
  ⟨by simp, fun i v hv => by
    obtain ⟨hi, e⟩ := List.getElem?_eq_some_iff.1 hv
    simp [hi, e], fun j => by simp⟩

theorem Bx.kept {A B : World} {b : Nat} {L : List Value} {S : Nat → Prop} (h : Bx A b L) (k : Kept S A B) (hb : S b) : Bx B b L :=
  ⟨Nat.lt_of_lt_of_le h.lt k.size, fun i v hv => (k.cell (p := ⟨b, i, none⟩) h.lt hb).trans (h.cel i v hv), fun j => (k.frozen (p := ⟨b, j, none⟩) h.lt hb).trans (h.live j)⟩

theorem Bx.below {A B : World} {b : Nat} {L : List Value} (h : Bx A b L) (k : Below A.heap.size A B) : Bx B b L := h.kept (kt (S := fun _ => True) k) trivial
theorem Bx.belown {A B : World} {b n : Nat} {L : List Value} (h : Bx A b L) (k : Below n A B) (hb : b < n) : Bx B b L := h.kept (Kept.of_below (S := fun c => c = b) k (fun c _ e => by omega)) rfl

/-- Room for n cells. -/
def Room (W : World) (g n : Nat) : Prop := ∀ j, j < n → (∃ v, W.cell? ⟨g, j, none⟩ = some v) ∧ W.frozen? ⟨g, j, none⟩ = false

theorem Room.below {A B : World} {n g m : Nat} (h : Room A g m) (k : Below n A B) (hg : g < n) : Room B g m := fun j hj => by
  obtain ⟨⟨v, hv⟩, hf⟩ := h j hj
  exact ⟨⟨v, (k.cell (p := ⟨g, j, none⟩) hg).trans hv⟩, (k.frozen (p := ⟨g, j, none⟩) hg).trans hf⟩

theorem Room.set {A : World} {g m : Nat} (h : Room A g m) (p : Addr) (v : Value) : Room (A.setCell p v) g m := fun j hj => by
  obtain ⟨⟨u, hu⟩, hf⟩ := h j hj
  refine ⟨?_, by rw [World.frozen?_setCell]; exact hf⟩
  by_cases e : (⟨g, j, none⟩ : Addr) = p
  · subst e
    exact ⟨v, World.cell?_setCell_same' _ _ _ (by rw [hu]; rfl)⟩
  · exact ⟨u, by rw [World.cell?_setCell_other _ _ _ _ (fun h => e h.symm)]; exact hu⟩

theorem Room.made (w : World) (cur : Array Value) (t : TypeId) : Room (w.alloc (.cells cur t)) w.heap.size cur.size := fun j hj =>
  ⟨⟨cur[j], by simp [hj]⟩, by simp⟩

/-- Values stored one behind the other. -/
def setL (W : World) (b o : Nat) : List Value → World
  | [] => W
  | v :: L => setL (W.setCell ⟨b, o, none⟩ v) b (o + 1) L

theorem setL_kept : ∀ (L : List Value) (W : World) (b o : Nat), Kept (fun c => c ≠ b) W (setL W b o L)
  | [], W, _, _ => Kept.refl _ W
  | v :: L, W, b, o => (Kept.setCell _ W ⟨b, o, none⟩ v (by simp)).trans (setL_kept L _ b (o + 1))

theorem setL_size : ∀ (L : List Value) (W : World) (b o : Nat), (setL W b o L).heap.size = W.heap.size
  | [], _, _, _ => rfl
  | v :: L, W, b, o => by rw [setL, setL_size L]; simp [World.setCell]

theorem setL_live : ∀ (L : List Value) {W : World} (b o : Nat) {M : List Nat}, Live W M → Live (setL W b o L) M
  | [], _, _, _, _, h => h
  | _ :: L, _, b, o, _, h => setL_live L b (o + 1) (h.set _ _)

theorem setL_room : ∀ (L : List Value) {W : World} (b o : Nat) {g m : Nat}, Room W g m → Room (setL W b o L) g m
  | [], _, _, _, _, _, h => h
  | _ :: L, _, b, o, _, _, h => setL_room L b (o + 1) (h.set _ _)

theorem setL_out : ∀ (L : List Value) (W : World) (b o j : Nat), (j < o ∨ o + L.length ≤ j) → (setL W b o L).cell? ⟨b, j, none⟩ = W.cell? ⟨b, j, none⟩
  | [], _, _, _, _, _ => rfl
  | v :: L, W, b, o, j, h => by
    simp only [List.length_cons] at h
    rw [setL, setL_out L _ b (o + 1) j (by omega), World.cell?_setCell_other _ _ _ _ (fun e => by have := congrArg Addr.off e; simp at this; omega)]

theorem setL_in : ∀ (L : List Value) (W : World) (b o : Nat), (∀ j, j < L.length → ∃ u, W.cell? ⟨b, o + j, none⟩ = some u) → Cel (setL W b o L) L b o
  | [], W, b, o, _ => Cel.nil _ b o
  | v :: L, W, b, o, h => by
    obtain ⟨u, hu⟩ := h 0 (by simp)
    have h0 : (setL W b o (v :: L)).cell? ⟨b, o, none⟩ = some v := by
      rw [setL, setL_out L _ b (o + 1) o (.inl (by omega))]
      exact World.cell?_setCell_same' _ _ _ (by rw [show W.cell? ⟨b, o, none⟩ = some u from hu]; rfl)
    have h1 := setL_in L (W.setCell ⟨b, o, none⟩ v) b (o + 1) (fun j hj => by
      obtain ⟨u, hu⟩ := h (j + 1) (by simp only [List.length_cons]; omega)
      refine ⟨u, ?_⟩
      rw [World.cell?_setCell_other _ _ _ _ (fun e => by have := congrArg Addr.off e; simp at this; omega)]
      have e : o + 1 + j = o + (j + 1) := by omega
      rw [e]
      exact hu)
    intro i x hx
    cases i with
    | zero => simp only [List.getElem?_cons_zero, Option.some.injEq] at hx; subst hx; exact h0
    | succ i =>
      simp only [List.getElem?_cons_succ] at hx
      have := h1 i x hx
      have e : o + 1 + i = o + (i + 1) := by omega
      rw [e] at this
      exact this

/-- A row that is gone through: what is left of it. -/
structure Rd (E : Nat → List Fld) (fs : List Fld) (n n0 : Nat) (a : Option Addr) (i : Nat) (r : Fo) (wr : World) : Prop where
  le : i ≤ n
  fit : Fit E r (rep fs (n - i))
  at_ : 0 < r.len → ∃ b o, a = some ⟨b, o, none⟩ ∧ b < n0 ∧ Cel wr r.vals b (o + i * fs.length) ∧ r.Subs wr (fun c => c < n0)

theorem Rd.start {E : Nat → List Fld} {fs : List Fld} {n n0 : Nat} {a : Option Addr} {cap : Nat} {F : Fo} {W : World} (hf : Fit E F (rep fs n)) (h : F.Sub W (fun c => c < n0) a n cap) : Rd E fs n n0 a 0 F W :=
  ⟨Nat.zero_le _, hf, fun hl => by obtain ⟨b, o, e, s, c, x⟩ := h.2.2 hl; exact ⟨b, o, e, s, by simpa using c, x⟩⟩

theorem Rd.below {E : Nat → List Fld} {fs : List Fld} {n n0 i m : Nat} {a : Option Addr} {r : Fo} {A B : World} (h : Rd E fs n n0 a i r A) (k : Below m A B) (hm : n0 ≤ m) : Rd E fs n n0 a i r B :=
  ⟨h.le, h.fit, fun hl => by obtain ⟨b, o, e, s, c, x⟩ := h.at_ hl; exact ⟨b, o, e, s, c.below k (by omega), x.below k (fun c hc => by omega)⟩⟩

theorem Rd.kept {E : Nat → List Fld} {fs : List Fld} {n n0 i : Nat} {S : Nat → Prop} {a : Option Addr} {r : Fo} {A B : World} (h : Rd E fs n n0 a i r A) (k : Kept S A B) (hm : n0 ≤ A.heap.size) (hS : ∀ c, c < n0 → S c) : Rd E fs n n0 a i r B :=
  ⟨h.le, h.fit, fun hl => by obtain ⟨b, o, e, s, c, x⟩ := h.at_ hl; exact ⟨b, o, e, s, c.kept k (by omega) (hS b s), x.kept k (fun c hc => ⟨hS c hc, by omega⟩)⟩⟩

theorem Rd.next {E : Nat → List Fld} {fs : List Fld} {n n0 i : Nat} {a : Option Addr} {r : Fo} {wr : World} (h : Rd E fs n n0 a i r wr) (hi : i < n) (hw : 0 < fs.length) :
    ∃ (x q : Fo) (b o : Nat), r = x.app q ∧ Fit E x fs ∧ a = some ⟨b, o, none⟩ ∧ b < n0 ∧ Cel wr x.vals b (o + i * fs.length) ∧ x.Subs wr (fun c => c < n0) ∧ Rd E fs n n0 a (i + 1) q wr := by
  obtain ⟨x, q, rfl, hx, hq, hl⟩ := h.fit.next hi
  obtain ⟨b, o, e, s, c, u⟩ := h.at_ (by rw [Fo.app_len]; omega)
  rw [Fo.app_vals] at c
  refine ⟨x, q, b, o, rfl, hx, e, s, c.left, u.left, ⟨hi, hq, fun _ => ⟨b, o, e, s, ?_, u.right⟩⟩⟩
  have := c.right
  rw [Fo.vals_length, hl] at this
  have e2 : o + i * fs.length + fs.length = o + (i + 1) * fs.length := by rw [Nat.add_mul]; omega
  rwa [e2] at this

theorem Rd.done {E : Nat → List Fld} {fs : List Fld} {n n0 i : Nat} {a : Option Addr} {r : Fo} {wr : World} (h : Rd E fs n n0 a i r wr) (hi : ¬ i < n) : r = .nil ∧ i = n :=
  ⟨h.fit.done hi, by have := h.le; omega⟩

/-- The same of a marked row. -/
structure RdM (E : Nat → List Fld) (fs : List Fld) (n n0 : Nat) (a : Option Addr) (i q : Nat) (r : Fo) (wr : World) : Prop where
  le : i ≤ n
  fit : Fit E r (rep fs (n - i))
  at_ : 0 < r.len → ∃ b o, a = some ⟨b, o, none⟩ ∧ b < n0 ∧ Cel wr (r.mk q).vals b (o + i * fs.length) ∧ (r.mk q).Subs wr (fun c => c < n0)

theorem RdM.start {E : Nat → List Fld} {fs : List Fld} {n n0 k : Nat} {a : Option Addr} {cap : Nat} {F : Fo} {W : World} (hf : Fit E F (rep fs n)) (h : (F.mk k).Sub W (fun c => c < n0) a n cap) : RdM E fs n n0 a 0 k F W :=
  ⟨Nat.zero_le _, hf, fun hl => by obtain ⟨b, o, e, s, c, x⟩ := h.2.2 (by rw [Fo.mk_len]; exact hl); exact ⟨b, o, e, s, by simpa using c, x⟩⟩

theorem RdM.below {E : Nat → List Fld} {fs : List Fld} {n n0 i q m : Nat} {a : Option Addr} {r : Fo} {A B : World} (h : RdM E fs n n0 a i q r A) (k : Below m A B) (hm : n0 ≤ m) : RdM E fs n n0 a i q r B :=
  ⟨h.le, h.fit, fun hl => by obtain ⟨b, o, e, s, c, x⟩ := h.at_ hl; exact ⟨b, o, e, s, c.below k (by omega), x.below k (fun c hc => by omega)⟩⟩

theorem RdM.next {E : Nat → List Fld} {fs : List Fld} {n n0 i q : Nat} {a : Option Addr} {r : Fo} {wr : World} (h : RdM E fs n n0 a i q r wr) (hi : i < n) (hw : 0 < fs.length) :
    ∃ (x y : Fo) (b o : Nat), r = x.app y ∧ Fit E x fs ∧ a = some ⟨b, o, none⟩ ∧ b < n0 ∧ Cel wr (x.mk q).vals b (o + i * fs.length) ∧ (x.mk q).Subs wr (fun c => c < n0) ∧ RdM E fs n n0 a (i + 1) (q + x.ct) y wr := by
  obtain ⟨x, y, rfl, hx, hq, hl⟩ := h.fit.next hi
  obtain ⟨b, o, e, s, c, u⟩ := h.at_ (by rw [Fo.app_len]; omega)
  rw [Fo.mk_app] at u
  rw [Fo.mk_app, Fo.app_vals] at c
  refine ⟨x, y, b, o, rfl, hx, e, s, c.left, u.left, ⟨hi, hq, fun _ => ⟨b, o, e, s, ?_, u.right⟩⟩⟩
  have := c.right
  rw [Fo.vals_length, Fo.mk_len, hl] at this
  have e2 : o + i * fs.length + fs.length = o + (i + 1) * fs.length := by rw [Nat.add_mul]; omega
  rwa [e2] at this

theorem RdM.done {E : Nat → List Fld} {fs : List Fld} {n n0 i q : Nat} {a : Option Addr} {r : Fo} {wr : World} (h : RdM E fs n n0 a i q r wr) (hi : ¬ i < n) : r = .nil ∧ i = n :=
  ⟨h.fit.done hi, by have := h.le; omega⟩

/-- A copy that is made, element by element. -/
structure ToI (fs : List Fld) (n : Nat) (F : Fo) (W : World) (i : Nat) (r Fp Gp : Fo) (wr : World) : Prop where
  eq : Fp.app r = F
  len : Fp.len = i * fs.length
  sim : Gp.sim Fp
  nodup : (W.heap.size :: Gp.inn).Nodup
  live : Live wr (W.heap.size :: Gp.inn)
  cel : Cel wr Gp.vals W.heap.size 0
  subs : Gp.Subs wr (fun c => W.heap.size + 1 ≤ c ∧ c < wr.heap.size)
  room : Room wr W.heap.size (n * fs.length)
  bel : Below W.heap.size W wr
  size : W.heap.size + 1 ≤ wr.heap.size

theorem ToI.start {fs : List Fld} {n : Nat} {F : Fo} {W : World} (cur : Array Value) (t : TypeId) (h : cur.size = n * fs.length) : ToI fs n F W 0 F .nil .nil (W.alloc (.cells cur t)) :=
  ⟨rfl, by simp [Fo.len], trivial, by simp [Fo.inn], fun c hc j => by simp only [Fo.inn, List.mem_singleton] at hc; subst hc; simp, Cel.nil _ _ _, trivial, by rw [← h]; exact Room.made W cur t, below_alloc1 _ _, by simp⟩

theorem ToI.step {fs : List Fld} {n i : Nat} {F x q Fp Gp G : Fo} {W wr w1 : World} (h : ToI fs n F W i (x.app q) Fp Gp wr) (hi : i < n) (hx : x.len = fs.length) (b1 : Below wr.heap.size wr w1) (hs : G.sim x) (ho : Own wr.heap.size w1 G) :
    ToI fs n F W (i + 1) q (Fp.app x) (Gp.app G) (setL w1 W.heap.size (i * fs.length) G.vals) := by
  have z1 := b1.size
  have zz := setL_size G.vals w1 W.heap.size (i * fs.length)
  have k4 := setL_kept G.vals w1 W.heap.size (i * fs.length)
  have hsz := h.size
  have hgl : Gp.len = i * fs.length := by rw [h.sim.len, h.len]
  have hGl : G.len = fs.length := by rw [hs.len, hx]
  have hnm : i * fs.length + fs.length ≤ n * fs.length := by
    have : (i + 1) * fs.length ≤ n * fs.length := Nat.mul_le_mul_right _ hi
    rw [Nat.add_mul] at this; omega
  refine ⟨by rw [Fo.app_assoc]; exact h.eq, by rw [Fo.app_len, h.len, hx, Nat.add_mul]; omega, h.sim.app hs, ?_, ?_, ?_, ?_, setL_room _ _ _ (h.room.below b1 (by omega)), ?_, by omega⟩
  · rw [Fo.inn_app, ← List.cons_append, List.nodup_append]
    refine ⟨h.nodup, ho.nodup, fun y hy z hz e => ?_⟩
    subst e
    have h1 := (ho.subs.inn_of y hz).1
    rcases List.mem_cons.1 hy with e | e
    · omega
    · have := (h.subs.inn_of y e).2; omega
  · rw [Fo.inn_app, ← List.cons_append]
    refine setL_live _ _ _ (Live.app (h.live.below b1 (fun c hc => ?_)) ho.live)
    rcases List.mem_cons.1 hc with e | e
    · omega
    · exact (h.subs.inn_of c e).2
  · rw [Fo.app_vals]
    refine Cel.join ?_ ?_
    · refine (h.cel.below b1 (by omega)).keep (fun j _ hj v hv => ?_)
      rw [Fo.vals_length, hgl] at hj
      rw [setL_out _ _ _ _ _ (.inl (by omega))]
      exact hv
    · rw [Fo.vals_length, hgl, Nat.zero_add]
      refine setL_in _ _ _ _ (fun j hj => ?_)
      rw [Fo.vals_length, hGl] at hj
      exact ((h.room.below b1 (by omega)) (i * fs.length + j) (by omega)).1
  · refine Fo.Subs.app ?_ ?_
    · exact ((h.subs.below b1 (fun c hc => hc.2)).kept k4 (fun c hc => ⟨by omega, by omega⟩)).mono (fun c hc => ⟨hc.1, by omega⟩)
    · exact (ho.subs.kept k4 (fun c hc => ⟨by omega, hc.2⟩)).mono (fun c hc => ⟨by omega, by omega⟩)
  · exact (h.bel.trans (b1.mono (by omega))).trans (k4.below (fun c hc => by show c ≠ _; omega) (by omega))

theorem blk_sub (b n : Nat) (L : List Nat) : (blk (some ⟨b, 0, none⟩) n ++ L).Sublist (b :: L) := by
  cases n with
  | zero => exact List.sublist_cons_self b L
  | succ n => exact List.Sublist.refl _

theorem ToI.finish {fs : List Fld} {n i : Nat} {F Fp Gp : Fo} {W wr : World} (h : ToI fs n F W i .nil Fp Gp wr) (hn : n ≤ 1048576) :
    Gp.sim F ∧ Below W.heap.size W wr ∧ Own W.heap.size wr (.s (some ⟨W.heap.size, 0, none⟩) n n Gp .nil) := by
  have e := h.eq
  rw [Fo.app_nil] at e
  subst e
  refine ⟨h.sim, h.bel, ⟨⟨⟨Nat.le_refl _, by simp only [maxLen]; omega, fun _ => ⟨_, _, rfl, ⟨Nat.le_refl _, by have := h.size; omega⟩, h.cel, h.subs.mono (fun c hc => ⟨by omega, hc.2⟩)⟩⟩, trivial⟩, ?_, ?_⟩⟩
  · simp only [Fo.inn, List.append_nil]; exact h.nodup.sublist (blk_sub _ _ _)
  · simp only [Fo.inn, List.append_nil]; exact h.live.sub (fun c hc => (blk_sub _ _ _).subset hc)

end Go.Proofs.Ytcnbnhoeobdbnaa.U

namespace Go.Proofs.Ytcnbnhoeobdbnaa.U
open Go.RowKit Go.Joins

theorem Bx.put {W : World} {b : Nat} {L : List Value} (h : Bx W b L) (i : Nat) (v : Value) (hi : i < L.length) : Bx (W.setCell ⟨b, i, none⟩ v) b (L.set i v) :=
  ⟨by simpa [World.setCell] using h.lt, fun j u hu => by
    by_cases e : j = i
    · subst e
      rw [List.getElem?_set_self hi] at hu
      simp only [Option.some.injEq] at hu
      subst hu
      exact World.cell?_setCell_same' _ _ _ (by rw [h.cel j _ (List.getElem?_eq_getElem hi)]; rfl)
    · rw [List.getElem?_set_ne (fun x => e x.symm)] at hu
      rw [World.cell?_setCell_other _ _ _ _ (fun x => by have := congrArg Addr.off x; simp at this; omega)]
      exact h.cel j u hu, fun j => by rw [World.frozen?_setCell]; exact h.live j⟩

/-- A row that is marked, cell by cell. -/
structure MkI (b o : Nat) (F : Fo) (k0 : Nat) (W : World) (Fp r : Fo) (wr : World) : Prop where
  eq : Fp.app r = F
  cel : Cel wr ((Fp.mk k0).app r).vals b o
  subs : ((Fp.mk k0).app r).Subs wr (fun c => c ∈ F.inn)
  kept : Kept (fun c => c ∉ b :: F.inn) W wr
  live : Live wr (b :: F.inn)
  lt : ∀ c, c ∈ b :: F.inn → c < W.heap.size
  nodup : (b :: F.inn).Nodup

theorem MkI.start {b o k0 n cap : Nat} {F : Fo} {W : World} (hl : 0 < F.len) (h : F.Sub W (fun c => c < W.heap.size) (some ⟨b, o, none⟩) n cap) (hnd : (blk (some ⟨b, o, none⟩) F.len ++ F.inn).Nodup) (hlv : Live W (blk (some ⟨b, o, none⟩) F.len ++ F.inn)) :
    MkI b o F k0 W .nil F W := by
  rw [blk_pos hl] at hnd hlv
  obtain ⟨b', o', e, hb, hc, hs⟩ := h.2.2 hl
  cases e
  exact ⟨rfl, hc, hs.own, Kept.refl _ _, hlv, fun c hc => by
    rcases List.mem_cons.1 hc with e | e
    · omega
    · exact hs.inn_of c e, hnd⟩

theorem MkI.below {b o k0 : Nat} {F Fp r : Fo} {W wr w1 : World} (h : MkI b o F k0 W Fp r wr) (k : Below wr.heap.size wr w1) : MkI b o F k0 W Fp r w1 := by
  have hz := h.kept.size
  have hlt : ∀ c, c ∈ b :: F.inn → c < wr.heap.size := fun c hc => by have := h.lt c hc; omega
  exact ⟨h.eq, h.cel.below k (hlt b List.mem_cons_self), h.subs.below k (fun c hc => hlt c (List.mem_cons_of_mem _ hc)), h.kept.trans (kt k), h.live.below k hlt, h.lt, h.nodup⟩

theorem MkI.cell {b o k0 p : Nat} {F Fp r : Fo} {x : Value} {W wr : World} (h : MkI b o F k0 W Fp (.v x r) wr) (hp : o + Fp.len = p) : wr.cell? ⟨b, p, none⟩ = some x := by
  have := h.cel Fp.len x (by rw [Fo.app_vals, List.getElem?_append_right (by rw [Fo.vals_length, Fo.mk_len]; omega), Fo.vals_length, Fo.mk_len, Nat.sub_self]; rfl)
  rwa [hp] at this

theorem MkI.slice {b o k0 p n cap : Nat} {F Fp ks r : Fo} {a : Option Addr} {W wr : World} (h : MkI b o F k0 W Fp (.s a n cap ks r) wr) (hp : o + Fp.len = p) : wr.cell? ⟨b, p, none⟩ = some (.slice a n cap) := by
  have := h.cel Fp.len (.slice a n cap) (by rw [Fo.app_vals, List.getElem?_append_right (by rw [Fo.vals_length, Fo.mk_len]; omega), Fo.vals_length, Fo.mk_len, Nat.sub_self]; rfl)
  rwa [hp] at this

theorem MkI.at_ {b o k0 p : Nat} {F Fp r : Fo} {W wr : World} (h : MkI b o F k0 W Fp r wr) (j : Nat) (x : Value) (hx : r.vals[j]? = some x) (hp : o + Fp.len + j = p) : wr.cell? ⟨b, p, none⟩ = some x := by
  have := h.cel (Fp.len + j) x (by rw [Fo.app_vals, List.getElem?_append_right (by rw [Fo.vals_length, Fo.mk_len]; omega), Fo.vals_length, Fo.mk_len, Nat.add_sub_cancel_left]; exact hx)
  rw [← Nat.add_assoc] at this
  rwa [hp] at this

theorem MkI.free {b o k0 : Nat} {F Fp r : Fo} {W wr : World} (h : MkI b o F k0 W Fp r wr) (p : Nat) : wr.frozen? ⟨b, p, none⟩ = false := h.live b List.mem_cons_self p

theorem MkI.blk_lt {b o k0 : Nat} {F Fp r : Fo} {W wr : World} (h : MkI b o F k0 W Fp r wr) : b < wr.heap.size := Nat.lt_of_lt_of_le (h.lt b List.mem_cons_self) h.kept.size

theorem MkI.set {b o k0 p q : Nat} {F Fp r : Fo} {x y : Value} {W wr : World} (h : MkI b o F k0 W Fp (.v x r) wr) (hp : o + Fp.len = p) (hq : k0 + Fp.ct = q) (hy : y = mkV x q) :
    MkI b o F k0 W (Fp.app (.v x .nil)) r (wr.setCell ⟨b, p, none⟩ y) := by
  subst hy
  have hz := h.kept.size
  have hc := h.cell hp
  have hbn : b ∉ F.inn := (List.nodup_cons.1 h.nodup).1
  have e1 : (((Fp.app (.v x .nil)).mk k0).app r) = (Fp.mk k0).app (.v (mkV x q) r) := by
    rw [Fo.mk_app, Fo.app_assoc, hq]; rfl
  refine ⟨by rw [Fo.app_assoc]; exact h.eq, ?_, ?_, h.kept.set (by simp), h.live.set _ _, h.lt, h.nodup⟩
  · rw [e1]
    intro i v hv
    rw [Fo.app_vals] at hv
    by_cases hi : i = Fp.len
    · subst hi
      rw [List.getElem?_append_right (by rw [Fo.vals_length, Fo.mk_len]; omega), Fo.vals_length, Fo.mk_len, Nat.sub_self] at hv
      simp only [Fo.vals, List.getElem?_cons_zero, Option.some.injEq] at hv
      subst hv
      rw [hp]
      exact World.cell?_setCell_same' _ _ _ (by rw [hc]; rfl)
    · rw [World.cell?_setCell_other _ _ _ _ (fun e => by have := congrArg Addr.off e; simp at this; omega)]
      refine h.cel i v ?_
      rw [Fo.app_vals]
      by_cases hl : i < Fp.len
      · rw [List.getElem?_append_left (by rw [Fo.vals_length, Fo.mk_len]; exact hl)] at hv ⊢
        exact hv
      · rw [List.getElem?_append_right (by rw [Fo.vals_length, Fo.mk_len]; omega)] at hv ⊢
        rw [Fo.vals_length, Fo.mk_len] at hv ⊢
        obtain ⟨m, hm⟩ : ∃ m, i - Fp.len = m + 1 := ⟨i - Fp.len - 1, by omega⟩
        rw [hm] at hv ⊢
        exact hv
  · rw [e1]
    have h1 : ((Fp.mk k0).app (.v (mkV x q) r)).Subs wr (fun c => c ∈ F.inn) := Fo.Subs.app h.subs.left (show r.Subs wr _ from h.subs.right)
    exact h1.keep (fun _ y => y) (fun p' hp' v hv => by
      rw [World.cell?_setCell_other _ _ _ _ (fun e => hbn (by have := congrArg Addr.block e; simp at this; rw [this]; exact hp'))]
      exact hv)

/-- What the call for a slice in the row wants. -/
theorem MkI.sub {b o k0 n cap : Nat} {F Fp ks r : Fo} {a : Option Addr} {W wr : World} (h : MkI b o F k0 W Fp (.s a n cap ks r) wr) :
    Fo.Subs wr (fun c => c < wr.heap.size) (.s a n cap ks .nil) ∧ (Fo.inn (.s a n cap ks .nil)).Nodup ∧ Live wr (Fo.inn (.s a n cap ks .nil)) := by
  have hz := h.kept.size
  have hs := h.subs.right
  have e := congrArg Fo.inn h.eq
  rw [Fo.inn_app] at e
  simp only [Fo.inn] at e
  have hnd := (List.nodup_cons.1 h.nodup).2
  rw [← e] at hnd
  simp only [Fo.inn, List.append_nil]
  refine ⟨⟨hs.1, trivial⟩ |> Fo.Subs.mono (F := .s a n cap ks .nil) (S := fun c => c ∈ F.inn) (fun c hc => by have := h.lt c (List.mem_cons_of_mem _ hc); omega), ?_, ?_⟩
  · exact (List.nodup_append.1 (List.nodup_append.1 hnd).2.1).1
  · exact h.live.sub (fun c hc => List.mem_cons_of_mem _ (by rw [← e]; exact List.mem_append.2 (.inr (List.mem_append.2 (.inl hc)))))

theorem MkI.call {b o k0 n cap q : Nat} {F Fp ks r : Fo} {a : Option Addr} {W wr w1 : World} (h : MkI b o F k0 W Fp (.s a n cap ks r) wr) (hq : k0 + Fp.ct = q)
    (k : Kept (fun c => c ∉ Fo.inn (.s a n cap ks .nil)) wr w1) (hs : Fo.Subs w1 (fun c => c < wr.heap.size) (Fo.mks (.s a n cap ks .nil) q)) (hl : Live w1 (Fo.inn (.s a n cap ks .nil))) :
    MkI b o F k0 W (Fp.app (.s a n cap ks .nil)) r w1 := by
  have hz := h.kept.size
  have e := congrArg Fo.inn h.eq
  rw [Fo.inn_app] at e
  simp only [Fo.inn] at e
  simp only [Fo.inn, List.append_nil] at k hl
  have hnd := h.nodup
  have hbn : b ∉ F.inn := (List.nodup_cons.1 hnd).1
  have hnd2 := (List.nodup_cons.1 hnd).2
  rw [← e] at hnd2
  obtain ⟨hn1, hn2, hn3⟩ := List.nodup_append.1 hnd2
  obtain ⟨hn4, hn5, hn6⟩ := List.nodup_append.1 hn2
  have hsub : ∀ c, c ∈ blk a ks.len ++ ks.inn → c ∈ F.inn := fun c hc => by rw [← e]; exact List.mem_append.2 (.inr (List.mem_append.2 (.inl hc)))
  have hlt : ∀ c, c ∈ b :: F.inn → c < wr.heap.size := fun c hc => by have := h.lt c hc; omega
  have e1 : (((Fp.app (.s a n cap ks .nil)).mk k0).app r) = (Fp.mk k0).app (.s a n cap (ks.mk q) r) := by
    rw [Fo.mk_app, Fo.app_assoc, hq]; rfl
  have e2 : ((Fp.mk k0).app (.s a n cap (ks.mk q) r)).vals = ((Fp.mk k0).app (.s a n cap ks r)).vals := by simp only [Fo.app_vals, Fo.vals]
  have hb : b ∉ blk a ks.len ++ ks.inn := fun hc => hbn (hsub b hc)
  refine ⟨by rw [Fo.app_assoc]; exact h.eq, ?_, ?_, h.kept.trans (k.mono (fun c _ hc hx => hc (List.mem_cons_of_mem _ (hsub c hx)))), ?_, h.lt, h.nodup⟩
  · rw [e1, e2]
    exact h.cel.kept k (hlt b List.mem_cons_self) hb
  · rw [e1]
    refine Fo.Subs.app ?_ ⟨?_, ?_⟩
    · have h1 := h.subs.left.own
      rw [Fo.mk_inn] at h1
      refine (h1.kept k (fun c hc => ⟨fun hx => hn3 c hc c (List.mem_append.2 (.inl hx)) rfl, hlt c (List.mem_cons_of_mem _ (by rw [← e]; exact List.mem_append.2 (.inl hc)))⟩)).mono (fun c hc => by rw [← e]; exact List.mem_append.2 (.inl hc))
    · have h2 := hs.own
      rw [Fo.mks_inn] at h2
      simp only [Fo.mks, Fo.inn, List.append_nil] at h2
      exact (h2.mono (T := fun c => c ∈ F.inn) hsub).1
    · have h3 : r.Subs wr (fun c => c ∈ F.inn) := h.subs.right.2
      refine (h3.own.kept k (fun c hc => ⟨fun hx => hn6 c hx c hc rfl, hlt c (List.mem_cons_of_mem _ (by rw [← e]; exact List.mem_append.2 (.inr (List.mem_append.2 (.inr hc)))))⟩)).mono (fun c hc => by rw [← e]; exact List.mem_append.2 (.inr (List.mem_append.2 (.inr hc))))
  · intro c hc j
    by_cases hx : c ∈ blk a ks.len ++ ks.inn
    · exact hl c hx j
    · exact (k.frozen (p := ⟨c, j, none⟩) (hlt c hc) hx).trans (h.live c hc j)

theorem MkI.finish {b o k0 n cap : Nat} {F Fp : Fo} {W wr : World} (h : MkI b o F k0 W Fp .nil wr) (hn : n ≤ cap) (hc : cap ≤ maxLen) (hl : 0 < F.len) :
    Fp = F ∧ Fo.Subs wr (fun c => c < W.heap.size) (Fo.mks (.s (some ⟨b, o, none⟩) n cap F .nil) k0) ∧ Kept (fun c => c ∉ Fo.inn (.s (some ⟨b, o, none⟩) n cap F .nil)) W wr ∧ Live wr (Fo.inn (.s (some ⟨b, o, none⟩) n cap F .nil)) := by
  have e := h.eq
  rw [Fo.app_nil] at e
  subst e
  have hce := h.cel
  have hsu := h.subs
  rw [Fo.app_nil] at hce hsu
  simp only [Fo.inn, blk_pos hl, List.append_nil, List.singleton_append]
  exact ⟨trivial, ⟨⟨hn, hc, fun _ => ⟨b, o, rfl, h.lt b List.mem_cons_self, hce, hsu.mono (fun c hc => h.lt c (List.mem_cons_of_mem _ hc))⟩⟩, trivial⟩, h.kept, h.live⟩

theorem mt_size (k : Nat) (h0 : 0 < k) (hk : k ≤ 4294967296) : (mt k).size ≤ maxLen := by
  have key : ∀ (n j : Nat) (o : ByteArray), j ≤ n → (dg j o).size ≤ j + o.size := by
    intro n
    induction n with
    | zero => intro j o hj; rw [dg.eq_def, dif_pos (by omega)]; omega
    | succ n ih =>
      intro j o hj
      rw [dg.eq_def]
      split
      · omega
      · have := ih (j / 10) (⟨#[UInt8.ofNat (48 + j % 10)]⟩ ++ o) (by omega)
        rw [ByteArray.size_append] at this
        have e : (⟨#[UInt8.ofNat (48 + j % 10)]⟩ : ByteArray).size = 1 := rfl
        omega
  have h1 := key k k ⟨#[]⟩ (Nat.le_refl _)
  unfold mt
  rw [ByteArray.size_append]
  have e : (⟨#[109]⟩ : ByteArray).size = 1 := rfl
  have e2 : (⟨#[]⟩ : ByteArray).size = 0 := rfl
  unfold maxLen
  omega

/-- The laws' own functions: sizes. -/
def SzC (P : Program) (E : Nat → List Fld) (f : FuncId) (fs : List Fld) (m : Nat) : Prop := ∀ (F : Fo) (n0 : Nat) (left : Int) (W : World), F.size ≤ m → Fit E F fs → n0 ≤ W.heap.size → 0 ≤ left → left ≤ 1048576 → F.Subs W (fun c => c < n0) →
  Calls P f #[.agg F.vals.toArray, .int .i64 left] W fun e W' => e = .returned (.int .i64 (szV left F.wt)) ∧ Below W.heap.size W W'
def SzR (P : Program) (E : Nat → List Fld) (f : FuncId) (fs : List Fld) (m : Nat) : Prop := ∀ (F : Fo) (n n0 : Nat) (left : Int) (W : World) (a : Option Addr) (cap : Nat), F.size ≤ m → Fit E F (rep fs n) → n0 ≤ W.heap.size → 0 ≤ left → left ≤ 1048576 → F.Sub W (fun c => c < n0) a n cap →
  Calls P f #[.slice a n cap, .int .i64 left] W fun e W' => e = .returned (.int .i64 (szV left (n + F.wt))) ∧ Below W.heap.size W W'
/-- .. copies. -/
def ToC (P : Program) (E : Nat → List Fld) (f : FuncId) (fs : List Fld) (m : Nat) : Prop := ∀ (F : Fo) (n0 : Nat) (W : World), F.size ≤ m → Fit E F fs → n0 ≤ W.heap.size → F.wt ≤ 1048576 → F.Subs W (fun c => c < n0) →
  Calls P f #[.agg F.vals.toArray] W fun e W' => ∃ G : Fo, e = .returned (.agg G.vals.toArray) ∧ G.sim F ∧ Below W.heap.size W W' ∧ Own W.heap.size W' G
def ToR (P : Program) (E : Nat → List Fld) (f : FuncId) (fs : List Fld) (m : Nat) : Prop := ∀ (F : Fo) (n n0 : Nat) (W : World) (a : Option Addr) (cap : Nat), F.size ≤ m → Fit E F (rep fs n) → n0 ≤ W.heap.size → n + F.wt ≤ 1048576 → F.Sub W (fun c => c < n0) a n cap →
  Calls P f #[.slice a n cap] W fun e W' => ∃ (b : Nat) (G : Fo), e = .returned (.slice (some ⟨b, 0, none⟩) n n) ∧ G.sim F ∧ Below W.heap.size W W' ∧ Own W.heap.size W' (.s (some ⟨b, 0, none⟩) n n G .nil)
/-- .. sameness. -/
def EqC (P : Program) (E : Nat → List Fld) (f : FuncId) (fs : List Fld) (m : Nat) : Prop := ∀ (F G : Fo) (n0 : Nat) (W : World), F.size ≤ m → Fit E F fs → n0 ≤ W.heap.size → G.sim F → F.Subs W (fun c => c < n0) → G.Subs W (fun c => c < n0) →
  Calls P f #[.agg F.vals.toArray, .agg G.vals.toArray] W fun e W' => e = .returned (.bool true) ∧ Below W.heap.size W W'
def EqR (P : Program) (E : Nat → List Fld) (f : FuncId) (fs : List Fld) (m : Nat) : Prop := ∀ (F G : Fo) (n n0 : Nat) (W : World) (a b : Option Addr) (cap dap : Nat), F.size ≤ m → Fit E F (rep fs n) → n0 ≤ W.heap.size → G.sim F → F.Sub W (fun c => c < n0) a n cap → G.Sub W (fun c => c < n0) b n dap →
  Calls P f #[.slice a n cap, .slice b n dap] W fun e W' => e = .returned (.bool true) ∧ Below W.heap.size W W'
/-- .. marks: of what the slices hold. -/
def MkC (P : Program) (E : Nat → List Fld) (f : FuncId) (fs : List Fld) (m : Nat) : Prop := ∀ (F : Fo) (k : Nat) (W : World), F.size < m → Fit E F fs → 0 < k → k + F.sct ≤ 4294967296 → F.Subs W (fun c => c < W.heap.size) → F.inn.Nodup → Live W F.inn →
  Calls P f #[.agg F.vals.toArray, .int .i64 k] W fun e W' => e = .returned (.int .i64 ((k + F.sct : Nat) : Int)) ∧ (F.mks k).Subs W' (fun c => c < W.heap.size) ∧ Kept (fun c => c ∉ F.inn) W W' ∧ Live W' F.inn
def MkR (P : Program) (E : Nat → List Fld) (f : FuncId) (fs : List Fld) (m : Nat) : Prop := ∀ (F : Fo) (n : Nat) (a : Option Addr) (cap k : Nat) (W : World), F.size < m → Fit E F (rep fs n) → 0 < k → k + F.ct ≤ 4294967296 → Fo.Subs W (fun c => c < W.heap.size) (.s a n cap F .nil) → (Fo.inn (.s a n cap F .nil)).Nodup → Live W (Fo.inn (.s a n cap F .nil)) →
  Calls P f #[.slice a n cap, .int .i64 k] W fun e W' => e = .returned (.int .i64 ((k + F.ct : Nat) : Int)) ∧ Fo.Subs W' (fun c => c < W.heap.size) (Fo.mks (.s a n cap F .nil) k) ∧ Kept (fun c => c ∉ Fo.inn (.s a n cap F .nil)) W W' ∧ Live W' (Fo.inn (.s a n cap F .nil))
/-- .. and whether they are there still. -/
def HdC (P : Program) (E : Nat → List Fld) (f : FuncId) (fs : List Fld) (m : Nat) : Prop := ∀ (F : Fo) (n0 k : Nat) (W : World), F.size < m → Fit E F fs → n0 ≤ W.heap.size → 0 < k → k + F.sct ≤ 4294967296 → (F.mks k).Subs W (fun c => c < n0) →
  Calls P f #[.agg F.vals.toArray, .int .i64 k] W fun e W' => e = .returned (.int .i64 ((k + F.sct : Nat) : Int)) ∧ Below W.heap.size W W'
def HdR (P : Program) (E : Nat → List Fld) (f : FuncId) (fs : List Fld) (m : Nat) : Prop := ∀ (F : Fo) (n n0 : Nat) (a : Option Addr) (cap k : Nat) (W : World), F.size < m → Fit E F (rep fs n) → n0 ≤ W.heap.size → 0 < k → k + F.ct ≤ 4294967296 → (F.mk k).Sub W (fun c => c < n0) a n cap →
  Calls P f #[.slice a n cap, .int .i64 k] W fun e W' => e = .returned (.int .i64 ((k + F.ct : Nat) : Int)) ∧ Below W.heap.size W W'

end Go.Proofs.Ytcnbnhoeobdbnaa.U

namespace Go.Proofs.Ytcnbnhoeobdbnaa.U
open Go.RowKit Go.Joins

theorem Fo.mks_app : ∀ (F G : Fo) (k : Nat), (F.app G).mks k = (F.mks k).app (G.mks (k + F.sct))
  | .nil, _, _ => rfl
  | .v _ r, G, k => by simp only [Fo.app, Fo.mks, Fo.sct, r.mks_app]
  | .s _ _ _ ks r, G, k => by
    simp only [Fo.app, Fo.mks, Fo.sct, r.mks_app]
    congr 3
    omega

theorem Fo.app_sct : ∀ F G : Fo, (F.app G).sct = F.sct + G.sct
  | .nil, _ => by simp [Fo.app, Fo.sct]
  | .v _ r, G => by simp only [Fo.app, Fo.sct, r.app_sct G]
  | .s _ _ _ _ r, G => by simp only [Fo.app, Fo.sct, r.app_sct G]; omega

/-- What the slices of a row hold is marked, piece by piece. -/
structure MkS (F : Fo) (k0 : Nat) (W : World) (Fp r : Fo) (wr : World) : Prop where
  eq : Fp.app r = F
  subs : ((Fp.mks k0).app r).Subs wr (fun c => c ∈ F.inn)
  kept : Kept (fun c => c ∉ F.inn) W wr
  live : Live wr F.inn
  lt : ∀ c, c ∈ F.inn → c < W.heap.size
  nodup : F.inn.Nodup

theorem MkS.start {F : Fo} {k0 : Nat} {W : World} (h : F.Subs W (fun c => c < W.heap.size)) (hnd : F.inn.Nodup) (hl : Live W F.inn) : MkS F k0 W .nil F W :=
  ⟨rfl, h.own, Kept.refl _ _, hl, h.inn_of, hnd⟩

theorem MkS.below {F Fp r : Fo} {k0 : Nat} {W wr w1 : World} (h : MkS F k0 W Fp r wr) (k : Below wr.heap.size wr w1) : MkS F k0 W Fp r w1 := by
  have hz := h.kept.size
  have hlt : ∀ c, c ∈ F.inn → c < wr.heap.size := fun c hc => by have := h.lt c hc; omega
  exact ⟨h.eq, h.subs.below k hlt, h.kept.trans (kt k), h.live.below k hlt, h.lt, h.nodup⟩

theorem MkS.sub {F Fp X r : Fo} {k0 : Nat} {W wr : World} (h : MkS F k0 W Fp (X.app r) wr) : X.Subs wr (fun c => c < wr.heap.size) ∧ X.inn.Nodup ∧ Live wr X.inn := by
  have hz := h.kept.size
  have e := congrArg Fo.inn h.eq
  rw [Fo.inn_app, Fo.inn_app] at e
  have hnd := h.nodup
  rw [← e] at hnd
  refine ⟨(h.subs.right.left).mono (fun c hc => by have := h.lt c hc; omega), (List.nodup_append.1 (List.nodup_append.1 hnd).2.1).1, h.live.sub (fun c hc => by rw [← e]; exact List.mem_append.2 (.inr (List.mem_append.2 (.inl hc))))⟩

theorem MkS.call {F Fp X r : Fo} {k0 q : Nat} {W wr w1 : World} (h : MkS F k0 W Fp (X.app r) wr) (hq : k0 + Fp.sct = q) (k : Kept (fun c => c ∉ X.inn) wr w1) (hs : (X.mks q).Subs w1 (fun c => c < wr.heap.size)) (hl : Live w1 X.inn) :
    MkS F k0 W (Fp.app X) r w1 := by
  have hz := h.kept.size
  have e := congrArg Fo.inn h.eq
  rw [Fo.inn_app, Fo.inn_app] at e
  have hnd := h.nodup
  rw [← e] at hnd
  obtain ⟨hn1, hn2, hn3⟩ := List.nodup_append.1 hnd
  obtain ⟨hn4, hn5, hn6⟩ := List.nodup_append.1 hn2
  have hsub : ∀ c, c ∈ X.inn → c ∈ F.inn := fun c hc => by rw [← e]; exact List.mem_append.2 (.inr (List.mem_append.2 (.inl hc)))
  have hlt : ∀ c, c ∈ F.inn → c < wr.heap.size := fun c hc => by have := h.lt c hc; omega
  refine ⟨by rw [Fo.app_assoc]; exact h.eq, ?_, h.kept.trans (k.mono (fun c _ hc hx => hc (hsub c hx))), ?_, h.lt, h.nodup⟩
  · rw [Fo.mks_app, Fo.app_assoc, hq]
    refine Fo.Subs.app ?_ (Fo.Subs.app ?_ ?_)
    · have h1 := h.subs.left.own
      rw [Fo.mks_inn] at h1
      exact (h1.kept k (fun c hc => ⟨fun hx => hn3 c hc c (List.mem_append.2 (.inl hx)) rfl, hlt c (by rw [← e]; exact List.mem_append.2 (.inl hc))⟩)).mono (fun c hc => by rw [← e]; exact List.mem_append.2 (.inl hc))
    · have h2 := hs.own
      rw [Fo.mks_inn] at h2
      exact h2.mono hsub
    · have h3 := h.subs.right.right
      exact (h3.own.kept k (fun c hc => ⟨fun hx => hn6 c hx c hc rfl, hlt c (by rw [← e]; exact List.mem_append.2 (.inr (List.mem_append.2 (.inr hc))))⟩)).mono (fun c hc => by rw [← e]; exact List.mem_append.2 (.inr (List.mem_append.2 (.inr hc))))
  · intro c hc j
    by_cases hx : c ∈ X.inn
    · exact hl c hx j
    · exact (k.frozen (p := ⟨c, j, none⟩) (hlt c hc) hx).trans (h.live c hc j)

theorem MkS.away {F Fp X r : Fo} {k0 b : Nat} {W wr : World} (h : MkS F k0 W Fp (X.app r) wr) (hb : W.heap.size ≤ b) : b ∉ X.inn := fun hx => by
  have e := congrArg Fo.inn h.eq
  rw [Fo.inn_app, Fo.inn_app] at e
  have := h.lt b (by rw [← e]; exact List.mem_append.2 (.inr (List.mem_append.2 (.inl hx))))
  omega

theorem MkS.skip {F Fp r : Fo} {k0 : Nat} {x : Value} {W wr : World} (h : MkS F k0 W Fp (.v x r) wr) : MkS F k0 W (Fp.app (.v x .nil)) r wr := by
  refine MkS.call (X := .v x .nil) (q := k0 + Fp.sct) h rfl (Kept.refl _ _) trivial (fun c hc => by simp [Fo.inn] at hc)

theorem MkS.finish {F Fp : Fo} {k0 : Nat} {W wr : World} (h : MkS F k0 W Fp .nil wr) : (F.mks k0).Subs wr (fun c => c < W.heap.size) ∧ Kept (fun c => c ∉ F.inn) W wr ∧ Live wr F.inn := by
  have e := h.eq
  rw [Fo.app_nil] at e
  subst e
  have hs := h.subs
  rw [Fo.app_nil] at hs
  exact ⟨hs.mono (fun c hc => h.lt c hc), h.kept, h.live⟩

end Go.Proofs.Ytcnbnhoeobdbnaa.U

namespace Go.Proofs.Ytcnbnhoeobdbnaa.U
open Go.RowKit Go.Joins

theorem heap_new (W : World) (o : Obj) : (W.alloc o).heap[W.heap.size]? = some o := (MapKept.heap_alloc W o).1

theorem list_ne {a b : ByteArray} (h : a ≠ b) : (a.toList == b.toList) = false := by
  rw [beq_eq_false_iff_ne]
  intro e
  rw [ByteArray.toList_eq, ByteArray.toList_eq] at e
  exact h (ByteArray.ext (Array.ext' e))

theorem Kept.grown {S : Nat → Prop} {A B : World} {row : Option Nat} (hg : A.grownBy B row) (h : ∀ k, row = some k → ¬ S k) : Kept S A B :=
  ⟨hg.os, hg.tape, hg.output, hg.size, fun k hk hs => hg.block k hk (fun e => h k e.symm hs)⟩

theorem Fit.one {E : Nat → List Fld} : ∀ {F : Fo} {fs : List Fld}, Fit E F fs → ∀ u ∈ F.vals, u.oneCell' = true := by
  intro F fs
  induction fs generalizing F with
  | nil => intro h; rw [fit_nil h]; intro u hu; simp [Fo.vals] at hu
  | cons f fs ih =>
    intro h u hu
    cases f with
    | i => obtain ⟨x, r, rfl, -, hr⟩ := fit_i h; rcases List.mem_cons.1 hu with rfl | hu; rfl; exact ih hr u hu
    | b => obtain ⟨x, r, rfl, hr⟩ := fit_b h; rcases List.mem_cons.1 hu with rfl | hu; rfl; exact ih hr u hu
    | t => obtain ⟨x, r, rfl, -, hr⟩ := fit_t h; rcases List.mem_cons.1 hu with rfl | hu; rfl; exact ih hr u hu
    | s k => obtain ⟨a, n, cap, ks, r, rfl, -, hr⟩ := fit_s h; rcases List.mem_cons.1 hu with rfl | hu; rfl; exact ih hr u hu

/-- Kinds without slices. -/
theorem Fit.plain {E : Nat → List Fld} : ∀ {F : Fo} {fs : List Fld}, Fit E F fs → (∀ k, Fld.s k ∉ fs) → (∀ W S, F.Subs W S) ∧ F.inn = [] := by
  intro F fs
  induction fs generalizing F with
  | nil => intro h _; rw [fit_nil h]; exact ⟨fun _ _ => trivial, rfl⟩
  | cons f fs ih =>
    intro h hn
    have hn' : ∀ k, Fld.s k ∉ fs := fun k hk => hn k (List.mem_cons_of_mem _ hk)
    cases f with
    | i => obtain ⟨x, r, rfl, -, hr⟩ := fit_i h; exact ⟨fun W S => (ih hr hn').1 W S, (ih hr hn').2⟩
    | b => obtain ⟨x, r, rfl, hr⟩ := fit_b h; exact ⟨fun W S => (ih hr hn').1 W S, (ih hr hn').2⟩
    | t => obtain ⟨x, r, rfl, -, hr⟩ := fit_t h; exact ⟨fun W S => (ih hr hn').1 W S, (ih hr hn').2⟩
    | s k => exact absurd List.mem_cons_self (hn k)

theorem rep_plain {fs : List Fld} (h : ∀ k, Fld.s k ∉ fs) : ∀ n k, Fld.s k ∉ rep fs n
  | 0, k => by simp [rep]
  | n + 1, k => by rw [rep, List.mem_append]; rintro (x | x); exact h k x; exact rep_plain h n k x

/-- A row of our own. -/
theorem own_slice {W : World} {B : Nat} {e : TypeId} {size n : Nat} {v : Value} {F : Fo} (h : W.ownsRow B e size v n F.vals) (hs : ∀ g, v.ownBlock = some g → F.Subs W (fun c => B ≤ c ∧ c < W.heap.size)) (hnd : ∀ g, v.ownBlock = some g → (g :: F.inn).Nodup ∧ Live W F.inn) :
    ∃ a cap, v = .slice a n cap ∧ Own B W (.s a n cap F .nil) := by
  have hl := h.1
  rcases h.2 with ⟨rfl, rfl⟩ | ⟨g, cap, cur, rfl, hb, hg, hnc, hcm, hcs, ht⟩
  · rw [Fo.vals_length, Nat.zero_mul] at hl
    have e := Fo.len_zero (F := F) (by omega)
    subst e
    exact ⟨none, 0, rfl, ⟨⟨⟨Nat.le_refl _, Nat.zero_le _, fun hl => by simp [Fo.len] at hl⟩, trivial⟩, by simp [Fo.inn, blk], fun c hc => by simp [Fo.inn, blk] at hc⟩⟩
  · have hlt := (Array.getElem?_eq_some_iff.1 hg).1
    obtain ⟨h1, h2⟩ := hnd g rfl
    refine ⟨_, cap, rfl, ⟨⟨⟨hnc, hcm, fun _ => ⟨g, 0, rfl, ⟨hb, hlt⟩, fun i u hu => ?_, hs g rfl⟩⟩, trivial⟩, ?_, ?_⟩⟩
    · have := h.cells (g := g) rfl i u hu
      rwa [addr_add] at this
    · simp only [Fo.inn, List.append_nil]
      cases hL : F.len with
      | zero => rw [blk_zero]; exact (List.nodup_cons.1 h1).2
      | succ m => exact h1
    · simp only [Fo.inn, List.append_nil]
      intro c hc j
      rcases List.mem_append.1 hc with hc | hc
      · have : c = g := by
          cases hL : F.len with
          | zero => rw [hL, blk_zero] at hc; simp at hc
          | succ m => rw [hL] at hc; simpa [blk] using hc
        subst this
        exact h.frozenAt j
      · exact h2 c hc j

theorem own_plain {E : Nat → List Fld} {W : World} {B : Nat} {e : TypeId} {n : Nat} {v : Value} {F : Fo} {fs : List Fld} (h : W.ownsRow B e fs.length v n F.vals) (hf : Fit E F (rep fs n)) (hp : ∀ k, Fld.s k ∉ fs) :
    ∃ a cap, v = .slice a n cap ∧ Own B W (.s a n cap F .nil) := by
  obtain ⟨h1, h2⟩ := hf.plain (rep_plain hp n)
  exact own_slice h (fun _ _ => h1 _ _) (fun g _ => by rw [h2]; exact ⟨by simp, fun c hc => by simp at hc⟩)

theorem ownsRow_kept {W V : World} {B : Nat} {e : TypeId} {size n : Nat} {v : Value} {xs : List Value} {S : Nat → Prop} (h : W.ownsRow B e size v n xs) (k : Kept S W V) (hS : ∀ c, v.ownBlock = some c → S c) : V.ownsRow B e size v n xs := by
  refine ⟨h.1, ?_⟩
  rcases h.2 with h2 | ⟨b, cap, cur, rfl, hb, hg, rest⟩
  · exact .inl h2
  · refine .inr ⟨b, cap, cur, rfl, hb, ?_, rest⟩
    have hlt : b < W.heap.size := (Array.getElem?_eq_some_iff.1 hg).1
    rw [k.block b hlt (hS b rfl)]
    exact hg

theorem run_append_zero {P : Program} {W : World} {t e ty : TypeId} {i : TypeInfo} {B size n : Nat} {v : Value} {xs : List Value} (ht : P.underlying t = some (.slice e)) (hi : P.info? e = some i) (hown : W.ownsRow B e size v n xs) (a2 : Option Addr) (c2 : Nat) :
    (Builtin.append_ #[t, t] ty #[v, .slice a2 0 c2]).run P W = .ok v W := by
  rcases hown.2 with ⟨rfl, h0⟩ | ⟨g, cap, cur, rfl, _, _, hnc, _⟩
  · cases a2 <;> simp [Builtin.append_, run_underlying ht, sizeOf, typeInfo, hi, Builtin.lenOf, Builtin.firstCells, loadCells, loadCellsFrom]
  · cases a2 <;> simp [Builtin.append_, run_underlying ht, sizeOf, typeInfo, hi, Builtin.lenOf, Builtin.firstCells, hnc, storeCells, loadCells, loadCellsFrom]

/-- A row behind a row of our own. -/
theorem ur_step {P : Program} {ops : Array Oper} {rest : List Oper} {o : Oper} {a : Act} {Q : Exit → Act → World → Prop} (hgd : o.guard = none) (s x : Operand) (t e : TypeId)
    (ho : o.op = .call { callee := .builtin .append, args := #[s, x], argTypes := #[t, t] }) {z : Value} {size bytes : Nat} (hinfo : (P.info? e).map (fun i => (i.zero, i.size, i.bytes)) = some (some z, size, bytes)) (ht : P.underlying t = some (.slice e)) (hzs : z.cells.size = size) (hsz : 0 < size)
    (B : Nat) (W : World) (v : Value) (n : Nat) (xs ys : List Value) (a2 : Option Addr) (m c2 : Nat) (hs : a.eval s = v) (hx : a.eval x = .slice a2 m c2) (hB : B ≤ W.heap.size) (hown : W.ownsRow B e size v n xs)
    (hk : 0 < m → ∃ b o, a2 = some ⟨b, o, none⟩ ∧ Cel W ys b o) (hl : ys.length = m * size) (h1 : ∀ u ∈ ys, u.oneCell' = true) (h63 : n + m ≤ maxLen) (hbytes : (n + m) * bytes ≤ 140737488355328)
    (h : ∀ v' W', W'.ownsRow B e size v' (n + m) (xs ++ ys) → W.grownBy W' v.ownBlock → wpList P ops Q rest (a.put o.dst v') W') : wpList P ops Q (o :: rest) a W := by
  obtain ⟨i0, hi, hz0, hz1, hz2⟩ := info_parts hinfo
  by_cases h0 : 0 < m
  · obtain ⟨b, oo, rfl, hc⟩ := hk h0
    refine wpList_append_own_at W hgd s x t ho B e i0 z size bytes ht hi hz0 hz1 hz2 hzs hsz v n xs hs hown ⟨b, oo, none⟩ m c2 ys hx hl (fun j u hu => by rw [addr_add]; exact hc j u hu) h1 h63 hbytes hB (fun v' W' h2 h3 _ _ => h v' W' h2 h3)
  · have e0 : m = 0 := by omega
    subst e0
    have e1 : ys = [] := List.length_eq_zero_iff.1 (by omega)
    subst e1
    refine wpList_plain hgd fun K1 hK => ?_
    have hr := run_append_zero (ty := o.type) ht hi hown a2 c2
    unfold Oper.wp execOp
    simp only [ho, resolve, invoke, builtin, Sem.run_bind, Sem.run_pure, Result.andThen_ok, List.map_toArray, List.map_cons, List.map_nil, hs, hx, hr]
    exact hK _ _ (h v W (by rw [List.append_nil]; exact hown) ⟨rfl, rfl, rfl, Nat.le_refl _, fun _ _ _ => rfl⟩)

/-- One element more, where a region draws. -/
theorem ur_draw {P : Program} {ops : Array Oper} {o : Oper} {a : Act} {K : Act → World → Prop} {Q : Exit → Act → World → Prop} {E : Prop} (hgd : o.guard = none) (s x : Operand) (t e : TypeId)
    (ho : o.op = .call { callee := .builtin .append, args := #[s, x], argTypes := #[t, t] }) {z : Value} {size bytes : Nat} (hinfo : (P.info? e).map (fun i => (i.zero, i.size, i.bytes)) = some (some z, size, bytes)) (ht : P.underlying t = some (.slice e)) (hzs : z.cells.size = size) (hsz : 0 < size)
    (B : Nat) (w : World) (v : Value) (n : Nat) (xs ys : List Value) (bb c : Nat) (hs : a.eval s = v) (hown : w.ownsRow B e size v n xs) (hx : a.eval x = .slice (some ⟨bb, 0, none⟩) 1 c) (hb : w.heap[bb]? = some (.cells ys.toArray e)) (hB : B ≤ w.heap.size) (hl : ys.length = size) (h1 : ∀ u ∈ ys, u.oneCell' = true) (h63 : n + 1 ≤ maxLen) (hbytes : (n + 1) * bytes ≤ 140737488355328)
    (h : ∀ g cap w', w'.ownsRow B e size (.slice (some ⟨g, 0, none⟩) (n + 1) cap) (n + 1) (xs ++ ys) → w.grownBy w' v.ownBlock → (v.ownBlock = some g ∨ g = w.heap.size) → K (a.put o.dst (.slice (some ⟨g, 0, none⟩) (n + 1) cap)) w') :
    if Region.wanted o (yielded ops a.tmps) = true then Oper.wp P o a w K Q else E := by
  obtain ⟨i0, hi, hz0, hz1, hz2⟩ := info_parts hinfo
  refine step_append_lies w hgd s x t ho B e i0 z size bytes ht hi hz0 hz1 hz2 hzs hsz v n xs hs hown ⟨bb, 0, none⟩ 1 c ys hx (by omega) (fun j u hu => ?_) h1 (by omega) h63 hbytes hB w.heap.size rfl (fun g cap w' h1 h2 h3 _ => h g cap w' h1 h2 h3)
  have := World.news_of_block hb j u (by simpa using hu)
  exact this

/-- A call by its contract, as one step of a region that draws. -/
theorem step_call {P : Program} {ops : Array Oper} {o : Oper} {a : Act} {w : World} {K : Act → World → Prop} {Q : Exit → Act → World → Prop} {E : Prop} (hgd : o.guard = none) (f : FuncId) (args : Array Value) (hrun : (execOp a.eval o).run P w = .ok (.enter f args) w) (post : Value → World → Prop)
    (hc : Calls P f args w fun e w'' => ∃ v, e = .returned v ∧ post v w'') (h : ∀ v w', post v w' → K (a.put o.dst v) w') :
    if Region.wanted o (yielded ops a.tmps) = true then Oper.wp P o a w K Q else E := by
  have hw : Region.wanted o (yielded ops a.tmps) = true := by simp [Region.wanted, hgd]
  rw [if_pos hw]
  unfold Oper.wp
  rw [hrun, Oper.upon_enter]
  refine hc.mono fun e w'' hh => ?_
  obtain ⟨v, rfl, hp⟩ := hh
  exact h v w'' hp

end Go.Proofs.Ytcnbnhoeobdbnaa.U

namespace Go.Proofs.Ytcnbnhoeobdbnaa.U
open Go.RowKit Go.Joins

theorem Kept.al {S : Nat → Prop} {A B : World} {o : Obj} (h : Kept S A B) : Kept S A (B.alloc o) := h.trans (Kept.alloc S B o)
theorem Kept.dr {S : Nat → Prop} {A B : World} (h : Kept S A B) : Kept S A B.drew := h.trans (Kept.drew S B)
theorem heap_new_dr (W : World) (o : Obj) : (W.alloc o).drew.heap[W.heap.size]? = some o := (MapKept.heap_alloc W o).1

/-- What is in memory of our own: rows that may grow, and what is done. -/
inductive Item where
  | row (e : TypeId) (sz : Nat) (v : Value) (n : Nat) (F : Fo)
  | fo (F : Fo)

def ob (v : Value) : List Nat := v.ownBlock.toList

def Item.bl : Item → List Nat
  | .row _ _ v _ F => ob v ++ F.inn
  | .fo F => F.inn

def Item.ok (V : World) : Item → Prop
  | .row e sz v n F => V.ownsRow 0 e sz v n F.vals ∧ F.Subs V (fun c => c < V.heap.size) ∧ Live V F.inn
  | .fo F => F.Subs V (fun c => c < V.heap.size) ∧ Live V F.inn

def bls (L : List Item) : List Nat := L.flatMap Item.bl

theorem bls_cons (i : Item) (L : List Item) : bls (i :: L) = i.bl ++ bls L := rfl

theorem mem_ob {v : Value} {c : Nat} : c ∈ ob v ↔ v.ownBlock = some c := by
  unfold ob
  rw [Option.mem_toList]

theorem ownBlock_lt {W : World} {B : Nat} {e : TypeId} {size n : Nat} {v : Value} {xs : List Value} (h : W.ownsRow B e size v n xs) {c : Nat} (hc : v.ownBlock = some c) : c < W.heap.size := by
  rcases h.2 with ⟨rfl, -⟩ | ⟨b, cap, cur, rfl, hb, hg, -⟩
  · simp [Value.ownBlock] at hc
  · have e : b = c := Option.some.inj hc
    subst e
    exact (Array.getElem?_eq_some_iff.1 hg).1

theorem Item.ok.lt {V : World} {i : Item} (h : i.ok V) {c : Nat} (hc : c ∈ i.bl) : c < V.heap.size := by
  cases i with
  | row e sz v n F =>
    rcases List.mem_append.1 hc with hc | hc
    · exact ownBlock_lt h.1 (mem_ob.1 hc)
    · exact h.2.1.inn_of c hc
  | fo F => exact h.1.inn_of c hc

theorem subs_kept {A B : World} {S : Nat → Prop} {F : Fo} (h : F.Subs A (fun c => c < A.heap.size)) (k : Kept S A B) (hS : ∀ c ∈ F.inn, S c) : F.Subs B (fun c => c < B.heap.size) := by
  have hi := h.inn_of
  have hz := k.size
  exact (h.own.kept k (fun c hc => ⟨hS c hc, hi c hc⟩)).mono (fun c hc => Nat.lt_of_lt_of_le (hi c hc) hz)

theorem Item.ok.kept {A B : World} {S : Nat → Prop} {i : Item} (h : i.ok A) (k : Kept S A B) (hS : ∀ c ∈ i.bl, S c) : i.ok B := by
  cases i with
  | row e sz v n F =>
    have h1 : ∀ c ∈ F.inn, S c := fun c hc => hS c (List.mem_append.2 (.inr hc))
    exact ⟨ownsRow_kept h.1 k (fun c hc => hS c (List.mem_append.2 (.inl (mem_ob.2 hc)))), subs_kept h.2.1 k h1, h.2.2.kept k (fun c hc => ⟨h1 c hc, h.2.1.inn_of c hc⟩)⟩
  | fo F => exact ⟨subs_kept h.1 k hS, h.2.kept k (fun c hc => ⟨hS c hc, h.1.inn_of c hc⟩)⟩

structure Hp (P : Nat → Prop) (L : List Item) (V : World) : Prop where
  ok : ∀ i ∈ L, i.ok V
  nd : (bls L).Nodup
  fr : ∀ c ∈ bls L, ¬ P c

theorem Hp.lt {P : Nat → Prop} {L : List Item} {V : World} (h : Hp P L V) {c : Nat} (hc : c ∈ bls L) : c < V.heap.size := by
  obtain ⟨i, hi, hc⟩ := List.mem_flatMap.1 hc
  exact (h.ok i hi).lt hc

theorem Hp.kept {P S : Nat → Prop} {L : List Item} {A B : World} (h : Hp P L A) (k : Kept S A B) (hS : ∀ c ∈ bls L, S c) : Hp P L B :=
  ⟨fun i hi => (h.ok i hi).kept k (fun c hc => hS c (List.mem_flatMap.2 ⟨i, hi, hc⟩)), h.nd, h.fr⟩

theorem Hp.keep {P : Nat → Prop} {L : List Item} {A B : World} (h : Hp P L A) (k : Kept (fun _ => True) A B) : Hp P L B := h.kept k (fun _ _ => trivial)
theorem Hp.below {P : Nat → Prop} {L : List Item} {A B : World} (h : Hp P L A) (k : Below A.heap.size A B) : Hp P L B := h.keep (kt k)

/-- A cell that is none of ours is set. -/
theorem Hp.put {P : Nat → Prop} {L : List Item} {A : World} (h : Hp P L A) (p : Addr) (v : Value) (hp : P p.block) : Hp P L (A.setCell p v) :=
  h.kept (Kept.setCell (fun c => ¬ c = p.block) _ _ _ (by simp)) (fun c hc e => h.fr c hc (by rw [e]; exact hp))

theorem Hp.mono {P Q : Nat → Prop} {L : List Item} {A : World} (h : Hp P L A) (hQ : ∀ c ∈ bls L, ¬ P c → ¬ Q c) : Hp Q L A := ⟨h.ok, h.nd, fun c hc => hQ c hc (h.fr c hc)⟩

/-- What is new is none of ours. -/
theorem Hp.more {P : Nat → Prop} {L : List Item} {A : World} (h : Hp P L A) {b : Nat} (hb : A.heap.size ≤ b) : Hp (fun c => P c ∨ c = b) L A :=
  h.mono (fun c hc hP hQ => by have := h.lt hc; rcases hQ with hQ | hQ; exact hP hQ; omega)

theorem bls_perm {L M : List Item} (hp : L.Perm M) : (bls L).Perm (bls M) := hp.flatMap_right _

theorem Hp.perm {P : Nat → Prop} {L M : List Item} {A : World} (h : Hp P L A) (hp : L.Perm M) : Hp P M A :=
  ⟨fun i hi => h.ok i (hp.mem_iff.2 hi), (bls_perm hp).nodup_iff.1 h.nd, fun c hc => h.fr c ((bls_perm hp).mem_iff.2 hc)⟩

theorem Hp.tail {P : Nat → Prop} {i : Item} {L : List Item} {A : World} (h : Hp P (i :: L) A) : Hp P L A :=
  ⟨fun j hj => h.ok j (List.mem_cons_of_mem _ hj), (List.nodup_append.1 h.nd).2.1, fun c hc => h.fr c (List.mem_append.2 (.inr hc))⟩

theorem Hp.sing {P : Nat → Prop} {i : Item} {L : List Item} {A : World} (h : Hp P (i :: L) A) : Hp P [i] A :=
  ⟨fun j hj => h.ok j (by rcases List.mem_cons.1 hj with rfl | hj; exact List.mem_cons_self; exact absurd hj List.not_mem_nil), by rw [bls_cons]; simpa [bls] using (List.nodup_append.1 h.nd).1, fun c hc => h.fr c (by rw [bls_cons] at hc ⊢; rcases List.mem_append.1 hc with hc | hc; exact List.mem_append.2 (.inl hc); simp [bls] at hc)⟩

theorem bls_sub {L M : List Item} (hs : L.Sublist M) : (bls L).Sublist (bls M) := by
  induction hs with
  | slnil => exact List.Sublist.refl _
  | cons a _ ih => exact ih.trans (List.sublist_append_right _ _)
  | cons_cons a _ ih => exact (List.Sublist.refl _).append ih

theorem Hp.sub {P : Nat → Prop} {L M : List Item} {A : World} (h : Hp P L A) (hs : M.Sublist L) : Hp P M A :=
  ⟨fun i hi => h.ok i (hs.subset hi), (bls_sub hs).nodup h.nd, fun c hc => h.fr c ((bls_sub hs).subset hc)⟩

theorem rot3 {α : Type} (a b c : α) : [a, b, c].Perm [c, a, b] := List.perm_append_comm (l₁ := [a, b]) (l₂ := [c])
theorem rot4 {α : Type} (a b c d : α) : [a, b, c, d].Perm [d, a, b, c] := List.perm_append_comm (l₁ := [a, b, c]) (l₂ := [d])
theorem first3 {α : Type} (a b c d : α) : [a, b, c].Sublist [a, b, c, d] := .cons_cons _ (.cons_cons _ (.cons_cons _ (.cons _ .slnil)))

theorem Hp.nil (P : Nat → Prop) (A : World) : Hp P [] A := ⟨fun i hi => absurd hi List.not_mem_nil, List.nodup_nil, fun c hc => by simp [bls] at hc⟩

/-- An empty row. -/
theorem Hp.empty {P : Nat → Prop} {L : List Item} {A : World} (h : Hp P L A) (e : TypeId) (sz : Nat) : Hp P (.row e sz (.slice none 0 0) 0 .nil :: L) A :=
  ⟨fun i hi => by
    rcases List.mem_cons.1 hi with rfl | hi
    · exact ⟨⟨by simp [Fo.vals], .inl ⟨rfl, rfl⟩⟩, trivial, fun c hc => by simp [Fo.inn] at hc⟩
    · exact h.ok i hi, by rw [bls_cons]; simpa [Item.bl, ob, Value.ownBlock, Fo.inn] using h.nd, fun c hc => h.fr c (by rw [bls_cons] at hc; simpa [Item.bl, ob, Value.ownBlock, Fo.inn] using hc)⟩

/-- Plain cells. -/
theorem Hp.plain {P : Nat → Prop} {L : List Item} {A : World} (h : Hp P L A) (X : Fo) (h1 : ∀ W S, X.Subs W S) (h2 : X.inn = []) : Hp P (.fo X :: L) A :=
  ⟨fun i hi => by
    rcases List.mem_cons.1 hi with rfl | hi
    · exact ⟨h1 _ _, by rw [h2]; exact fun c hc => absurd hc List.not_mem_nil⟩
    · exact h.ok i hi, by rw [bls_cons]; simpa [Item.bl, h2] using h.nd, fun c hc => h.fr c (by rw [bls_cons] at hc; simpa [Item.bl, h2] using hc)⟩

theorem Hp.v {P : Nat → Prop} {L : List Item} {A : World} {X : Fo} (x : Value) (h : Hp P (.fo X :: L) A) : Hp P (.fo (.v x X) :: L) A :=
  ⟨fun i hi => by
    rcases List.mem_cons.1 hi with rfl | hi
    · exact h.ok (.fo X) List.mem_cons_self
    · exact h.ok i (List.mem_cons_of_mem _ hi), h.nd, h.fr⟩

theorem Hp.app {P : Nat → Prop} {L : List Item} {A : World} {X Y : Fo} (h : Hp P (.fo X :: .fo Y :: L) A) : Hp P (.fo (X.app Y) :: L) A := by
  have hx := h.ok _ List.mem_cons_self
  have hy := h.ok _ (List.mem_cons_of_mem _ List.mem_cons_self)
  have e : bls (.fo (X.app Y) :: L) = bls (.fo X :: .fo Y :: L) := by simp only [bls_cons, Item.bl, Fo.inn_app, List.append_assoc]
  refine ⟨fun i hi => ?_, by rw [e]; exact h.nd, fun c hc => h.fr c (by rw [e] at hc; exact hc)⟩
  rcases List.mem_cons.1 hi with rfl | hi
  · exact ⟨hx.1.app hy.1, by rw [Fo.inn_app]; exact hx.2.app hy.2⟩
  · exact h.ok i (List.mem_cons_of_mem _ (List.mem_cons_of_mem _ hi))

theorem Hp.split {P : Nat → Prop} {L : List Item} {A : World} {X Y : Fo} (h : Hp P (.fo (X.app Y) :: L) A) : Hp P (.fo X :: .fo Y :: L) A := by
  have hx := h.ok _ List.mem_cons_self
  have e : bls (.fo (X.app Y) :: L) = bls (.fo X :: .fo Y :: L) := by simp only [bls_cons, Item.bl, Fo.inn_app, List.append_assoc]
  refine ⟨fun i hi => ?_, by rw [← e]; exact h.nd, fun c hc => h.fr c (by rw [e]; exact hc)⟩
  rcases List.mem_cons.1 hi with rfl | hi
  · exact ⟨hx.1.left, hx.2.sub (fun c hc => by rw [Fo.inn_app]; exact List.mem_append.2 (.inl hc))⟩
  · rcases List.mem_cons.1 hi with rfl | hi
    · exact ⟨hx.1.right, hx.2.sub (fun c hc => by rw [Fo.inn_app]; exact List.mem_append.2 (.inr hc))⟩
    · exact h.ok i (List.mem_cons_of_mem _ hi)

/-- A row grows by what is done. -/
theorem Hp.grow {P : Nat → Prop} {L : List Item} {A B : World} {e : TypeId} {sz n m : Nat} {v v' : Value} {F X : Fo} (h : Hp P (.row e sz v n F :: .fo X :: L) A) (hP : ∀ c, P c → c < A.heap.size) (hG : A.grownBy B v.ownBlock) (hO : B.ownsRow 0 e sz v' m (F.vals ++ X.vals)) (hat : v'.ownBlock = v.ownBlock ∨ v'.ownBlock = some A.heap.size) :
    Hp P (.row e sz v' m (F.app X) :: L) B ∧ Kept (fun c => v.ownBlock ≠ some c) A B := by
  have k : Kept (fun c => v.ownBlock ≠ some c) A B := Kept.grown hG (fun c e1 e2 => e2 e1)
  have hr := h.ok _ List.mem_cons_self
  have hx := h.ok _ (List.mem_cons_of_mem _ List.mem_cons_self)
  have hnd := h.nd
  simp only [bls_cons, Item.bl, List.append_assoc] at hnd
  obtain ⟨n1, n2, n3⟩ := List.nodup_append.1 hnd
  have hne : ∀ c, c ∈ F.inn ++ (X.inn ++ bls L) → v.ownBlock ≠ some c := fun c hc e => n3 c (mem_ob.2 e) c hc rfl
  have hF : ∀ c ∈ F.inn, v.ownBlock ≠ some c := fun c hc => hne c (List.mem_append.2 (.inl hc))
  have hX : ∀ c ∈ X.inn, v.ownBlock ≠ some c := fun c hc => hne c (List.mem_append.2 (.inr (List.mem_append.2 (.inl hc))))
  refine ⟨⟨fun i hi => ?_, ?_, ?_⟩, k⟩
  · rcases List.mem_cons.1 hi with rfl | hi
    · refine ⟨by rw [Fo.app_vals]; exact hO, (subs_kept hr.2.1 k hF).app (subs_kept hx.1 k hX), ?_⟩
      rw [Fo.inn_app]
      exact (hr.2.2.kept k (fun c hc => ⟨hF c hc, hr.2.1.inn_of c hc⟩)).app (hx.2.kept k (fun c hc => ⟨hX c hc, hx.1.inn_of c hc⟩))
    · exact (h.ok i (List.mem_cons_of_mem _ (List.mem_cons_of_mem _ hi))).kept k (fun c hc => hne c (List.mem_append.2 (.inr (List.mem_append.2 (.inr (List.mem_flatMap.2 ⟨i, hi, hc⟩))))))
  · simp only [bls_cons, Item.bl, Fo.inn_app, List.append_assoc]
    rcases hat with e1 | e1
    · unfold ob; rw [e1]; exact hnd
    · have e2 : ob v' = [A.heap.size] := by unfold ob; rw [e1]; rfl
      rw [e2, List.singleton_append, List.nodup_cons]
      refine ⟨fun hc => ?_, n2⟩
      have := h.lt (c := A.heap.size) (by simp only [bls_cons, Item.bl, List.append_assoc]; exact List.mem_append.2 (.inr hc))
      omega
  · intro c hc
    simp only [bls_cons, Item.bl, Fo.inn_app, List.append_assoc] at hc
    rcases List.mem_append.1 hc with hc | hc
    · have hc := mem_ob.1 hc
      rcases hat with e1 | e1
      · exact h.fr c (by simp only [bls_cons, Item.bl, List.append_assoc]; exact List.mem_append.2 (.inl (mem_ob.2 (by rw [← e1]; exact hc))))
      · rw [e1] at hc
        intro hp
        have := hP c hp
        have : A.heap.size = c := Option.some.inj hc
        omega
    · exact h.fr c (by simp only [bls_cons, Item.bl, List.append_assoc]; exact List.mem_append.2 (.inr hc))

theorem Hp.subl {P : Nat → Prop} {L : List Item} {A : World} {i j : Item} (h : Hp P (i :: L) A) (hj : j.ok A) (hs : j.bl.Sublist i.bl) : Hp P (j :: L) A := by
  have hs' : (bls (j :: L)).Sublist (bls (i :: L)) := hs.append (List.Sublist.refl _)
  exact ⟨fun q hq => by rcases List.mem_cons.1 hq with rfl | hq; exact hj; exact h.ok q (List.mem_cons_of_mem _ hq), hs'.nodup h.nd, fun c hc => h.fr c (hs'.subset hc)⟩

theorem blk_obs (a : Option Addr) (n cap k : Nat) : (blk a k).Sublist (ob (.slice a n cap)) := by
  cases a with
  | none => cases k <;> simp [blk]
  | some a =>
    cases k with
    | zero => rw [blk_zero]; exact List.nil_sublist _
    | succ k => rw [blk_pos (Nat.succ_pos _)]; exact List.Sublist.refl _

/-- A row that is done. -/
theorem Hp.shut {P : Nat → Prop} {L : List Item} {A : World} {e : TypeId} {sz n : Nat} {v : Value} {F : Fo} (h : Hp P (.row e sz v n F :: L) A) : ∃ a cap, v = .slice a n cap ∧ Hp P (.fo (.s a n cap F .nil) :: L) A := by
  have hr := h.ok _ List.mem_cons_self
  have hnd := h.nd
  simp only [bls_cons, Item.bl] at hnd
  have hnd1 := (List.nodup_append.1 hnd).1
  obtain ⟨a, cap, rfl, ho⟩ := own_slice hr.1 (fun _ _ => hr.2.1.mono (fun c hc => ⟨Nat.zero_le _, hc⟩)) (fun g hg => ⟨by simpa [ob, hg] using hnd1, hr.2.2⟩)
  refine ⟨a, cap, rfl, h.subl ⟨ho.subs.mono (fun _ x => x.2), ho.live⟩ ?_⟩
  simp only [Item.bl, Fo.inn, List.append_nil]
  exact (blk_obs a n cap F.len).append (List.Sublist.refl _)

theorem Hp.own {P : Nat → Prop} {A : World} {F : Fo} {L : List Item} {lo : Nat} (h : Hp P (.fo F :: L) A) (hlo : ∀ c, c < lo → P c) : Own lo A F := by
  have hr := h.ok _ List.mem_cons_self
  have hnd := (List.nodup_append.1 h.nd).1
  refine ⟨hr.1.own.mono (fun c hc => ⟨Nat.not_lt.1 (fun hx => h.fr c (List.mem_append.2 (.inl hc)) (hlo c hx)), hr.1.inn_of c hc⟩), hnd, hr.2⟩

/-- What was made behind a world. -/
theorem Hp.of_own {P : Nat → Prop} {A : World} {F : Fo} {L : List Item} {lo : Nat} (h : Hp P L A) (ho : Own lo A F) (hP : ∀ c, lo ≤ c → ¬ P c) (hL : ∀ c ∈ bls L, c < lo) : Hp P (.fo F :: L) A := by
  have hi := ho.subs.inn_of
  refine ⟨fun i hq => by rcases List.mem_cons.1 hq with rfl | hq; exact ⟨ho.subs.mono (fun _ x => x.2), ho.live⟩; exact h.ok i hq, ?_, ?_⟩
  · rw [bls_cons, List.nodup_append]
    exact ⟨ho.nodup, h.nd, fun a ha b hb e => by have := (hi a ha).1; have := hL b hb; omega⟩
  · intro c hc
    rcases List.mem_append.1 hc with hc | hc
    · exact hP c (hi c hc).1
    · exact h.fr c hc

/-- What a row's last cells stand for is told anew. -/
theorem Hp.swap {P : Nat → Prop} {L : List Item} {A : World} {e : TypeId} {sz n : Nat} {v : Value} {D X Y : Fo} (h : Hp P (.row e sz v n (D.app X) :: .fo Y :: L) A) (hX : X.inn = []) (hv : Y.vals = X.vals) : Hp P (.row e sz v n (D.app Y) :: L) A := by
  have hr := h.ok _ List.mem_cons_self
  have hy := h.ok _ (List.mem_cons_of_mem _ List.mem_cons_self)
  have e1 : bls (.row e sz v n (D.app Y) :: L) = bls (.row e sz v n (D.app X) :: .fo Y :: L) := by simp only [bls_cons, Item.bl, Fo.inn_app, hX, List.append_nil, List.append_assoc]
  refine ⟨fun i hi => ?_, by rw [e1]; exact h.nd, fun c hc => h.fr c (by rw [e1] at hc; exact hc)⟩
  rcases List.mem_cons.1 hi with rfl | hi
  · refine ⟨by have := hr.1; rw [Fo.app_vals] at this ⊢; rw [hv]; exact this, hr.2.1.left.app hy.1, ?_⟩
    rw [Fo.inn_app]
    exact (hr.2.2.sub (fun c hc => by rw [Fo.inn_app]; exact List.mem_append.2 (.inl hc))).app hy.2
  · exact h.ok i (List.mem_cons_of_mem _ (List.mem_cons_of_mem _ hi))

theorem ownsRow_set {W : World} {B g cap : Nat} {e : TypeId} {sz n : Nat} {xs ys : List Value} {x : Value} (h : W.ownsRow B e sz (.slice (some ⟨g, 0, none⟩) n cap) n (xs ++ x :: ys)) (y : Value) :
    (W.setCell ⟨g, xs.length, none⟩ y).ownsRow B e sz (.slice (some ⟨g, 0, none⟩) n cap) n (xs ++ y :: ys) := by
  have hl := h.1
  rcases h.2 with ⟨h1, h2⟩ | ⟨b, cap', cur, hv, hb, hg, hnc, hcm, hcs, ht⟩
  · cases h1
  · cases hv
    refine ⟨by simpa using hl, .inr ⟨g, cap, cur.setIfInBounds xs.length y, rfl, hb, ?_, hnc, hcm, by simpa using hcs, ?_⟩⟩
    · simp [World.setCell, Array.getElem?_modify, hg]
    · rw [Array.toList_setIfInBounds, List.take_set, ht, List.set_append_right _ _ (Nat.le_refl _), Nat.sub_self]
      rfl

/-- A plain cell of a row is set. -/
theorem Hp.cell {P : Nat → Prop} {L : List Item} {A : World} {e : TypeId} {sz n g cap : Nat} {D R : Fo} {x : Value} (h : Hp P (.row e sz (.slice (some ⟨g, 0, none⟩) n cap) n (D.app (.v x R)) :: L) A) (y : Value) : Hp P (.row e sz (.slice (some ⟨g, 0, none⟩) n cap) n (D.app (.v y R)) :: L) (A.setCell ⟨g, D.len, none⟩ y) := by
  have hr := h.ok _ List.mem_cons_self
  have hnd := h.nd
  simp only [bls_cons, Item.bl, List.append_assoc] at hnd
  have hob : ob (.slice (some ⟨g, 0, none⟩) n cap) = [g] := rfl
  rw [hob, List.singleton_append, List.nodup_cons] at hnd
  have k : Kept (fun c => c ≠ g) A (A.setCell ⟨g, D.len, none⟩ y) := Kept.setCell _ _ _ _ (by simp)
  have e1 : (D.app (.v y R)).inn = (D.app (.v x R)).inn := by simp only [Fo.inn_app, Fo.inn]
  have e2 : bls (.row e sz (.slice (some ⟨g, 0, none⟩) n cap) n (D.app (.v y R)) :: L) = bls (.row e sz (.slice (some ⟨g, 0, none⟩) n cap) n (D.app (.v x R)) :: L) := by simp only [bls_cons, Item.bl, e1]
  have hne : ∀ c, c ∈ (D.app (.v x R)).inn ++ bls L → c ≠ g := fun c hc e => hnd.1 (by rw [← e]; exact hc)
  refine ⟨fun i hi => ?_, by rw [e2]; exact h.nd, fun c hc => h.fr c (by rw [e2] at hc; exact hc)⟩
  rcases List.mem_cons.1 hi with rfl | hi
  · have ho := hr.1
    rw [Fo.app_vals] at ho
    have h2 := ownsRow_set ho y
    rw [Fo.vals_length] at h2
    have hs := subs_kept hr.2.1 k (fun c hc => hne c (List.mem_append.2 (.inl hc)))
    refine ⟨by rw [Fo.app_vals]; exact h2, Fo.Subs.app hs.left (show R.Subs _ _ from hs.right), ?_⟩
    rw [e1]
    exact hr.2.2.kept k (fun c hc => ⟨hne c (List.mem_append.2 (.inl hc)), hr.2.1.inn_of c hc⟩)
  · exact (h.ok i (List.mem_cons_of_mem _ hi)).kept k (fun c hc => hne c (List.mem_append.2 (.inr (List.mem_flatMap.2 ⟨i, hi, hc⟩))))

/-- A cell of a row. -/
theorem Hp.at_ {P : Nat → Prop} {L : List Item} {A : World} {e : TypeId} {sz n g cap : Nat} {F : Fo} (h : Hp P (.row e sz (.slice (some ⟨g, 0, none⟩) n cap) n F :: L) A) (i : Nat) (u : Value) (hu : F.vals[i]? = some u) : A.cell? ⟨g, i, none⟩ = some u := by
  have := (h.ok _ List.mem_cons_self).1.cells (g := g) rfl i u hu
  rwa [addr_add, Nat.zero_add] at this

theorem Hp.free {P : Nat → Prop} {L : List Item} {A : World} {e : TypeId} {sz n g cap : Nat} {F : Fo} (h : Hp P (.row e sz (.slice (some ⟨g, 0, none⟩) n cap) n F :: L) A) (i : Nat) : A.frozen? ⟨g, i, none⟩ = false :=
  (h.ok _ List.mem_cons_self).1.frozenAt i

/-- A row behind a row of our own, and where it is. -/
theorem ur_stepL {P : Program} {ops : Array Oper} {rest : List Oper} {o : Oper} {a : Act} {Q : Exit → Act → World → Prop} (hgd : o.guard = none) (s x : Operand) (t e : TypeId)
    (ho : o.op = .call { callee := .builtin .append, args := #[s, x], argTypes := #[t, t] }) {z : Value} {size bytes : Nat} (hinfo : (P.info? e).map (fun i => (i.zero, i.size, i.bytes)) = some (some z, size, bytes)) (ht : P.underlying t = some (.slice e)) (hzs : z.cells.size = size) (hsz : 0 < size)
    (B : Nat) (W : World) (v : Value) (n : Nat) (xs ys : List Value) (bb c2 : Nat) (hs : a.eval s = v) (hx : a.eval x = .slice (some ⟨bb, 0, none⟩) 1 c2) (hB : B ≤ W.heap.size) (hown : W.ownsRow B e size v n xs)
    (hb : W.heap[bb]? = some (.cells ys.toArray e)) (hl : ys.length = size) (h1 : ∀ u ∈ ys, u.oneCell' = true) (h63 : n + 1 ≤ maxLen) (hbytes : (n + 1) * bytes ≤ 140737488355328)
    (h : ∀ g cap W', W'.ownsRow B e size (.slice (some ⟨g, 0, none⟩) (n + 1) cap) (n + 1) (xs ++ ys) → W.grownBy W' v.ownBlock → (v.ownBlock = some g ∨ g = W.heap.size) → wpList P ops Q rest (a.put o.dst (.slice (some ⟨g, 0, none⟩) (n + 1) cap)) W') : wpList P ops Q (o :: rest) a W := by
  obtain ⟨i0, hi, hz0, hz1, hz2⟩ := info_parts hinfo
  refine wpList_append_own_at W hgd s x t ho B e i0 z size bytes ht hi hz0 hz1 hz2 hzs hsz v n xs hs hown ⟨bb, 0, none⟩ 1 c2 ys hx (by omega) (fun j u hu => World.news_of_block hb j u (by simpa using hu)) h1 h63 hbytes hB (fun v' W' h2 h3 h4 h5 => ?_)
  rcases h2.2 with ⟨e1, e2⟩ | ⟨g, cap, cur, rfl, -⟩
  · omega
  · refine h g cap W' h2 h3 ?_
    rcases h5 with h5 | h5
    · exact .inl h5.symm
    · exact .inr (Option.some.inj h5)

end Go.Proofs.Ytcnbnhoeobdbnaa.U
