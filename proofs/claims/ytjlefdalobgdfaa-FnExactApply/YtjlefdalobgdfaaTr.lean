import Derived.Test.YtjlefdalobgdfaaIt
namespace Go.Proofs.Ytjlefdalobgdfaa
open Go.RowKit Go.Shelf

theorem addr_add (b o j : Nat) : (⟨b, o, none⟩ : Addr).add j = ⟨b, o + j, none⟩ := by unfold Addr.add; split <;> simp_all

theorem hide {p : Prop} (h : p) : Hid p := h

/-- A row of nodes: kind, name, where its kids lie and how much room there is, the kids, the rest. -/
inductive Fo where
  | nil : Fo
  | cons (k ix : Int) (nm : ByteArray) (a : Option Addr) (cap : Nat) (ks r : Fo) : Fo

def Fo.len : Fo → Nat
  | .nil => 0
  | .cons _ _ _ _ _ _ r => r.len + 1

/-- How many nodes. -/
def Fo.size : Fo → Nat
  | .nil => 0
  | .cons _ _ _ _ _ ks r => 1 + ks.size + r.size

/-- Nodes and bytes of names. -/
def Fo.tot : Fo → Nat
  | .nil => 0
  | .cons _ _ nm _ _ ks r => 1 + nm.size + ks.tot + r.tot

theorem Fo.size_le : ∀ F : Fo, F.size ≤ F.tot
  | .nil => Nat.le_refl _
  | .cons _ _ _ _ _ ks r => by have := ks.size_le; have := r.size_le; simp only [Fo.size, Fo.tot]; omega

theorem Fo.len_le : ∀ F : Fo, F.len ≤ F.size
  | .nil => Nat.le_refl _
  | .cons _ _ _ _ _ _ r => by have := r.len_le; simp only [Fo.size, Fo.len]; omega

/-- The row lies in block b from cell o on; its kids' rows lie in blocks of S. -/
def Fo.Row (W : World) (S : Nat → Prop) : Fo → Nat → Nat → Prop
  | .nil, _, _ => True
  | .cons k ix nm a cap ks r, b, o => (Lit.int .i64 k).wf = true ∧ (Lit.int .i64 ix).wf = true ∧ nm.size ≤ maxLen ∧ W.cell? ⟨b, o, none⟩ = some (.int .i64 k) ∧ W.cell? ⟨b, o + 1, none⟩ = some (.int .i64 ix) ∧ W.cell? ⟨b, o + 2, none⟩ = some (.string nm) ∧
      W.cell? ⟨b, o + 3, none⟩ = some (.slice a ks.len cap) ∧ ks.len ≤ cap ∧ cap ≤ maxLen ∧ (0 < ks.len → ∃ b' o', a = some ⟨b', o', none⟩ ∧ S b' ∧ Fo.Row W S ks b' o') ∧ Fo.Row W S r b (o + 4)

/-- A slice's value holds the row. -/
def Fo.Sl (W : World) (S : Nat → Prop) (a : Option Addr) (cap : Nat) (ks : Fo) : Prop :=
  ks.len ≤ cap ∧ cap ≤ maxLen ∧ (0 < ks.len → ∃ b' o', a = some ⟨b', o', none⟩ ∧ S b' ∧ Fo.Row W S ks b' o')

theorem Fo.Row.keep {A B : World} {S T : Nat → Prop} (hT : ∀ b, S b → T b) (h2 : ∀ p : Addr, S p.block → ∀ v, A.cell? p = some v → B.cell? p = some v) : ∀ {F : Fo} {b o : Nat},
    (∀ j, o ≤ j → j < o + F.len * 4 → ∀ v, A.cell? ⟨b, j, none⟩ = some v → B.cell? ⟨b, j, none⟩ = some v) → Fo.Row A S F b o → Fo.Row B T F b o
  | .nil, _, _, _, _ => trivial
  | .cons _ _ _ _ _ _ _, b, o, h1, ⟨hk, hix, hn, c1, ci, c2, c3, h4, h5, h6, h7⟩ =>
    ⟨hk, hix, hn, h1 o (by omega) (by simp only [Fo.len]; omega) _ c1, h1 (o + 1) (by omega) (by simp only [Fo.len]; omega) _ ci, h1 (o + 2) (by omega) (by simp only [Fo.len]; omega) _ c2, h1 (o + 3) (by omega) (by simp only [Fo.len]; omega) _ c3, h4, h5,
      fun hl => by obtain ⟨b', o', e, s, x⟩ := h6 hl; exact ⟨b', o', e, hT _ s, x.keep hT h2 (fun j _ _ v hv => h2 ⟨b', j, none⟩ s v hv)⟩,
      h7.keep hT h2 (fun j ha hb => h1 j (by omega) (by simp only [Fo.len]; omega))⟩

theorem Fo.Sl.keep {A B : World} {S T : Nat → Prop} (hT : ∀ b, S b → T b) (h2 : ∀ p : Addr, S p.block → ∀ v, A.cell? p = some v → B.cell? p = some v) {a : Option Addr} {cap : Nat} {F : Fo} (hs : Fo.Sl A S a cap F) : Fo.Sl B T a cap F :=
  ⟨hs.1, hs.2.1, fun hl => by obtain ⟨b', o', e, s, x⟩ := hs.2.2 hl; exact ⟨b', o', e, hT _ s, x.keep hT h2 (fun j _ _ v hv => h2 ⟨b', j, none⟩ s v hv)⟩⟩

theorem Fo.Sl.kept {A B : World} {S T : Nat → Prop} (k : Kept T A B) (hS : ∀ b, S b → T b ∧ b < A.heap.size) {a : Option Addr} {cap : Nat} {F : Fo} (hs : Fo.Sl A S a cap F) : Fo.Sl B S a cap F :=
  hs.keep (fun _ x => x) (fun _ hp _ hv => (k.cell (hS _ hp).2 (hS _ hp).1).trans hv)

theorem Fo.Sl.below {A B : World} {n : Nat} {S : Nat → Prop} (k : Below n A B) (hS : ∀ b, S b → b < n) {a : Option Addr} {cap : Nat} {F : Fo} (hs : Fo.Sl A S a cap F) : Fo.Sl B S a cap F :=
  hs.keep (fun _ x => x) (fun _ hp _ hv => (k.cell (hS _ hp)).trans hv)

theorem Fo.Row.below {A B : World} {n : Nat} {S : Nat → Prop} (k : Below n A B) (hS : ∀ b, S b → b < n) {F : Fo} {b o : Nat} (hb : b < n) (hs : Fo.Row A S F b o) : Fo.Row B S F b o :=
  hs.keep (fun _ x => x) (fun _ hp _ hv => (k.cell (hS _ hp)).trans hv) (fun j _ _ _ hv => (k.cell (p := ⟨b, j, none⟩) hb).trans hv)

theorem Fo.Sl.mono {A : World} {S T : Nat → Prop} (hT : ∀ b, S b → T b) {a : Option Addr} {cap : Nat} {F : Fo} (hs : Fo.Sl A S a cap F) : Fo.Sl A T a cap F :=
  hs.keep hT (fun _ _ _ h => h)

def Fo.app : Fo → Fo → Fo
  | .nil, G => G
  | .cons k ix nm a cap ks r, G => .cons k ix nm a cap ks (r.app G)

theorem Fo.app_len : ∀ F G : Fo, (F.app G).len = F.len + G.len
  | .nil, _ => by simp [Fo.app, Fo.len]
  | .cons _ _ _ _ _ _ r, G => by simp only [Fo.app, Fo.len, r.app_len G]; omega

theorem Fo.app_nil : ∀ F : Fo, F.app .nil = F
  | .nil => rfl
  | .cons _ _ _ _ _ _ r => by simp only [Fo.app, r.app_nil]

theorem Fo.app_assoc : ∀ F G H : Fo, (F.app G).app H = F.app (G.app H)
  | .nil, _, _ => rfl
  | .cons _ _ _ _ _ _ r, G, H => by simp only [Fo.app, r.app_assoc G H]

theorem Fo.app_size : ∀ F G : Fo, (F.app G).size = F.size + G.size
  | .nil, _ => by simp [Fo.app, Fo.size]
  | .cons _ _ _ _ _ _ r, G => by simp only [Fo.app, Fo.size, r.app_size G]; omega

theorem Fo.app_tot : ∀ F G : Fo, (F.app G).tot = F.tot + G.tot
  | .nil, _ => by simp [Fo.app, Fo.tot]
  | .cons _ _ _ _ _ _ r, G => by simp only [Fo.app, Fo.tot, r.app_tot G]; omega

theorem Fo.Row.app {W : World} {S : Nat → Prop} : ∀ {F G : Fo} {b o : Nat}, Fo.Row W S F b o → Fo.Row W S G b (o + F.len * 4) → Fo.Row W S (F.app G) b o
  | .nil, _, _, _, _, h => by simpa [Fo.app, Fo.len] using h
  | .cons _ _ _ _ _ _ r, G, b, o, ⟨hk, hix, hn, c1, ci, c2, c3, h4, h5, h6, h7⟩, h => by
    refine ⟨hk, hix, hn, c1, ci, c2, c3, h4, h5, h6, Fo.Row.app h7 ?_⟩
    have e : o + 4 + r.len * 4 = o + (r.len + 1) * 4 := by omega
    rw [e]
    exact h

/-- The same kinds, names and kids in order. -/
def Fo.sim : Fo → Fo → Prop
  | .nil, .nil => True
  | .cons k ix nm _ _ ks r, .cons k' ix' nm' _ _ ks' r' => k = k' ∧ ix = ix' ∧ nm = nm' ∧ ks.sim ks' ∧ r.sim r'
  | _, _ => False

theorem Fo.sim.refl : ∀ F : Fo, F.sim F
  | .nil => trivial
  | .cons _ _ _ _ _ ks r => ⟨rfl, rfl, rfl, Fo.sim.refl ks, Fo.sim.refl r⟩

theorem Fo.sim.symm : ∀ {F G : Fo}, F.sim G → G.sim F
  | .nil, .nil, _ => trivial
  | .cons _ _ _ _ _ _ _, .cons _ _ _ _ _ _ _, ⟨a, z, b, c, d⟩ => ⟨a.symm, z.symm, b.symm, c.symm, d.symm⟩
  | .nil, .cons _ _ _ _ _ _ _, h => h.elim
  | .cons _ _ _ _ _ _ _, .nil, h => h.elim

theorem Fo.sim.trans : ∀ {F G H : Fo}, F.sim G → G.sim H → F.sim H
  | .nil, .nil, .nil, _, _ => trivial
  | .cons _ _ _ _ _ _ _, .cons _ _ _ _ _ _ _, .cons _ _ _ _ _ _ _, ⟨a, z, b, c, d⟩, ⟨a', z', b', c', d'⟩ => ⟨a.trans a', z.trans z', b.trans b', c.trans c', d.trans d'⟩
  | .nil, .cons _ _ _ _ _ _ _, _, h, _ => h.elim
  | .cons _ _ _ _ _ _ _, .nil, _, h, _ => h.elim
  | .nil, .nil, .cons _ _ _ _ _ _ _, _, h => h.elim
  | .cons _ _ _ _ _ _ _, .cons _ _ _ _ _ _ _, .nil, _, h => h.elim

theorem Fo.sim.len : ∀ {F G : Fo}, F.sim G → F.len = G.len
  | .nil, .nil, _ => rfl
  | .cons _ _ _ _ _ _ _, .cons _ _ _ _ _ _ _, ⟨_, _, _, _, d⟩ => by simp only [Fo.len, d.len]
  | .nil, .cons _ _ _ _ _ _ _, h => h.elim
  | .cons _ _ _ _ _ _ _, .nil, h => h.elim

theorem Fo.sim.size : ∀ {F G : Fo}, F.sim G → F.size = G.size
  | .nil, .nil, _ => rfl
  | .cons _ _ _ _ _ _ _, .cons _ _ _ _ _ _ _, ⟨_, _, _, c, d⟩ => by simp only [Fo.size, c.size, d.size]
  | .nil, .cons _ _ _ _ _ _ _, h => h.elim
  | .cons _ _ _ _ _ _ _, .nil, h => h.elim

theorem Fo.sim.tot : ∀ {F G : Fo}, F.sim G → F.tot = G.tot
  | .nil, .nil, _ => rfl
  | .cons _ _ _ _ _ _ _, .cons _ _ _ _ _ _ _, ⟨_, _, e, c, d⟩ => by subst e; simp only [Fo.tot, c.tot, d.tot]
  | .nil, .cons _ _ _ _ _ _ _, h => h.elim
  | .cons _ _ _ _ _ _ _, .nil, h => h.elim

theorem Fo.sim.app : ∀ {F F' G G' : Fo}, F.sim F' → G.sim G' → (F.app G).sim (F'.app G')
  | .nil, .nil, _, _, _, h => h
  | .cons _ _ _ _ _ _ _, .cons _ _ _ _ _ _ _, _, _, ⟨a, z, b, c, d⟩, h => ⟨a, z, b, c, d.app h⟩
  | .nil, .cons _ _ _ _ _ _ _, _, _, h, _ => h.elim
  | .cons _ _ _ _ _ _ _, .nil, _, _, h, _ => h.elim

/-- No row of kids is nil. -/
def Fo.Full : Fo → Prop
  | .nil => True
  | .cons _ _ _ a _ ks r => a.isSome = true ∧ ks.Full ∧ r.Full

theorem Fo.Full.app : ∀ {F G : Fo}, F.Full → G.Full → (F.app G).Full
  | .nil, _, _, h => h
  | .cons _ _ _ _ _ _ _, _, ⟨a, b, c⟩, h => ⟨a, b, c.app h⟩

/-- A node's value. -/
def nodeV (k ix : Int) (nm : ByteArray) (a : Option Addr) (len cap : Nat) : Value := .agg #[.int .i64 k, .int .i64 ix, .string nm, .slice a len cap]

/-- The nodes, each ahead of its kids, and how deep each stands. -/
def Fo.pre : Fo → Nat → List (Nat × Value)
  | .nil, _ => []
  | .cons k ix nm a cap ks r, d => (d, nodeV k ix nm a ks.len cap) :: (ks.pre (d + 1) ++ r.pre d)

theorem Fo.pre_length : ∀ (F : Fo) (d : Nat), (F.pre d).length = F.size
  | .nil, _ => rfl
  | .cons _ _ _ _ _ ks r, d => by simp only [Fo.pre, Fo.size, List.length_cons, List.length_append, ks.pre_length, r.pre_length]; omega

end Go.Proofs.Ytjlefdalobgdfaa
