import Derived.Test.YtfgmgbkiebeeoaaRe
namespace Go.Proofs.Ytfgmgbkiebeeoaa
open Go.RowKit Go.Joins

theorem Kept.alloc' {S : Nat → Prop} {A B : World} {o : Obj} (h : Kept S A B) : Kept S A (B.alloc o) := h.trans (Kept.alloc S B o)
theorem Kept.drew' {S : Nat → Prop} {A B : World} (h : Kept S A B) : Kept S A B.drew := h.trans (Kept.drew S B)
theorem Kept.set' {A B : World} {p : Addr} {v : Value} (hp : A.heap.size ≤ p.block) (h : Kept (fun _ => True) A B) : Kept (fun _ => True) A (B.setCell p v) :=
  ⟨h.os, h.tape, h.output, by simp [World.setCell]; exact h.size, fun k hk _ => by rw [← h.block k hk trivial]; exact Below.heap_setCell _ _ _ _ (fun e => by omega)⟩

/-- The cells of a term, a node that points to it, and the ground's rows, as sameAlone reads them. -/
structure AL (w : World) (G nb n nc a b db dd eb ee : Nat) (i1 i2 j1 j2 : Int) (C D kc ac : Nat) (tk ta : Nat) : Prop where
  n8 : w.cell? ⟨G, 8, none⟩ = some (.slice (some ⟨nb, 0, none⟩) n nc)
  a0 : w.cell? ⟨nb, a * 3, none⟩ = some (.pointer (some ⟨db, dd, none⟩))
  a1 : w.cell? ⟨nb, a * 3 + 1, none⟩ = some (.int .i64 i1)
  a2 : w.cell? ⟨nb, a * 3 + 2, none⟩ = some (.int .i64 i2)
  b0 : w.cell? ⟨nb, b * 3, none⟩ = some (.pointer (some ⟨eb, ee, none⟩))
  b1 : w.cell? ⟨nb, b * 3 + 1, none⟩ = some (.int .i64 j1)
  b2 : w.cell? ⟨nb, b * 3 + 2, none⟩ = some (.int .i64 j2)
  c2 : w.cell? ⟨G, 2, none⟩ = some (.slice (some ⟨tk, 0, none⟩) C kc)
  c6 : w.cell? ⟨G, 6, none⟩ = some (.slice (some ⟨ta, 0, none⟩) D ac)

theorem AL.below {w w' : World} {G nb n nc a b db dd eb ee : Nat} {i1 i2 j1 j2 : Int} {C D kc ac tk ta : Nat} (h : AL w G nb n nc a b db dd eb ee i1 i2 j1 j2 C D kc ac tk ta) (k : Kept (fun _ => True) w w') : AL w' G nb n nc a b db dd eb ee i1 i2 j1 j2 C D kc ac tk ta := by
  have f : ∀ (p : Addr) v, w.cell? p = some v → w'.cell? p = some v := fun p v hv => (k.cell (block_lt_of_cell hv) trivial).trans hv
  exact ⟨f _ _ h.n8, f _ _ h.a0, f _ _ h.a1, f _ _ h.a2, f _ _ h.b0, f _ _ h.b1, f _ _ h.b2, f _ _ h.c2, f _ _ h.c6⟩

theorem two_box (w : World) (A B : List Value) (t u : TypeId) : Bx ((w.alloc (.cells A.toArray t)).alloc (.cells B.toArray u)).drew w.heap.size A ∧ Bx ((w.alloc (.cells A.toArray t)).alloc (.cells B.toArray u)).drew (w.heap.size + 1) B ∧ Kept (fun _ => True) w ((w.alloc (.cells A.toArray t)).alloc (.cells B.toArray u)).drew := by
  have h1 := Bx.new w A t
  have h2 := Bx.new (w.alloc (.cells A.toArray t)) B u
  simp only [World.size_alloc] at h2
  exact ⟨(h1.kept (Kept.alloc (fun _ => True) _ _) trivial).kept (Kept.drew (fun _ => True) _) trivial, h2.kept (Kept.drew (fun _ => True) _) trivial, ((Kept.alloc _ _ _).trans (Kept.alloc _ _ _)).trans (Kept.drew _ _)⟩

/-- What two terms have to have in common, those below them aside. -/
def HdQ (k k' : Int) (nm nm' : ByteArray) (mn mn' : Bool) (ln ln' nn nn' kn kn' an an' : Nat) (L N : Prop) : Prop := k = k' ∧ nm = nm' ∧ kn = kn' ∧ an = an' ∧ mn = mn' ∧ (ln = ln' ∧ L) ∧ (nn = nn' ∧ N)

end Go.Proofs.Ytfgmgbkiebeeoaa
