import Derived.Test.YtpcnmolncoaddaaRS
namespace Go.Proofs.Ytpcnmolncoaddaa
open Go.RowKit Go.Joins

theorem QS.of {W0 w' : World} {p q : Nat} {x0 x1 y0 y1 : Value} (ax : At2 W0 p x0 x1) (ay : At2 W0 q y0 y1) (hb : Below W0.heap.size W0 w') :
    (w'.cell? ⟨p, 0, none⟩ = some x0 ∧ w'.cell? ⟨p, 1, none⟩ = some x1 ∧ w'.cell? ⟨q, 0, none⟩ = some y0 ∧ w'.cell? ⟨q, 1, none⟩ = some y1) ∧ Below W0.heap.size W0 w' :=
  have a := ax.next hb
  have b := ay.next hb
  ⟨⟨a.c0, a.c1, b.c0, b.c1⟩, hb⟩
theorem below_drew0 (W0 : World) : Below W0.heap.size W0 W0.drew := ⟨rfl, rfl, rfl, Nat.le_refl _, fun _ _ => rfl⟩

theorem Box2.atA {w wx x0 x1 y0 y1} (h : Box2 w wx x0 x1 y0 y1) : At2 wx w.heap.size x0 x1 := ⟨h.a0, h.a1, by have := h.z; omega⟩
theorem Box2.atB {w wx x0 x1 y0 y1} (h : Box2 w wx x0 x1 y0 y1) : At2 wx (w.heap.size + 1) y0 y1 := ⟨h.b0, h.b1, h.z⟩

theorem Own.keepIn {B w w' v n f lo hi} (h : Own B w v n f) (hi' : In lo hi v n) (hk : ∀ b, lo ≤ b → b < hi → w'.heap[b]? = w.heap[b]?) : Own B w' v n f := by
  obtain ⟨a, c, rfl, h1, h2, h3, h4⟩ := h
  refine ⟨a, c, rfl, h1, h2, h3, fun hn => ?_⟩
  obtain ⟨b, off, rfl, h7, h5, h6⟩ := h4 hn
  have e := hk b (hi' b hn rfl).1 (hi' b hn rfl).2
  refine ⟨b, off, rfl, h7, fun i hi => ?_, fun i hi => ?_⟩
  · rw [← h5 i hi]; simp only [World.cell?]; rw [e]
  · rw [← h6 i hi]; simp only [World.frozen?]; rw [e]

/-- What a mark keeps: every block outside the marked slice's stretch. -/
theorem keptOut {lo hi : Nat} {v : Value} {n : Nat} {w w' : World} (hi' : In lo hi v n) (hk : ∀ x, x < w.heap.size → (0 < n → v.ownBlock ≠ some x) → w'.heap[x]? = w.heap[x]?) (x : Nat) (hx : x < w.heap.size) (ho : x < lo ∨ hi ≤ x) : w'.heap[x]? = w.heap[x]? :=
  hk x hx (fun hn hb => by have := hi' x hn hb; omega)

end Go.Proofs.Ytpcnmolncoaddaa
