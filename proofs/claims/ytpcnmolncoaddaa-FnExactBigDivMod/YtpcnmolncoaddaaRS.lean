import Derived.Test.YtpcnmolncoaddaaMarks3
namespace Go.Proofs.Ytpcnmolncoaddaa
open Go.RowKit Go.Joins

structure RS (w W0 w' : World) (x0 x1 y0 y1 : Value) : Prop where
  box : Box2 w w' x0 x1 y0 y1
  bel : Below W0.heap.size W0 w'
  z : w.heap.size + 1 < W0.heap.size

abbrev FS (w W0 w' : World) (x0 x1 y0 y1 : Value) : Prop :=
  (w'.cell? ⟨w.heap.size, 0, none⟩ = some x0 ∧ w'.cell? ⟨w.heap.size, 1, none⟩ = some x1 ∧ w'.cell? ⟨w.heap.size + 1, 0, none⟩ = some y0 ∧ w'.cell? ⟨w.heap.size + 1, 1, none⟩ = some y1) ∧ RS w W0 w' x0 x1 y0 y1

theorem RS.start {w W0 : World} {x0 x1 y0 y1 : Value} (h : Box2 w W0 x0 x1 y0 y1) : FS w W0 W0.drew x0 x1 y0 y1 :=
  have h' : Box2 w W0.drew x0 x1 y0 y1 := h.draw
  ⟨h'.four, h', ⟨rfl, rfl, rfl, Nat.le_refl _, fun _ _ => rfl⟩, h.z⟩
theorem RS.via {w W0 w' w'' : World} {x0 x1 y0 y1 : Value} (hb : Below w'.heap.size w' w'') (h : FS w W0 w' x0 x1 y0 y1) : FS w W0 w'' x0 x1 y0 y1 :=
  have h' := h.2.box.next hb
  ⟨h'.four, h', h.2.bel.trans (hb.mono h.2.bel.size), h.2.z⟩
theorem RS.setc {w W0 w' : World} {x0 x1 y0 y1 : Value} (h : FS w W0 w' x0 x1 y0 y1) (p : Addr) (u : Value) (hp : W0.heap.size ≤ p.block) : FS w W0 (w'.setCell p u) x0 x1 y0 y1 :=
  have ho := Only.setCell w' p u
  have hz := h.2.z
  have h' := h.2.box.keep W0.heap.size (ho.below hp) hz
  ⟨h'.four, h', h.2.bel.trans (ho.below hp), hz⟩
theorem RS.set3 {w W0 w' : World} {x0 x1 y0 y1 : Value} (h : FS w W0 w' x0 x1 y0 y1) (b : Nat) (u0 u1 u2 : Value) (hb : W0.heap.size ≤ b) : FS w W0 (((w'.setCell ⟨b, 0, none⟩ u0).setCell ⟨b, 1, none⟩ u1).setCell ⟨b, 2, none⟩ u2) x0 x1 y0 y1 :=
  RS.setc (RS.setc (RS.setc h _ _ hb) _ _ hb) _ _ hb
theorem RS.wbel {w W0 w' : World} {x0 x1 y0 y1 : Value} (h : FS w W0 w' x0 x1 y0 y1) : Below w.heap.size w w' := h.2.box.bel
theorem Res3.drew {wx : World} {b : Nat} {x0 x1 x2 : Value} (h : Res3 wx b x0 x1 x2) : Res3 wx.drew b x0 x1 x2 := ⟨h.c0, h.c1, h.c2, h.f0, h.f1, h.f2, h.lt⟩
theorem At3.set3 {wx : World} {b : Nat} {x0 x1 x2 : Value} (h : Res3 wx b x0 x1 x2) (u0 u1 u2 : Value) : At3 (((wx.setCell ⟨b, 0, none⟩ u0).setCell ⟨b, 1, none⟩ u1).setCell ⟨b, 2, none⟩ u2) b u0 u1 u2 := by
  obtain ⟨c0, c1, c2, f0, f1, f2, lt⟩ := h
  exact ⟨by simp [go_sem, c0], by simp [go_sem, c1], by simp [go_sem, c2], by simpa using lt⟩
theorem Lim.set3 {wx : World} {b : Nat} {v : Value} {n : Nat} {f : Nat → Nat} (h : Lim wx v n f) (u0 u1 u2 : Value) (hb : 0 < n → v.ownBlock ≠ some b) : Lim (((wx.setCell ⟨b, 0, none⟩ u0).setCell ⟨b, 1, none⟩ u1).setCell ⟨b, 2, none⟩ u2) v n f := by
  have ho := ((Only.setCell wx ⟨b, 0, none⟩ u0).trans (Only.setCell _ ⟨b, 1, none⟩ u1)).trans (Only.setCell _ ⟨b, 2, none⟩ u2)
  exact h.keep (fun x hn hx => ho.block x (fun e => hb hn (by rw [hx, e])))

end Go.Proofs.Ytpcnmolncoaddaa
