import Derived.Test.YtpcnmolncoaddaaSigned
import Derived.Deep.RegionHeld3
namespace Go.Proofs.Ytpcnmolncoaddaa
open Go.RowKit Go.Joins

theorem Box2.four {w wx : World} {x0 x1 y0 y1 : Value} (h : Box2 w wx x0 x1 y0 y1) : wx.cell? ⟨w.heap.size, 0, none⟩ = some x0 ∧ wx.cell? ⟨w.heap.size, 1, none⟩ = some x1 ∧ wx.cell? ⟨w.heap.size + 1, 0, none⟩ = some y0 ∧ wx.cell? ⟨w.heap.size + 1, 1, none⟩ = some y1 := ⟨h.a0, h.a1, h.b0, h.b1⟩
theorem Box2.set {w wx : World} {x0 x1 y0 y1 : Value} (h : Box2 w wx x0 x1 y0 y1) (i : Nat) (u : Value) : Box2 w (wx.setCell ⟨w.heap.size + 1 + 1, i, none⟩ u) x0 x1 y0 y1 :=
  have ho : Only (w.heap.size + 1 + 1) wx (wx.setCell ⟨w.heap.size + 1 + 1, i, none⟩ u) := Only.setCell wx ⟨w.heap.size + 1 + 1, i, none⟩ u
  ⟨(ho.cell _ _ (by omega)).trans h.a0, (ho.cell _ _ (by omega)).trans h.a1, (ho.cell _ _ (by omega)).trans h.b0, (ho.cell _ _ (by omega)).trans h.b1, by have := ho.size; have := h.z; omega, h.bel.trans (ho.below (by omega))⟩

structure BxR (w wx : World) (x0 x1 y0 y1 : Value) : Prop where
  box : Box2 w wx x0 x1 y0 y1
  res : Res3 wx (w.heap.size + 1 + 1) (.int .i64 0) (.bool false) (.slice none 0 0)

theorem BxR.start (w : World) (x0 x1 y0 y1 : Value) (t s : TypeId) : BxR w (((w.alloc (.cells #[x0, x1] t)).alloc (.cells #[y0, y1] s)).alloc (.cells #[.int .i64 0, .bool false, .slice none 0 0] 28)) x0 x1 y0 y1 :=
  ⟨(Box2.start w x0 x1 y0 y1 t s).next (below_alloc1 _ _), by have := Res3.start ((w.alloc (.cells #[x0, x1] t)).alloc (.cells #[y0, y1] s)) (.int .i64 0) (.bool false) (.slice none 0 0) 28; simpa only [World.size_alloc] using this⟩
theorem BxR.next {w w1 w2 : World} {x0 x1 y0 y1 : Value} (h : BxR w w1 x0 x1 y0 y1) (hb : Below w1.heap.size w1 w2) : BxR w w2 x0 x1 y0 y1 := ⟨h.box.next hb, h.res.next hb⟩
theorem BxR.draw {w w1 : World} {x0 x1 y0 y1 : Value} (h : BxR w w1 x0 x1 y0 y1) : BxR w w1.drew x0 x1 y0 y1 := h.next ⟨rfl, rfl, rfl, Nat.le_refl _, fun _ _ => rfl⟩

end Go.Proofs.Ytpcnmolncoaddaa
