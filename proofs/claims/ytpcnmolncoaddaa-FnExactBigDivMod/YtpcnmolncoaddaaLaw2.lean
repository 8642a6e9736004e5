import Derived.Test.YtpcnmolncoaddaaSCompare
namespace Go.Proofs.Ytpcnmolncoaddaa
open Go.RowKit Go.Joins

structure At2 (wx : World) (b : Nat) (x0 x1 : Value) : Prop where
  c0 : wx.cell? ⟨b, 0, none⟩ = some x0
  c1 : wx.cell? ⟨b, 1, none⟩ = some x1
  lt : b < wx.heap.size

theorem At2.start (w : World) (x0 x1 : Value) (t : TypeId) : At2 (w.alloc (.cells #[x0, x1] t)) w.heap.size x0 x1 := ⟨by simp, by simp, by simp⟩
theorem At2.next {w1 w2 : World} {b : Nat} {x0 x1 : Value} (h : At2 w1 b x0 x1) (hb : Below w1.heap.size w1 w2) : At2 w2 b x0 x1 :=
  have hz := h.lt
  ⟨(hb.cell (p := ⟨b, 0, none⟩) hz).trans h.c0, (hb.cell (p := ⟨b, 1, none⟩) hz).trans h.c1, by have := hb.size; omega⟩
theorem At2.drew {w1 : World} {b : Nat} {x0 x1 : Value} (h : At2 w1 b x0 x1) : At2 w1.drew b x0 x1 := ⟨h.c0, h.c1, h.lt⟩

/-- What the law's frame holds on from its middle: the two arguments' boxes, the two copies' boxes, the copies. -/
structure Mid (w wx : World) (m m' : Bool) (n n' : Nat) (f f' : Nat → Nat) (va va' : Value) (x y : Nat) (vx vy : Value) : Prop where
  box : Box2 w wx (.bool m) va (.bool m') va'
  ax : At2 wx x (.bool m) vx
  ay : At2 wx y (.bool m') vy
  lx : Lim wx vx n f
  ly : Lim wx vy n' f'

theorem Mid.next {w wx wy : World} {m m' : Bool} {n n' : Nat} {f f' : Nat → Nat} {va va' : Value} {x y : Nat} {vx vy : Value} (h : Mid w wx m m' n n' f f' va va' x y vx vy) (hb : Below wx.heap.size wx wy) : Mid w wy m m' n n' f f' va va' x y vx vy :=
  ⟨h.box.next hb, h.ax.next hb, h.ay.next hb, h.lx.below hb, h.ly.below hb⟩
theorem Mid.drew {w wx : World} {m m' : Bool} {n n' : Nat} {f f' : Nat → Nat} {va va' : Value} {x y : Nat} {vx vy : Value} (h : Mid w wx m m' n n' f f' va va' x y vx vy) : Mid w wx.drew m m' n n' f f' va va' x y vx vy :=
  h.next ⟨rfl, rfl, rfl, Nat.le_refl _, fun _ _ => rfl⟩

end Go.Proofs.Ytpcnmolncoaddaa
