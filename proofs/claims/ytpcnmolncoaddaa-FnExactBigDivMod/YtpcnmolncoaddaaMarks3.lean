import Derived.Test.YtpcnmolncoaddaaBx
import Derived.Test.YtpcnmolncoaddaaLawOf
namespace Go.Proofs.Ytpcnmolncoaddaa
open Go.RowKit Go.Joins

theorem markZ (m : Bool) {B : Nat} {v : Value} {n : Nat} {f : Nat → Nat} {w : World} (z Z : Int) (k0 : Nat) (hz : z = k0) (hZ : Z = ((k0 + n : Nat) : Int)) (ho : Own B w v n f) (hk : k0 + n < 4294967296) (hB : B ≤ w.heap.size) :
    Calls Try.prog 36 #[.agg #[.bool m, v], .int .i64 z] w fun e w' => e = .returned (.int .i64 Z) ∧ Own B w' v n (fun i => k0 + i) ∧ Below B w w' ∧ ∀ x, x < w.heap.size → (0 < n → v.ownBlock ≠ some x) → w'.heap[x]? = w.heap[x]? := by
  subst hz hZ
  exact markBig_any m k0 ho hk hB
theorem heldZ (m : Bool) {v : Value} {n : Nat} {w : World} (z Z : Int) (k0 : Nat) (hz : z = k0) (hZ : Z = ((k0 + n : Nat) : Int)) (ho : Lim w v n (fun i => k0 + i)) (hk : k0 + n < 4294967296) :
    Calls Try.prog 37 #[.agg #[.bool m, v], .int .i64 z] w fun e w' => e = .returned (.int .i64 Z) ∧ Below w.heap.size w w' := by
  subst hz hZ
  exact heldBig_any m k0 ho hk

set_option maxHeartbeats 400000 in
theorem eqRes_any (code : Int) (m : Bool) (v v' : Value) (n : Nat) (f g : Nat → Nat) (w : World) (hL : Lim w v n f) (hL' : Lim w v' n g) (hn : n ≤ 1048576) (he : ∀ i, i < n → f i = g i) :
    Calls Try.prog 41 #[.agg #[.int .i64 code, .bool m, v], .agg #[.int .i64 code, .bool m, v']] w fun e w' => e = .returned (.bool true) ∧ Below w.heap.size w w' := by
  obtain ⟨a, c, rfl, h1, h2, h3, h4⟩ := id hL
  obtain ⟨a', c', rfl, h1', h2', h3', h4'⟩ := id hL'
  go_enter Try.func41, Try.ntmps41
  go_wp2_with fail
  refine (eqBig_any m _ _ n f g _ (hL.below (below_alloc2 _ _ _)) (hL'.below (below_alloc2 _ _ _)) hn he).mono ?_
  rintro e w1 ⟨rfl, hb1⟩
  go_wp2_with fail
  go_ret
  exact ⟨rfl, (below_alloc2 _ _ _).trans (hb1.mono (by simp; omega))⟩

set_option maxHeartbeats 400000 in
theorem markRes_any (code : Int) (m : Bool) {B : Nat} {v : Value} {n : Nat} {f : Nat → Nat} {w : World} (Z : Int) (HZ : Hid (Z = ((1 + n : Nat) : Int))) (ho : Own B w v n f) (hk : n ≤ 1048576) (hB : B ≤ w.heap.size) :
    Calls Try.prog 42 #[.agg #[.int .i64 code, .bool m, v], .int .i64 1] w fun e w' => e = .returned (.int .i64 Z) ∧ Own B w' v n (fun i => 1 + i) ∧ Below B w w' ∧ ∀ x, x < w.heap.size → (0 < n → v.ownBlock ≠ some x) → w'.heap[x]? = w.heap[x]? := by
  obtain ⟨a, c, rfl, -⟩ := id ho
  go_enter Try.func42, Try.ntmps42
  go_wp2_with fail
  refine (markZ m 1 Z 1 rfl HZ.out (ho.below (below_alloc1 _ _)) (by omega) (by simp; omega)).mono ?_
  rintro e w1 ⟨rfl, ho1, hb1, hk1⟩
  go_wp2_with fail
  go_ret
  refine ⟨rfl, ho1, ((below_alloc1 w _).mono hB).trans hb1, fun x hx hne => ?_⟩
  rw [hk1 x (by simp; omega) hne]
  exact Below.heap_alloc _ _ _ hx

set_option maxHeartbeats 400000 in
theorem heldRes_any (code : Int) (m : Bool) {v : Value} {n : Nat} {w : World} (Z : Int) (HZ : Hid (Z = ((1 + n : Nat) : Int))) (hZ0 : 0 ≤ Z) (ho : Lim w v n (fun i => 1 + i)) (hk : n ≤ 1048576) :
    Calls Try.prog 43 #[.agg #[.int .i64 code, .bool m, v], .int .i64 1] w fun e w' => e = .returned (.int .i64 Z) ∧ Below w.heap.size w w' := by
  obtain ⟨a, c, rfl, -⟩ := id ho
  go_enter Try.func43, Try.ntmps43
  go_wp2_with fail
  refine (heldZ m 1 Z 1 rfl HZ.out (ho.below (below_alloc1 _ _)) (by omega)).mono ?_
  rintro e w1 ⟨rfl, hb1⟩
  go_wp2_with fail
  go_ret
  exact ⟨rfl, (below_alloc1 _ _).trans (hb1.mono (by simp))⟩

structure At3 (wx : World) (b : Nat) (x0 x1 x2 : Value) : Prop where
  c0 : wx.cell? ⟨b, 0, none⟩ = some x0
  c1 : wx.cell? ⟨b, 1, none⟩ = some x1
  c2 : wx.cell? ⟨b, 2, none⟩ = some x2
  lt : b < wx.heap.size
theorem At3.start (w : World) (x0 x1 x2 : Value) (t : TypeId) : At3 (w.alloc (.cells #[x0, x1, x2] t)) w.heap.size x0 x1 x2 := ⟨by simp, by simp, by simp, by simp⟩
theorem At3.keep {w w' b x0 x1 x2} (h : At3 w b x0 x1 x2) (hk : w'.heap[b]? = w.heap[b]?) (hz : w.heap.size ≤ w'.heap.size) : At3 w' b x0 x1 x2 := by
  refine ⟨?_, ?_, ?_, by have := h.lt; omega⟩
  · rw [← h.c0]; simp only [World.cell?]; rw [hk]
  · rw [← h.c1]; simp only [World.cell?]; rw [hk]
  · rw [← h.c2]; simp only [World.cell?]; rw [hk]
theorem At3.next {w1 w2 : World} {b : Nat} {x0 x1 x2 : Value} (h : At3 w1 b x0 x1 x2) (hb : Below w1.heap.size w1 w2) : At3 w2 b x0 x1 x2 := h.keep (hb.block _ h.lt) hb.size
theorem Box2.keep {w w1 w2 : World} {x0 x1 y0 y1 : Value} (h : Box2 w w1 x0 x1 y0 y1) (B : Nat) (hb : Below B w1 w2) (hB : w.heap.size + 1 < B) : Box2 w w2 x0 x1 y0 y1 := by
  have hz := h.z
  exact ⟨(hb.cell (p := ⟨w.heap.size, 0, none⟩) (by show w.heap.size < B; omega)).trans h.a0, (hb.cell (p := ⟨w.heap.size, 1, none⟩) (by show w.heap.size < B; omega)).trans h.a1, (hb.cell (p := ⟨w.heap.size + 1, 0, none⟩) hB).trans h.b0, (hb.cell (p := ⟨w.heap.size + 1, 1, none⟩) hB).trans h.b1, by have := hb.size; omega, h.bel.trans (hb.mono (by omega))⟩

/-- A slice whose cells lie in a block from lo on and below hi. -/
def In (lo hi : Nat) (v : Value) (n : Nat) : Prop := ∀ b, 0 < n → v.ownBlock = some b → lo ≤ b ∧ b < hi
theorem Own.inn {B w v n f} (h : Own B w v n f) : In B w.heap.size v n := fun b hn hb => by
  obtain ⟨b', e, h1, h2⟩ := h.at hn
  rw [e] at hb; obtain rfl := Option.some.inj hb; exact ⟨h1, h2⟩
theorem Lim.keepIn {w w' v n f lo hi} (h : Lim w v n f) (hi' : In lo hi v n) (hk : ∀ b, lo ≤ b → b < hi → w'.heap[b]? = w.heap[b]?) : Lim w' v n f := h.keep (fun b hn hb => hk b (hi' b hn hb).1 (hi' b hn hb).2)

end Go.Proofs.Ytpcnmolncoaddaa
