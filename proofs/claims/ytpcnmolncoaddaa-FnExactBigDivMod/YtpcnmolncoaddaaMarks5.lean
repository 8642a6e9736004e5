import Derived.Test.YtpcnmolncoaddaaQS
namespace Go.Proofs.Ytpcnmolncoaddaa
open Go.RowKit Go.Joins

set_option maxHeartbeats 1000000 in
theorem eqPair_any (code : Int) (m q : Bool) (v v' u u' : Value) (n k : Nat) (f g f' g' : Nat → Nat) (w : World) (hL : Lim w v n f) (hL' : Lim w v' n g) (hn : n ≤ 1048576) (he : ∀ i, i < n → f i = g i)
    (hU : Lim w u k f') (hU' : Lim w u' k g') (hk : k ≤ 1048576) (hu : ∀ i, i < k → f' i = g' i) :
    Calls Try.prog 49 #[.agg #[.int .i64 code, .bool m, v, .bool q, u], .agg #[.int .i64 code, .bool m, v', .bool q, u']] w fun e w' => e = .returned (.bool true) ∧ Below w.heap.size w w' := by
  obtain ⟨a, c, rfl, -⟩ := id hL
  obtain ⟨a', c', rfl, -⟩ := id hL'
  obtain ⟨b, d, rfl, -⟩ := id hU
  obtain ⟨b', d', rfl, -⟩ := id hU'
  have hb0 := below_alloc2 w (.cells #[.int .i64 code, .bool m, .slice a n c, .bool q, .slice b k d] 37) (.cells #[.int .i64 code, .bool m, .slice a' n c', .bool q, .slice b' k d'] 37)
  go_enter Try.func49, Try.ntmps49
  go_wp2_with fail
  refine (eqBig_any m _ _ n f g _ (hL.below hb0) (hL'.below hb0) hn he).mono ?_
  rintro e w1 ⟨rfl, hb1⟩
  have x0 : w1.cell? ⟨w.heap.size, 3, none⟩ = some (.bool q) := (hb1.cell (p := ⟨w.heap.size, 3, none⟩) (by simp; omega)).trans (by simp [go_sem])
  have x1 : w1.cell? ⟨w.heap.size, 4, none⟩ = some (.slice b k d) := (hb1.cell (p := ⟨w.heap.size, 4, none⟩) (by simp; omega)).trans (by simp [go_sem])
  have x2 : w1.cell? ⟨w.heap.size + 1, 3, none⟩ = some (.bool q) := (hb1.cell (p := ⟨w.heap.size + 1, 3, none⟩) (by simp)).trans (by simp [go_sem])
  have x3 : w1.cell? ⟨w.heap.size + 1, 4, none⟩ = some (.slice b' k d') := (hb1.cell (p := ⟨w.heap.size + 1, 4, none⟩) (by simp)).trans (by simp [go_sem])
  have bel := hb0.trans (hb1.mono (by simp; omega))
  go_wp2_with fail
  refine (eqBig_any q _ _ k f' g' _ (hU.below bel) (hU'.below bel) hk hu).mono ?_
  rintro e w2 ⟨rfl, hb2⟩
  go_wp2_with fail
  go_ret
  exact ⟨rfl, bel.trans (hb2.mono bel.size)⟩

set_option maxHeartbeats 1000000 in
theorem markPair_any (code : Int) (m q : Bool) {B B1 : Nat} {v u : Value} {n k : Nat} {f g : Nat → Nat} {w : World} (Z0 Z : Int) (HZ0 : Hid (Z0 = ((1 + n : Nat) : Int))) (HZ : Hid (Z = ((1 + n + k : Nat) : Int))) (ho : Own B w v n f) (hi : In B B1 v n) (ho' : Own B1 w u k g) (hB : B ≤ B1) (hB1 : B1 ≤ w.heap.size) (hn : n ≤ 1048576) (hk : k ≤ 1048576) :
    Calls Try.prog 50 #[.agg #[.int .i64 code, .bool m, v, .bool q, u], .int .i64 1] w fun e w' => e = .returned (.int .i64 Z) ∧ Own B w' v n (fun i => 1 + i) ∧ Own B1 w' u k (fun i => 1 + n + i) ∧ Below B w w' ∧ ∀ x, x < w.heap.size → (0 < n → v.ownBlock ≠ some x) → (0 < k → u.ownBlock ≠ some x) → w'.heap[x]? = w.heap[x]? := by
  obtain ⟨a, c, rfl, -⟩ := id ho
  obtain ⟨b, d, rfl, -⟩ := id ho'
  have hin := ho'.inn
  go_enter Try.func50, Try.ntmps50
  go_wp2_with fail
  refine (markZ m 1 Z0 1 rfl HZ0.out (ho.below (below_alloc1 _ _)) (by omega) (by simp; omega)).mono ?_
  rintro e w1 ⟨rfl, ho1, hb1, hk1⟩
  have z1 := hb1.size
  simp only [World.size_alloc] at z1
  have hkeep : ∀ x, B1 ≤ x → x < w.heap.size + 1 → w1.heap[x]? = (w.alloc (.cells #[.int .i64 code, .bool m, .slice a n c, .bool q, .slice b k d] 37)).heap[x]? := fun x h1 h2 => hk1 x (by simp; omega) (fun hn e => by have := (hi x hn e).2; omega)
  have hk0 := hkeep w.heap.size (by omega) (by omega)
  have x0 : w1.cell? ⟨w.heap.size, 3, none⟩ = some (.bool q) := by
    have := congrArg (fun o => o) hk0
    simp only [World.cell?, hk0]
    have h : (w.alloc (.cells #[.int .i64 code, .bool m, .slice a n c, .bool q, .slice b k d] 37)).cell? ⟨w.heap.size, 3, none⟩ = some (.bool q) := by simp [go_sem]
    simpa only [World.cell?] using h
  have x1 : w1.cell? ⟨w.heap.size, 4, none⟩ = some (.slice b k d) := by
    simp only [World.cell?, hk0]
    have h : (w.alloc (.cells #[.int .i64 code, .bool m, .slice a n c, .bool q, .slice b k d] 37)).cell? ⟨w.heap.size, 4, none⟩ = some (.slice b k d) := by simp [go_sem]
    simpa only [World.cell?] using h
  have ho2 : Own B1 w1 (.slice b k d) k g := (ho'.below (below_alloc1 _ _)).keepIn (lo := B1) (hi := w.heap.size) hin (fun x h1 h2 => hkeep x h1 (by omega))
  have hin2 := ho2.inn
  have HK := hide hk1
  have HK2 := hide hkeep
  clear hkeep hk0 hk1
  go_wp2_with fail
  refine (markZ q Z0 Z (1 + n) HZ0.out HZ.out ho2 (by omega) (by omega)).mono ?_
  rintro e w2 ⟨rfl, ho3, hb3, hk3⟩
  go_wp2_with fail
  go_ret
  refine ⟨rfl, ho1.keepIn (lo := B) (hi := B1) hi (fun x h1 h2 => hk3 x (by omega) (fun hn e => by have := (hin2 x hn e).1; omega)), ho3, ((below_alloc1 w _).mono (by omega)).trans (hb1.trans (hb3.mono hB)), fun x hx hne hne' => ?_⟩
  rw [hk3 x (by omega) hne', HK.out x (by simp; omega) hne]
  exact Below.heap_alloc _ _ _ hx

set_option maxHeartbeats 1000000 in
theorem heldPair_any (code : Int) (m q : Bool) {v u : Value} {n k : Nat} {w : World} (Z0 Z : Int) (HZ0 : Hid (Z0 = ((1 + n : Nat) : Int))) (HZ : Hid (Z = ((1 + n + k : Nat) : Int))) (hZ0 : 0 ≤ Z0) (hZ : 0 ≤ Z) (ho : Lim w v n (fun i => 1 + i)) (ho' : Lim w u k (fun i => 1 + n + i)) (hn : n ≤ 1048576) (hk : k ≤ 1048576) :
    Calls Try.prog 51 #[.agg #[.int .i64 code, .bool m, v, .bool q, u], .int .i64 1] w fun e w' => e = .returned (.int .i64 Z) ∧ Below w.heap.size w w' := by
  obtain ⟨a, c, rfl, -⟩ := id ho
  obtain ⟨b, d, rfl, -⟩ := id ho'
  go_enter Try.func51, Try.ntmps51
  go_wp2_with fail
  refine (heldZ m 1 Z0 1 rfl HZ0.out (ho.below (below_alloc1 _ _)) (by omega)).mono ?_
  rintro e w1 ⟨rfl, hb1⟩
  have bel := (below_alloc1 w (.cells #[.int .i64 code, .bool m, .slice a n c, .bool q, .slice b k d] 37)).trans (hb1.mono (by simp))
  have x0 : w1.cell? ⟨w.heap.size, 3, none⟩ = some (.bool q) := (hb1.cell (p := ⟨w.heap.size, 3, none⟩) (by simp)).trans (by simp [go_sem])
  have x1 : w1.cell? ⟨w.heap.size, 4, none⟩ = some (.slice b k d) := (hb1.cell (p := ⟨w.heap.size, 4, none⟩) (by simp)).trans (by simp [go_sem])
  go_wp2_with fail
  refine (heldZ q Z0 Z (1 + n) HZ0.out HZ.out (ho'.below bel) (by omega)).mono ?_
  rintro e w2 ⟨rfl, hb2⟩
  go_wp2_with fail
  go_ret
  exact ⟨rfl, bel.trans (hb2.mono bel.size)⟩

structure AtP (wx : World) (b : Nat) (x0 x1 x2 x3 x4 : Value) : Prop where
  c0 : wx.cell? ⟨b, 0, none⟩ = some x0
  c1 : wx.cell? ⟨b, 1, none⟩ = some x1
  c2 : wx.cell? ⟨b, 2, none⟩ = some x2
  c3 : wx.cell? ⟨b, 3, none⟩ = some x3
  c4 : wx.cell? ⟨b, 4, none⟩ = some x4
  lt : b < wx.heap.size
theorem AtP.start (w : World) (x0 x1 x2 x3 x4 : Value) (t : TypeId) : AtP (w.alloc (.cells #[x0, x1, x2, x3, x4] t)) w.heap.size x0 x1 x2 x3 x4 := ⟨by simp, by simp, by simp, by simp, by simp, by simp⟩
theorem AtP.keep {w w' b x0 x1 x2 x3 x4} (h : AtP w b x0 x1 x2 x3 x4) (hk : w'.heap[b]? = w.heap[b]?) (hz : w.heap.size ≤ w'.heap.size) : AtP w' b x0 x1 x2 x3 x4 := by
  have e : ∀ o, w'.cell? ⟨b, o, none⟩ = w.cell? ⟨b, o, none⟩ := fun o => by simp only [World.cell?]; rw [hk]
  exact ⟨(e _).trans h.c0, (e _).trans h.c1, (e _).trans h.c2, (e _).trans h.c3, (e _).trans h.c4, Nat.lt_of_lt_of_le h.lt hz⟩
theorem AtP.next {w1 w2 : World} {b : Nat} {x0 x1 x2 x3 x4 : Value} (h : AtP w1 b x0 x1 x2 x3 x4) (hb : Below w1.heap.size w1 w2) : AtP w2 b x0 x1 x2 x3 x4 := h.keep (hb.block _ h.lt) hb.size

structure ResP (wx : World) (b : Nat) (x0 x1 x2 x3 x4 : Value) : Prop where
  c0 : wx.cell? ⟨b, 0, none⟩ = some x0
  c1 : wx.cell? ⟨b, 1, none⟩ = some x1
  c2 : wx.cell? ⟨b, 2, none⟩ = some x2
  c3 : wx.cell? ⟨b, 3, none⟩ = some x3
  c4 : wx.cell? ⟨b, 4, none⟩ = some x4
  f0 : wx.frozen? ⟨b, 0, none⟩ = false
  f1 : wx.frozen? ⟨b, 1, none⟩ = false
  f2 : wx.frozen? ⟨b, 2, none⟩ = false
  f3 : wx.frozen? ⟨b, 3, none⟩ = false
  f4 : wx.frozen? ⟨b, 4, none⟩ = false
  lt : b < wx.heap.size
theorem ResP.start (w : World) (x0 x1 x2 x3 x4 : Value) (t : TypeId) : ResP (w.alloc (.cells #[x0, x1, x2, x3, x4] t)) w.heap.size x0 x1 x2 x3 x4 := ⟨by simp, by simp, by simp, by simp, by simp, by simp, by simp, by simp, by simp, by simp, by simp⟩
theorem ResP.next {w1 w2 : World} {b : Nat} {x0 x1 x2 x3 x4 : Value} (h : ResP w1 b x0 x1 x2 x3 x4) (hb : Below w1.heap.size w1 w2) : ResP w2 b x0 x1 x2 x3 x4 := by
  have e : ∀ o, w2.cell? ⟨b, o, none⟩ = w1.cell? ⟨b, o, none⟩ := fun o => by simp only [World.cell?]; rw [hb.block _ h.lt]
  have g : ∀ o, w2.frozen? ⟨b, o, none⟩ = w1.frozen? ⟨b, o, none⟩ := fun o => by simp only [World.frozen?]; rw [hb.block _ h.lt]
  exact ⟨(e _).trans h.c0, (e _).trans h.c1, (e _).trans h.c2, (e _).trans h.c3, (e _).trans h.c4, (g _).trans h.f0, (g _).trans h.f1, (g _).trans h.f2, (g _).trans h.f3, (g _).trans h.f4, Nat.lt_of_lt_of_le h.lt hb.size⟩
theorem ResP.drew {wx : World} {b : Nat} {x0 x1 x2 x3 x4 : Value} (h : ResP wx b x0 x1 x2 x3 x4) : ResP wx.drew b x0 x1 x2 x3 x4 := ⟨h.c0, h.c1, h.c2, h.c3, h.c4, h.f0, h.f1, h.f2, h.f3, h.f4, h.lt⟩

/-- The five cells of a block set anew. -/
abbrev set5 (wx : World) (b : Nat) (u0 u1 u2 u3 u4 : Value) : World := ((((wx.setCell ⟨b, 0, none⟩ u0).setCell ⟨b, 1, none⟩ u1).setCell ⟨b, 2, none⟩ u2).setCell ⟨b, 3, none⟩ u3).setCell ⟨b, 4, none⟩ u4
theorem AtP.set5 {wx : World} {b : Nat} {x0 x1 x2 x3 x4 : Value} (h : ResP wx b x0 x1 x2 x3 x4) (u0 u1 u2 u3 u4 : Value) : AtP (((((wx.setCell ⟨b, 0, none⟩ u0).setCell ⟨b, 1, none⟩ u1).setCell ⟨b, 2, none⟩ u2).setCell ⟨b, 3, none⟩ u3).setCell ⟨b, 4, none⟩ u4) b u0 u1 u2 u3 u4 := by
  obtain ⟨c0, c1, c2, c3, c4, f0, f1, f2, f3, f4, lt⟩ := h
  exact ⟨by simp [go_sem, c0], by simp [go_sem, c1], by simp [go_sem, c2], by simp [go_sem, c3], by simp [go_sem, c4], by simpa using lt⟩
theorem Lim.set5 {wx : World} {b : Nat} {v : Value} {n : Nat} {f : Nat → Nat} (h : Lim wx v n f) (u0 u1 u2 u3 u4 : Value) (hb : 0 < n → v.ownBlock ≠ some b) : Lim (((((wx.setCell ⟨b, 0, none⟩ u0).setCell ⟨b, 1, none⟩ u1).setCell ⟨b, 2, none⟩ u2).setCell ⟨b, 3, none⟩ u3).setCell ⟨b, 4, none⟩ u4) v n f := by
  refine h.keep (fun x hn hx => ?_)
  have hne : x ≠ b := fun e => hb hn (by rw [hx, e])
  rw [(Only.setCell _ ⟨b, 4, none⟩ u4).block x hne, (Only.setCell _ ⟨b, 3, none⟩ u3).block x hne, (Only.setCell _ ⟨b, 2, none⟩ u2).block x hne, (Only.setCell _ ⟨b, 1, none⟩ u1).block x hne, (Only.setCell _ ⟨b, 0, none⟩ u0).block x hne]
theorem RS.set5 {w W0 w' : World} {x0 x1 y0 y1 : Value} (h : FS w W0 w' x0 x1 y0 y1) (b : Nat) (u0 u1 u2 u3 u4 : Value) (hb : W0.heap.size ≤ b) : FS w W0 (((((w'.setCell ⟨b, 0, none⟩ u0).setCell ⟨b, 1, none⟩ u1).setCell ⟨b, 2, none⟩ u2).setCell ⟨b, 3, none⟩ u3).setCell ⟨b, 4, none⟩ u4) x0 x1 y0 y1 :=
  RS.setc (RS.setc (RS.setc (RS.setc (RS.setc h _ _ hb) _ _ hb) _ _ hb) _ _ hb) _ _ hb

end Go.Proofs.Ytpcnmolncoaddaa
