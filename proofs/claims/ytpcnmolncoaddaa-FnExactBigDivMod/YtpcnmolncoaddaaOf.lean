import Derived.Test.YtpcnmolncoaddaaApp
namespace Go.Proofs.Ytpcnmolncoaddaa
open Go.RowKit Go.Joins

def two (U : Nat) : Nat → Nat := fun i => if i = 0 then U % 4294967296 else if i = 1 then U / 4294967296 else 0

theorem two_lt (U : Nat) (h : U ≤ 9223372036854775808) (i : Nat) : two U i < 4294967296 := by
  unfold two
  split
  · omega
  · split <;> omega

theorem lim_two (W : World) (U : Nat) (p q : Int) (b : Nat) (hb : b = W.heap.size) (h : U ≤ 9223372036854775808) (hp : p = ((U % 4294967296 : Nat) : Int)) (hq : q = ((U / 4294967296 : Nat) : Int)) :
    Lim (W.alloc (.cells #[.int .u32 p, .int .u32 q] 60)) (.slice (some ⟨b, 0, none⟩) 2 2) 2 (two U) := by
  subst hb hp hq
  refine ⟨_, 2, rfl, Nat.le_refl _, by unfold maxLen; omega, fun i _ => two_lt U h i, fun _ => ⟨_, 0, rfl, fun i hi => ?_⟩⟩
  match i, hi with
  | 0, _ => simp [two]
  | 1, _ => simp [two]

theorem wneg (U : Nat) (h : U ≤ 9223372036854775808) : IntKind.u64.wrap (-IntKind.u64.wrap (-(U : Int))) = U := by
  rw [IntKind.wrap_u64, IntKind.wrap_u64]; omega

structure Res2 (wx : World) (b : Nat) (x0 x1 : Value) : Prop where
  c0 : wx.cell? ⟨b, 0, none⟩ = some x0
  c1 : wx.cell? ⟨b, 1, none⟩ = some x1
  f0 : wx.frozen? ⟨b, 0, none⟩ = false
  f1 : wx.frozen? ⟨b, 1, none⟩ = false
  lt : b < wx.heap.size
theorem Res2.start (w : World) (x0 x1 : Value) (t : TypeId) : Res2 (w.alloc (.cells #[x0, x1] t)) w.heap.size x0 x1 := ⟨by simp, by simp, by simp, by simp, by simp⟩
theorem Res2.next {w1 w2 : World} {b : Nat} {x0 x1 : Value} (h : Res2 w1 b x0 x1) (hb : Below w1.heap.size w1 w2) : Res2 w2 b x0 x1 :=
  have hz := h.lt
  ⟨(hb.cell (p := ⟨b, 0, none⟩) hz).trans h.c0, (hb.cell (p := ⟨b, 1, none⟩) hz).trans h.c1, (hb.frozen (p := ⟨b, 0, none⟩) hz).trans h.f0, (hb.frozen (p := ⟨b, 1, none⟩) hz).trans h.f1, by have := hb.size; omega⟩

set_option maxHeartbeats 1000000 in
set_option maxRecDepth 100000 in
theorem sOf_pos (U : Nat) (w : World) (h1 : U ≤ 9223372036854775807) (n : Nat) (Hn : Hid (trimN (two U) 2 = n)) :
    Calls Try.prog 35 #[.int .i64 (U : Int)] w fun e w' => ∃ v', e = .returned (.agg #[.bool (false && decide (0 < n)), v']) ∧ Own w.heap.size w' v' n (two U) ∧ Below w.heap.size w w' := by
  have hd : decide ((U : Int) < 0) = false := by simp
  go_enter Try.func35, Try.ntmps35
  go_wp2_with fail
  refine (trim_any (lim_two _ U _ _ _ (by simp) (by omega) (by omega) (by omega)) (nilOk_some _ _ _) (by omega)).mono ?_
  rintro e w1 ⟨v1, rfl, hr1, hb1⟩
  rw [Hn.out] at hr1
  have ho1 := (hr1.own (fun i _ => two_lt U (by omega) i)).less (B' := w.heap.size + 1) (by simp)
  obtain ⟨a1, c1, rfl, -⟩ := id ho1
  have t1 := ((Res2.start w (.bool false) (.slice none 0 0) 25).next (below_alloc1 _ _)).next hb1
  have bel1 := (below_alloc2 w _ _).trans (hb1.mono (by simp; omega))
  clear hb1 hr1
  go_wp2_with fail
  refine (make_any _ a1 n c1 _).mono ?_
  rintro e w2 ⟨rfl, hb2⟩
  have t2 := t1.next hb2
  have ho2 := ho1.below hb2
  have bel2 := bel1.trans (hb2.mono (by have := t1.lt; omega))
  clear hb2 t1 ho1 bel1
  obtain ⟨c0, c1', f0, f1, lt⟩ := id t2
  go_wp2_with fail
  refine bodyPost_ret (v := .agg #[.bool (false && decide (0 < n)), .slice a1 n c1]) (by simp [results, Try.results35, go_sem, c0, c1']) rfl ⟨.slice a1 n c1, rfl, ?_, ?_⟩
  · exact ((ho2.set _ _ (by simp)).set _ _ (by simp)).less (by omega)
  · exact (bel2.setCell (by simp) _).setCell (by simp) _

set_option maxHeartbeats 1000000 in
set_option maxRecDepth 100000 in
theorem sOf_neg (U : Nat) (w : World) (h0 : 0 < U) (h1 : U ≤ 9223372036854775808) (n : Nat) (Hn : Hid (trimN (two U) 2 = n)) :
    Calls Try.prog 35 #[.int .i64 (-(U : Int))] w fun e w' => ∃ v', e = .returned (.agg #[.bool (true && decide (0 < n)), v']) ∧ Own w.heap.size w' v' n (two U) ∧ Below w.heap.size w w' := by
  have hneg : -(U : Int) < 0 := by omega
  go_enter Try.func35, Try.ntmps35
  go_wp2_with fail
  rw [wneg U h1]
  refine (trim_any (lim_two _ U _ _ _ (by simp) (by omega) (by omega) (by omega)) (nilOk_some _ _ _) (by omega)).mono ?_
  rintro e w1 ⟨v1, rfl, hr1, hb1⟩
  rw [Hn.out] at hr1
  have ho1 := (hr1.own (fun i _ => two_lt U (by omega) i)).less (B' := w.heap.size + 1) (by simp)
  obtain ⟨a1, c1, rfl, -⟩ := id ho1
  have t1 := ((Res2.start w (.bool false) (.slice none 0 0) 25).next (below_alloc1 _ _)).next hb1
  have bel1 := (below_alloc2 w _ _).trans (hb1.mono (by simp; omega))
  clear hb1 hr1
  go_wp2_with fail
  refine (make_any _ a1 n c1 _).mono ?_
  rintro e w2 ⟨rfl, hb2⟩
  have t2 := t1.next hb2
  have ho2 := ho1.below hb2
  have bel2 := bel1.trans (hb2.mono (by have := t1.lt; omega))
  clear hb2 t1 ho1 bel1
  obtain ⟨c0, c1', f0, f1, lt⟩ := id t2
  go_wp2_with fail
  refine bodyPost_ret (v := .agg #[.bool (true && decide (0 < n)), .slice a1 n c1]) (by simp [results, Try.results35, go_sem, c0, c1']) rfl ⟨.slice a1 n c1, rfl, ?_, ?_⟩
  · exact ((ho2.set _ _ (by simp)).set _ _ (by simp)).less (by omega)
  · exact (bel2.setCell (by simp) _).setCell (by simp) _

end Go.Proofs.Ytpcnmolncoaddaa
