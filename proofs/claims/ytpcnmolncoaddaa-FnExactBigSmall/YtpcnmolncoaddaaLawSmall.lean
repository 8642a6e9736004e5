import Derived.Test.YtpcnmolncoaddaaLaw2
import Derived.Test.YtpcnmolncoaddaaSmall2
namespace Go.Proofs.Ytpcnmolncoaddaa
open Go.RowKit Go.Joins

set_option maxHeartbeats 4000000 in
set_option maxRecDepth 100000 in
theorem lawSmall (m : Bool) (v : Value) (n : Nat) (f : Nat → Nat) (w : World) (hL : Lim w v n f) :
    Calls Try.prog 8 #[.agg #[.bool m, v]] w fun e w' => e = .returned (.bool true) ∧ Below w.heap.size w w' := by
  obtain ⟨a, c, rfl, k1, k2, -⟩ := id hL
  unfold maxLen at k2
  by_cases hn : 1048576 < n
  · go_enter Try.func8, Try.ntmps8
    go_wp2_with fail
    refine (szBig_any m a n c 1048576 _ (by omega) (by omega) (by omega)).mono ?_
    rintro e w1 ⟨rfl, hb1⟩
    rw [if_pos (by omega)]
    go_wp2_with fail
    go_ret
    exact ⟨rfl, (below_alloc1 _ _).trans (hb1.mono (by simp))⟩
  go_enter Try.func8, Try.ntmps8
  go_wp2_with fail
  refine (szBig_any m a n c 1048576 _ (by omega) (by omega) (by omega)).mono ?_
  rintro e w1 ⟨rfl, hb1⟩
  rw [if_neg (by omega)]
  have t1 := (At2.start w (.bool m) (.slice a n c) 46).next hb1
  have bel1 := (below_alloc1 w _).trans (hb1.mono (by simp))
  clear hb1
  obtain ⟨a0, a1, az⟩ := id t1
  go_wp2_with fail
  refine (toBig_any m _ n f _ (hL.below bel1) (by omega)).mono ?_
  rintro e w2 ⟨v2, rfl, ho2, hb2⟩
  have t2 := t1.next hb2
  have bel2 := bel1.trans (hb2.mono (by omega))
  clear hb2 t1 bel1 a0 a1 az
  obtain ⟨a0, a1, az⟩ := id t2
  go_wp2_with fail
  refine (sSmall_any m _ n f _ ho2.lim).mono ?_
  rintro e w3 ⟨rfl, hb3⟩
  have HI : Hid (∀ (v : Value) (w : World), Lim w v n f → Calls Try.prog 30 #[.agg #[.bool m, v]] w fun e w' => e = .returned (.agg #[.bool (smallOf m n f).1, .int .i64 (smallOf m n f).2]) ∧ Below w.heap.size w w') := fun v w h => iSmall_any m v n f w h
  generalize (smallOf m n f).1 = g at HI ⊢
  generalize (smallOf m n f).2 = x at HI ⊢
  have t3 := (t2.next hb3).next (below_alloc1 w3 (.cells #[.bool g, .int .i64 x] 44))
  have s3 := At2.start w3 (.bool g) (.int .i64 x) 44
  have bel3 := (bel2.trans (hb3.mono (by omega))).trans ((below_alloc1 w3 (.cells #[.bool g, .int .i64 x] 44)).mono (by have := t2.lt; have := hb3.size; omega))
  clear hb3 t2 bel2 a0 a1 az ho2
  obtain ⟨a0, a1, az⟩ := id t3
  go_wp2_with fail
  refine (toBig_any m _ n f _ (hL.below bel3) (by omega)).mono ?_
  rintro e w4 ⟨v4, rfl, ho4, hb4⟩
  obtain ⟨a4, c4, rfl, -⟩ := id ho4
  have bel4 : Below w.heap.size w (w4.alloc (.cells #[.bool m, .slice a4 n c4] 25)) := (bel3.trans (hb4.mono (by omega))).alloc (by have := hb4.size; omega) _
  have t4 := (t3.next hb4).next (below_alloc1 w4 (.cells #[.bool m, .slice a4 n c4] 25))
  have s4 := (s3.next hb4).next (below_alloc1 w4 (.cells #[.bool m, .slice a4 n c4] 25))
  have x4 := At2.start w4 (.bool m) (.slice a4 n c4) 25
  have l4 := ho4.lim.below (below_alloc1 w4 (.cells #[.bool m, .slice a4 n c4] 25))
  clear hb4 t3 s3 bel3 a0 a1 az ho4
  go_wp2_with fail
  refine (HI.out _ _ l4).mono ?_
  rintro e w5 ⟨rfl, hb5⟩
  have t5 := (t4.next hb5).next (below_alloc1 w5 (.cells #[.bool g, .int .i64 x] 44))
  have s5 := (s4.next hb5).next (below_alloc1 w5 (.cells #[.bool g, .int .i64 x] 44))
  have x5 := (x4.next hb5).next (below_alloc1 w5 (.cells #[.bool g, .int .i64 x] 44))
  have y5 := At2.start w5 (.bool g) (.int .i64 x) 44
  have l5 := (l4.below hb5).below (below_alloc1 w5 (.cells #[.bool g, .int .i64 x] 44))
  have bel5 : Below w.heap.size w (w5.alloc (.cells #[.bool g, .int .i64 x] 44)) := (bel4.trans (hb5.mono (by have := t4.lt; omega))).alloc (by have := t4.lt; have := hb5.size; omega) _
  clear hb5 t4 s4 x4 l4 bel4 HI
  obtain ⟨a0, a1, az⟩ := id t5
  obtain ⟨d0, d1, dz⟩ := id s5
  obtain ⟨y0, y1, yz⟩ := id y5
  go_wp2_with fail
  refine (eqSmall_any g x _).mono ?_
  rintro e w6 ⟨rfl, hb6⟩
  have t6 := t5.next hb6
  have x6 := x5.next hb6
  have l6 := l5.below hb6
  have bel6 := bel5.trans (hb6.mono (by have := t5.lt; omega))
  clear hb6 t5 x5 l5 bel5 a0 a1 az d0 d1 dz y0 y1 yz s5 y5
  obtain ⟨a0, a1, az⟩ := id t6
  obtain ⟨x0, x1, xz⟩ := id x6
  go_wp2_with fail
  go_region_with (first
    | (go_at_call 33; refine (toBig_any m _ n f _ ?_ ?_).mono ?_; exact hL.below bel6.drew; omega; rintro e w7 ⟨v7, rfl, ho7, hb7⟩; have c70 := (x6.drew.next hb7).c0; have c71 := (x6.drew.next hb7).c1; have l7 := l6.drew.below hb7; have bel7 := bel6.drew.trans (hb7.mono (by have := t6.lt; simp; omega)))
    | (go_at_call 34; refine (eqBig_any m _ _ n f f _ l7 ho7.lim ?_ ?_).mono ?_; omega; intro i hi; rfl; rintro e w8 ⟨rfl, hb8⟩))
  all_goals
    go_wp2_with fail
    go_ret
    exact ⟨rfl, bel7.trans (hb8.mono (by have := bel7.size; omega))⟩

end Go.Proofs.Ytpcnmolncoaddaa
