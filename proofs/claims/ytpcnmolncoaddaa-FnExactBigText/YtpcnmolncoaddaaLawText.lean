import Derived.Test.YtpcnmolncoaddaaLaw2
import Derived.Test.YtpcnmolncoaddaaText
namespace Go.Proofs.Ytpcnmolncoaddaa
open Go.RowKit Go.Joins

set_option maxHeartbeats 4000000 in
set_option maxRecDepth 100000 in
theorem lawText (m : Bool) (v : Value) (n : Nat) (f : Nat → Nat) (w : World) (hL : Lim w v n f) :
    Calls Try.prog 9 #[.agg #[.bool m, v]] w fun e w' => e = .returned (.bool true) ∧ Below w.heap.size w w' := by
  obtain ⟨a, c, rfl, k1, k2, -⟩ := id hL
  unfold maxLen at k2
  by_cases hn : 1048576 < n
  · go_enter Try.func9, Try.ntmps9
    go_wp2_with fail
    refine (szBig_any m a n c 1048576 _ (by omega) (by omega) (by omega)).mono ?_
    rintro e w1 ⟨rfl, hb1⟩
    rw [if_pos (by omega)]
    go_wp2_with fail
    go_ret
    exact ⟨rfl, (below_alloc1 _ _).trans (hb1.mono (by simp))⟩
  go_enter Try.func9, Try.ntmps9
  go_wp2_with fail
  refine (szBig_any m a n c 1048576 _ (by omega) (by omega) (by omega)).mono ?_
  rintro e w1 ⟨rfl, hb1⟩
  rw [if_neg (by omega)]
  have t1 := (At2.start w (.bool m) (.slice a n c) 46).next hb1
  have bel1 := (below_alloc1 w _).trans (hb1.mono (by simp))
  clear hb1
  obtain ⟨a0, a1, az⟩ := id t1
  go_wp2_with fail
  refine (toBig_any m _ n f _ (hL.below bel1) (by omega)).mono ?_
  rintro e w2 ⟨v2, rfl, ho2, hb2⟩
  have t2 := t1.next hb2
  have bel2 := bel1.trans (hb2.mono (by omega))
  clear hb2 t1 bel1 a0 a1 az
  obtain ⟨a0, a1, az⟩ := id t2
  have HI : Hid (∀ (v : Value) (w : World), Lim w v n f → Calls Try.prog 26 #[.agg #[.bool m, v]] w fun e w' => e = .returned (.string ⟨(textOf m n f).toArray⟩) ∧ Below w.heap.size w w') := fun v w h => iText_any m v n f w h
  have HS : Hid (∀ (v : Value) (w : World), Lim w v n f → Calls Try.prog 39 #[.agg #[.bool m, v]] w fun e w' => e = .returned (.string ⟨(textOf m n f).toArray⟩) ∧ Below w.heap.size w w') := fun v w h => sText_any m v n f w h
  generalize textOf m n f = T at HI HS
  go_wp2_with fail
  refine (HS.out _ _ ho2.lim).mono ?_
  rintro e w3 ⟨rfl, hb3⟩
  have t3 := t2.next hb3
  have bel3 := bel2.trans (hb3.mono (by omega))
  clear hb3 t2 bel2 a0 a1 az ho2 HS
  obtain ⟨a0, a1, az⟩ := id t3
  go_wp2_with fail
  refine (toBig_any m _ n f _ (hL.below bel3) (by omega)).mono ?_
  rintro e w4 ⟨v4, rfl, ho4, hb4⟩
  obtain ⟨a4, c4, rfl, -⟩ := id ho4
  have bel4 : Below w.heap.size w (w4.alloc (.cells #[.bool m, .slice a4 n c4] 25)) := (bel3.trans (hb4.mono (by omega))).alloc (by have := hb4.size; omega) _
  have t4 := (t3.next hb4).next (below_alloc1 w4 (.cells #[.bool m, .slice a4 n c4] 25))
  have x4 := At2.start w4 (.bool m) (.slice a4 n c4) 25
  have l4 := ho4.lim.below (below_alloc1 w4 (.cells #[.bool m, .slice a4 n c4] 25))
  clear hb4 t3 bel3 a0 a1 az ho4
  go_wp2_with fail
  refine (HI.out _ _ l4).mono ?_
  rintro e w6 ⟨rfl, hb6⟩
  have t6 := t4.next hb6
  have x6 := x4.next hb6
  have l6 := l4.below hb6
  have bel6 := bel4.trans (hb6.mono (by have := t4.lt; omega))
  clear hb6 t4 x4 l4 bel4 HI
  obtain ⟨a0, a1, az⟩ := id t6
  obtain ⟨x0, x1, xz⟩ := id x6
  go_wp2_with fail
  go_region_with (first
    | (go_at_call 33; refine (toBig_any m _ n f _ ?_ ?_).mono ?_; exact hL.below bel6.drew; omega; rintro e w7 ⟨v7, rfl, ho7, hb7⟩; have c70 := (x6.drew.next hb7).c0; have c71 := (x6.drew.next hb7).c1; have l7 := l6.drew.below hb7; have bel7 := bel6.drew.trans (hb7.mono (by have := t6.lt; simp; omega)))
    | (go_at_call 34; refine (eqBig_any m _ _ n f f _ l7 ho7.lim ?_ ?_).mono ?_; omega; intro i hi; rfl; rintro e w8 ⟨rfl, hb8⟩))
  all_goals
    go_wp2_with fail
    go_ret
    exact ⟨rfl, bel7.trans (hb8.mono (by have := bel7.size; omega))⟩

end Go.Proofs.Ytpcnmolncoaddaa
