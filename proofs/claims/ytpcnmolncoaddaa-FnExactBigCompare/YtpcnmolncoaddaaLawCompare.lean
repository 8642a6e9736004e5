import Derived.Test.YtpcnmolncoaddaaLaw2
import Derived.Test.YtpcnmolncoaddaaICompare
namespace Go.Proofs.Ytpcnmolncoaddaa
open Go.RowKit Go.Joins

set_option maxHeartbeats 4000000 in
set_option maxRecDepth 100000 in
theorem lawCompare (m m' : Bool) (v v' : Value) (n n' : Nat) (f f' : Nat → Nat) (w : World) (hL : Lim w v n f) (hL' : Lim w v' n' f') :
    Calls Try.prog 11 #[.agg #[.bool m, v], .agg #[.bool m', v']] w fun e w' => e = .returned (.bool true) ∧ Below w.heap.size w w' := by
  obtain ⟨a, c, rfl, k1, k2, -⟩ := id hL
  obtain ⟨a', c', rfl, k1', k2', -⟩ := id hL'
  unfold maxLen at k2 k2'
  by_cases hn : 1048576 < n
  · go_enter Try.func11, Try.ntmps11
    go_wp2_with fail
    refine (szBig_any m a n c 1048576 _ (by omega) (by omega) (by omega)).mono ?_
    rintro e w1 ⟨rfl, hb1⟩
    rw [if_pos (by omega)]
    have h1 := (Box2.start w _ _ _ _ _ _).next hb1
    clear hb1
    go_wp2_with fail
    go_ret
    exact ⟨rfl, h1.bel⟩
  by_cases hn' : 1048576 - (n : Int) < n'
  · go_enter Try.func11, Try.ntmps11
    go_wp2_with fail
    refine (szBig_any m a n c 1048576 _ (by omega) (by omega) (by omega)).mono ?_
    rintro e w1 ⟨rfl, hb1⟩
    rw [if_neg (by omega)]
    have h1 := (Box2.start w _ _ _ _ _ _).next hb1
    obtain ⟨a0, a1, b0, b1, hz, bel⟩ := id h1
    clear hb1
    go_wp2_with fail
    refine (szBig_any m' a' n' c' _ _ (by omega) (by omega) (by omega)).mono ?_
    rintro e w2 ⟨rfl, hb2⟩
    rw [if_pos (by omega)]
    have h2 := h1.next hb2
    clear hb2
    go_wp2_with fail
    go_ret
    exact ⟨rfl, h2.bel⟩
  go_enter Try.func11, Try.ntmps11
  go_wp2_with fail
  refine (szBig_any m a n c 1048576 _ (by omega) (by omega) (by omega)).mono ?_
  rintro e w1 ⟨rfl, hb1⟩
  rw [if_neg (by omega)]
  have h1 := (Box2.start w _ _ _ _ _ _).next hb1
  obtain ⟨a0, a1, b0, b1, hz, bel⟩ := id h1
  clear hb1
  go_wp2_with fail
  refine (szBig_any m' a' n' c' _ _ (by omega) (by omega) (by omega)).mono ?_
  rintro e w2 ⟨rfl, hb2⟩
  rw [if_neg (by omega)]
  have h2 := h1.next hb2
  clear hb2 a0 a1 b0 b1 hz bel h1
  obtain ⟨a0, a1, b0, b1, hz, bel⟩ := id h2
  go_upto_region 8 with fail
  go_cut [6] (fun s6 wx => s6 = .int .i64 (cmpB m n f m' n' f') ∧ Box2 w wx (.bool m) (.slice a n c) (.bool m') (.slice a' n' c'))
  case first =>
    go_region_with (first
      | (go_at_call_of 33 (Value.slice a n c); refine (toBig_any m _ n f _ ?_ ?_).mono ?_; exact hL.below (by first | exact bel.drew | exact h4.bel); omega; rintro e w3 ⟨v3, rfl, ho3, hb3⟩; have h3 := Box2.next (by first | exact h2.draw | exact h4) hb3; obtain ⟨a0, a1, b0, b1, hz, bel3⟩ := id h3; have l34 := Lim.below (by first | exact ho4.lim | exact hL) (by first | exact hb3 | exact bel3))
      | (go_at_call_of 33 (Value.slice a' n' c'); refine (toBig_any m' _ n' f' _ ?_ ?_).mono ?_; exact hL'.below (by first | exact bel.drew | exact h3.bel); omega; rintro e w4 ⟨v4, rfl, ho4, hb4⟩; have h4 := Box2.next (by first | exact h2.draw | exact h3) hb4; obtain ⟨a0, a1, b0, b1, hz, bel4⟩ := id h4; have l34 := Lim.below (by first | exact ho3.lim | exact hL') (by first | exact hb4 | exact bel4))
      | (go_at_call 44; refine (sCompare_any m m' _ _ n n' f f' _ ?_ ?_).mono ?_; (first | exact ho3.lim | exact l34); (first | exact ho4.lim | exact l34); rintro e w5 ⟨rfl, hb5⟩))
    all_goals
      go_wp2_with fail
      go_meet
      case rel => exact ⟨rfl, by first | exact h4.next hb5 | exact h3.next hb5⟩
  case rest =>
    obtain ⟨rfl, hq⟩ := hcut
    clear a0 a1 b0 b1 hz bel h2
    obtain ⟨a0, a1, b0, b1, hz, bel⟩ := id hq
    go_wp2_with fail
    refine (toBig_any m _ n f _ (hL.below bel) (by omega)).mono ?_
    rintro e w6 ⟨v6, rfl, ho6, hb6⟩
    obtain ⟨a6, c6, rfl, -⟩ := id ho6
    have h6 := (hq.next hb6).next (below_alloc1 w6 (.cells #[.bool m, .slice a6 n c6] 25))
    have t6 := At2.start w6 (.bool m) (.slice a6 n c6) 25
    have l6 := ho6.lim.below (below_alloc1 w6 (.cells #[.bool m, .slice a6 n c6] 25))
    clear a0 a1 b0 b1 hz bel hb6 ho6 hq
    obtain ⟨a0, a1, b0, b1, hz, bel⟩ := id h6
    go_wp2_with fail
    refine (toBig_any m' _ n' f' _ (hL'.below bel) (by omega)).mono ?_
    rintro e w8 ⟨v8, rfl, ho8, hb8⟩
    obtain ⟨a8, c8, rfl, -⟩ := id ho8
    have hM : Mid w (w8.alloc (.cells #[.bool m', .slice a8 n' c8] 25)) m m' n n' f f' (.slice a n c) (.slice a' n' c') w6.heap.size w8.heap.size (.slice a6 n c6) (.slice a8 n' c8) :=
      ⟨(h6.next hb8).next (below_alloc1 _ _), (t6.next hb8).next (below_alloc1 _ _), At2.start _ _ _ _, (l6.below hb8).below (below_alloc1 _ _), ho8.lim.below (below_alloc1 _ _)⟩
    clear a0 a1 b0 b1 hz bel hb8 ho8 h6 t6 l6
    obtain ⟨⟨a0, a1, b0, b1, hz, bel⟩, ⟨x0, x1, xz⟩, ⟨y0, y1, yz⟩, lx, ly⟩ := id hM
    go_wp2_with fail
    refine (iCompare_any m m' _ _ n n' f f' _ lx ly).mono ?_
    rintro e w9 ⟨rfl, hb9⟩
    have hM9 := hM.next hb9
    clear a0 a1 b0 b1 hz bel x0 x1 xz y0 y1 yz lx ly hb9 hM
    obtain ⟨⟨a0, a1, b0, b1, hz, bel⟩, ⟨x0, x1, xz⟩, ⟨y0, y1, yz⟩, lx, ly⟩ := id hM9
    go_upto_region 14 with fail
    go_cut [39] (fun s39 wx => s39 = .bool false ∧ Mid w wx m m' n n' f f' (.slice a n c) (.slice a' n' c') w6.heap.size w8.heap.size (.slice a6 n c6) (.slice a8 n' c8))
    case first =>
      go_region_with (first
        | (go_at_call 33; refine (toBig_any m _ n f _ ?_ ?_).mono ?_; exact hL.below bel.drew; omega; rintro e w10 ⟨v10, rfl, ho10, hb10⟩; have hM10 := hM9.drew.next hb10; obtain ⟨⟨a0, a1, b0, b1, hz, bel10⟩, ⟨x0, x1, xz⟩, ⟨y0, y1, yz⟩, lx10, ly10⟩ := id hM10)
        | (go_at_call 34; refine (eqBig_any m _ _ n f f _ lx10 ho10.lim ?_ ?_).mono ?_; omega; intro i hi; rfl; rintro e w11 ⟨rfl, hb11⟩))
      all_goals
        go_wp2_with fail
        go_meet
        case rel => exact ⟨rfl, hM10.next hb11⟩
    case rest =>
      obtain ⟨rfl, hq⟩ := hcut
      clear a0 a1 b0 b1 hz bel x0 x1 xz y0 y1 yz lx ly hM9
      obtain ⟨⟨a0, a1, b0, b1, hz, bel⟩, ⟨x0, x1, xz⟩, ⟨y0, y1, yz⟩, lx, ly⟩ := id hq
      go_wp2_with fail
      go_region_with (first
        | (go_at_call 33; refine (toBig_any m' _ n' f' _ ?_ ?_).mono ?_; exact hL'.below bel.drew; omega; rintro e w10 ⟨v10, rfl, ho10, hb10⟩; have hM10 := hq.drew.next hb10; obtain ⟨⟨a0, a1, b0, b1, hz, bel10⟩, ⟨x0, x1, xz⟩, ⟨y0, y1, yz⟩, lx10, ly10⟩ := id hM10)
        | (go_at_call 34; refine (eqBig_any m' _ _ n' f' f' _ ly10 ho10.lim ?_ ?_).mono ?_; omega; intro i hi; rfl; rintro e w11 ⟨rfl, hb11⟩))
      all_goals
        go_wp2_with fail
        go_ret
        exact ⟨rfl, (hM10.next hb11).box.bel⟩

end Go.Proofs.Ytpcnmolncoaddaa
