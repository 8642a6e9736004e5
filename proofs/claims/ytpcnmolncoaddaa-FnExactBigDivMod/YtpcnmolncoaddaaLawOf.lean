import Derived.Test.YtpcnmolncoaddaaOf2
import Derived.Test.YtpcnmolncoaddaaLaw2
import Derived.OpenShut
namespace Go.Proofs.Ytpcnmolncoaddaa
open Go.RowKit Go.Joins

theorem mark1 (m : Bool) {B : Nat} {v : Value} {n : Nat} {f : Nat → Nat} {w : World} (ho : Own B w v n f) (hn : n ≤ 1048576) (hB : B ≤ w.heap.size) :
    Calls Try.prog 36 #[.agg #[.bool m, v], .int .i64 1] w fun e w' => e = .returned (.int .i64 (1 + (n : Int))) ∧ Own B w' v n (fun i => 1 + i) ∧ Below B w w' ∧ ∀ x, x < w.heap.size → (0 < n → v.ownBlock ≠ some x) → w'.heap[x]? = w.heap[x]? := by
  refine (markBig_any m (w := w) 1 ho (by omega) hB).mono ?_
  rintro e w' ⟨rfl, h⟩
  exact ⟨ret_int (by omega), h⟩
theorem held1 (m : Bool) {v : Value} {n : Nat} {w : World} (ho : Lim w v n (fun i => 1 + i)) (hn : n ≤ 1048576) :
    Calls Try.prog 37 #[.agg #[.bool m, v], .int .i64 1] w fun e w' => e = .returned (.int .i64 (1 + (n : Int))) ∧ Below w.heap.size w w' := by
  refine (heldBig_any m (w := w) 1 ho (by omega)).mono ?_
  rintro e w' ⟨rfl, h⟩
  exact ⟨ret_int (by omega), h⟩

theorem Lim.keep {w w' v n f} (h : Lim w v n f) (hk : ∀ b, 0 < n → v.ownBlock = some b → w'.heap[b]? = w.heap[b]?) : Lim w' v n f := by
  obtain ⟨a, c, rfl, h1, h2, h3, h4⟩ := h
  refine ⟨a, c, rfl, h1, h2, h3, fun hn => ?_⟩
  obtain ⟨b, off, rfl, h5⟩ := h4 hn
  refine ⟨b, off, rfl, fun i hi => ?_⟩
  rw [← h5 i hi]
  simp only [World.cell?]
  rw [hk b hn rfl]

theorem At2.keep {w w' b x0 x1} (h : At2 w b x0 x1) (hk : w'.heap[b]? = w.heap[b]?) (hz : w.heap.size ≤ w'.heap.size) : At2 w' b x0 x1 := by
  refine ⟨?_, ?_, by have := h.lt; omega⟩
  · rw [← h.c0]; simp only [World.cell?]; rw [hk]
  · rw [← h.c1]; simp only [World.cell?]; rw [hk]

set_option maxHeartbeats 4000000 in
set_option maxRecDepth 100000 in
theorem lawOf_core (x : Int) (bb : Bool) (n : Nat) (f : Nat → Nat) (w : World) (hn : n ≤ 80)
    (HS : Hid (∀ w, Calls Try.prog 35 #[.int .i64 x] w fun e w' => ∃ v', e = .returned (.agg #[.bool bb, v']) ∧ Own w.heap.size w' v' n f ∧ Below w.heap.size w w'))
    (HI : Hid (∀ w, Calls Try.prog 29 #[.int .i64 x] w fun e w' => ∃ v', e = .returned (.agg #[.bool bb, v']) ∧ Own w.heap.size w' v' n f ∧ Below w.heap.size w w')) :
    Calls Try.prog 7 #[.int .i64 x] w fun e w' => e = .returned (.bool true) ∧ Below w.heap.size w w' := by
  go_enter Try.func7, Try.ntmps7
  go_wp2_with fail
  refine (HS.out _).mono ?_
  rintro e w1 ⟨v1, rfl, ho1, hb1⟩
  obtain ⟨a1, c1, rfl, -⟩ := id ho1
  have bel1 : Below w.heap.size w (w1.alloc (.cells #[.bool bb, .slice a1 n c1] 25)) := hb1.alloc hb1.size _
  have l1 := ho1.lim.below (below_alloc1 w1 (.cells #[.bool bb, .slice a1 n c1] 25))
  have t1 := At2.start w1 (.bool bb) (.slice a1 n c1) 25
  have k1 := ho1.at
  have z1 := hb1.size
  clear hb1 ho1 HS
  go_wp2_with fail
  refine (HI.out _).mono ?_
  rintro e w2 ⟨v2, rfl, ho2, hb2⟩
  obtain ⟨a2, c2, rfl, -⟩ := id ho2
  have z2 := hb2.size
  simp only [World.size_alloc] at z2 ho2
  have bel2 : Below w.heap.size w (w2.alloc (.cells #[.bool bb, .slice a2 n c2] 25)) := (bel1.trans (hb2.mono (by simp; omega))).alloc (by omega) _
  have l2 := (l1.below hb2).below (below_alloc1 w2 (.cells #[.bool bb, .slice a2 n c2] 25))
  have t2 := (t1.next hb2).next (below_alloc1 w2 (.cells #[.bool bb, .slice a2 n c2] 25))
  have s2 := At2.start w2 (.bool bb) (.slice a2 n c2) 25
  have o2 := ho2.below (below_alloc1 w2 (.cells #[.bool bb, .slice a2 n c2] 25))
  have k2 := ho2.at
  clear hb2 ho2 bel1 l1 t1
  obtain ⟨p0, p1, pz⟩ := id t2
  obtain ⟨q0, q1, qz⟩ := id s2
  go_wp2_with fail
  refine (eqBig_any bb _ _ n f f _ o2.lim l2 (by omega) (fun _ _ => rfl)).mono ?_
  rintro e w3 ⟨rfl, hb3⟩
  have z3 := hb3.size
  simp only [World.size_alloc] at z3
  have bel3 := bel2.trans (hb3.mono (by omega))
  have l3 := l2.below hb3
  have t3 := t2.next hb3
  have s3 := s2.next hb3
  have o3 := o2.below hb3
  clear hb3 bel2 l2 t2 s2 o2 p0 p1 pz q0 q1 qz
  obtain ⟨p0, p1, pz⟩ := id t3
  obtain ⟨q0, q1, qz⟩ := id s3
  go_wp2_with fail
  refine (mark1 bb o3 (by omega) (by omega)).mono ?_
  rintro e w4 ⟨rfl, o4, hb4, hk4⟩
  have z4 := hb4.size
  have bel4 := bel3.trans (hb4.mono (by omega))
  have l4 : Lim w4 (.slice a1 n c1) n f := l3.keep (fun b hp hb => by
    obtain ⟨b1, e1, _, e3⟩ := k1 hp
    rw [e1] at hb; obtain rfl := Option.some.inj hb
    exact hb4.block _ (by omega))
  have t4 : At2 w4 w1.heap.size (.bool bb) (.slice a1 n c1) := t3.keep (hb4.block _ (by omega)) (by omega)
  have s4 : At2 w4 w2.heap.size (.bool bb) (.slice a2 n c2) := s3.keep (hk4 _ (by omega) (fun hp hb => by
    obtain ⟨b1, e1, _, e3⟩ := k2 hp
    rw [e1] at hb; have := Option.some.inj hb; omega)) (by omega)
  clear hb4 hk4 bel3 l3 t3 s3 o3 p0 p1 pz q0 q1 qz
  obtain ⟨q0, q1, qz⟩ := id s4
  go_wp2_with fail
  refine (held1 bb o4.lim (by omega)).mono ?_
  rintro e w5 ⟨rfl, hb5⟩
  have z5 := hb5.size
  have bel5 := bel4.trans (hb5.mono (by omega))
  have l5 := l4.below hb5
  have t5 := t4.next hb5
  have s5 := s4.next hb5
  have m5 := o4.lim.below hb5
  clear hb5 bel4 l4 t4 s4 o4 q0 q1 qz
  go_wp2_with fail
  refine (HI.out _).mono ?_
  rintro e w6 ⟨v6, rfl, ho6, hb6⟩
  obtain ⟨a6, c6, rfl, -⟩ := id ho6
  have z6 := hb6.size
  have bel6 : Below w.heap.size w (w6.alloc (.cells #[.bool bb, .slice a6 n c6] 25)) := (bel5.trans (hb6.mono (by omega))).alloc (by omega) _
  have l6 := (l5.below hb6).below (below_alloc1 w6 (.cells #[.bool bb, .slice a6 n c6] 25))
  have t6 := (t5.next hb6).next (below_alloc1 w6 (.cells #[.bool bb, .slice a6 n c6] 25))
  have s6 := (s5.next hb6).next (below_alloc1 w6 (.cells #[.bool bb, .slice a6 n c6] 25))
  have m6 := (m5.below hb6).below (below_alloc1 w6 (.cells #[.bool bb, .slice a6 n c6] 25))
  have h6 := ho6.lim.below (below_alloc1 w6 (.cells #[.bool bb, .slice a6 n c6] 25))
  have r6 := At2.start w6 (.bool bb) (.slice a6 n c6) 25
  clear hb6 ho6 bel5 l5 t5 s5 m5 HI
  obtain ⟨p0, p1, pz⟩ := id t6
  obtain ⟨q0, q1, qz⟩ := id r6
  go_wp2_with fail
  refine (eqBig_any bb _ _ n f f _ h6 l6 (by omega) (fun _ _ => rfl)).mono ?_
  rintro e w7 ⟨rfl, hb7⟩
  have z7 := hb7.size
  simp only [World.size_alloc] at z7
  have bel7 := bel6.trans (hb7.mono (by omega))
  have s7 := s6.next hb7
  have m7 := m6.below hb7
  clear hb7 bel6 l6 t6 s6 m6 h6 r6 p0 p1 pz q0 q1 qz
  obtain ⟨q0, q1, qz⟩ := id s7
  go_wp2_with fail
  refine (held1 bb m7 (by omega)).mono ?_
  rintro e w8 ⟨rfl, hb8⟩
  have bel8 := bel7.trans (hb8.mono (by omega))
  go_wp2_with fail
  go_ret
  exact ⟨rfl, bel8⟩

theorem lawOf (x : Int) (w : World) (wx : (Lit.int .i64 x).wf = true) : Calls Try.prog 7 #[.int .i64 x] w fun e w' => e = .returned (.bool true) ∧ Below w.heap.size w w' := by
  have hx := bounds_i64 wx
  have hl := trimN_le (two x.natAbs) 2
  rcases Int.le_total 0 x with h | h
  · obtain ⟨U, rfl⟩ := Int.eq_ofNat_of_zero_le h
    exact lawOf_core _ _ (trimN (two U) 2) (two U) w (by have := trimN_le (two U) 2; omega) (fun w => sOf_pos U w (by omega) _ rfl) (fun w => iOf_pos U w (by omega) _ rfl)
  · obtain ⟨U, hU⟩ := Int.eq_ofNat_of_zero_le (show 0 ≤ -x by omega)
    obtain rfl : x = -(U : Int) := by omega
    rcases Nat.eq_zero_or_pos U with rfl | hp
    · exact lawOf_core _ _ (trimN (two 0) 2) (two 0) w (by have := trimN_le (two 0) 2; omega) (fun w => sOf_pos 0 w (by omega) _ rfl) (fun w => iOf_pos 0 w (by omega) _ rfl)
    · exact lawOf_core _ _ (trimN (two U) 2) (two U) w (by have := trimN_le (two U) 2; omega) (fun w => sOf_neg U w hp (by omega) _ rfl) (fun w => iOf_neg U w hp (by omega) _ rfl)

end Go.Proofs.Ytpcnmolncoaddaa
