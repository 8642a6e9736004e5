import Derived.Test.YtpcnmolncoaddaaMarks3
import Derived.Test.YtpcnmolncoaddaaLawOf
namespace Go.Proofs.Ytpcnmolncoaddaa
open Go.RowKit Go.Joins

set_option maxHeartbeats 4000000 in
set_option maxRecDepth 100000 in
theorem lawRead_core (s : ByteArray) (hs : s.size ≤ 1048576) (code : Int) (bb : Bool) (n : Nat) (f : Nat → Nat) (w : World) (hn : n ≤ 80)
    (HS : Hid (∀ w, Calls Try.prog 40 #[.string s] w fun e w' => ∃ v', e = .returned (.agg #[.int .i64 code, .bool bb, v']) ∧ Own w.heap.size w' v' n f ∧ Below w.heap.size w w'))
    (HI : Hid (∀ w, Calls Try.prog 27 #[.string s] w fun e w' => ∃ v', e = .returned (.agg #[.int .i64 code, .bool bb, v']) ∧ Own w.heap.size w' v' n f ∧ Below w.heap.size w w')) :
    Calls Try.prog 10 #[.string s] w fun e w' => e = .returned (.bool true) ∧ Below w.heap.size w w' := by
  obtain ⟨Z, HZ⟩ : ∃ Z : Int, Hid (Z = ((1 + n : Nat) : Int)) := ⟨_, rfl⟩
  have hZ0 : 0 ≤ Z := by have := HZ.out; omega
  go_enter Try.func10, Try.ntmps10
  go_wp2_with fail
  refine (HS.out _).mono ?_
  rintro e w1 ⟨v1, rfl, ho1, hb1⟩
  obtain ⟨a1, c1, rfl, -⟩ := id ho1
  have bel1 : Below w.heap.size w (w1.alloc (.cells #[.int .i64 code, .bool bb, .slice a1 n c1] 28)) := hb1.alloc hb1.size _
  have l1 := ho1.lim.below (below_alloc1 w1 (.cells #[.int .i64 code, .bool bb, .slice a1 n c1] 28))
  have t1 := At3.start w1 (.int .i64 code) (.bool bb) (.slice a1 n c1) 28
  have k1 := ho1.at
  have z1 := hb1.size
  clear hb1 ho1 HS
  go_wp2_with fail
  refine (HI.out _).mono ?_
  rintro e w2 ⟨v2, rfl, ho2, hb2⟩
  obtain ⟨a2, c2, rfl, -⟩ := id ho2
  have z2 := hb2.size
  simp only [World.size_alloc] at z2 ho2
  have bel2 : Below w.heap.size w (w2.alloc (.cells #[.int .i64 code, .bool bb, .slice a2 n c2] 28)) := (bel1.trans (hb2.mono (by simp; omega))).alloc (by omega) _
  have l2 := (l1.below hb2).below (below_alloc1 w2 (.cells #[.int .i64 code, .bool bb, .slice a2 n c2] 28))
  have t2 := (t1.next hb2).next (below_alloc1 w2 (.cells #[.int .i64 code, .bool bb, .slice a2 n c2] 28))
  have s2 := At3.start w2 (.int .i64 code) (.bool bb) (.slice a2 n c2) 28
  have o2 := ho2.below (below_alloc1 w2 (.cells #[.int .i64 code, .bool bb, .slice a2 n c2] 28))
  have k2 := ho2.at
  clear hb2 ho2 bel1 l1 t1
  obtain ⟨p0, p1, p2, pz⟩ := id t2
  obtain ⟨q0, q1, q2, qz⟩ := id s2
  go_wp2_with fail
  refine (eqRes_any code bb _ _ n f f _ o2.lim l2 (by omega) (fun _ _ => rfl)).mono ?_
  rintro e w3 ⟨rfl, hb3⟩
  have z3 := hb3.size
  simp only [World.size_alloc] at z3
  have bel3 := bel2.trans (hb3.mono (by omega))
  have l3 := l2.below hb3
  have t3 := t2.next hb3
  have s3 := s2.next hb3
  have o3 := o2.below hb3
  clear hb3 bel2 l2 t2 s2 o2 p0 p1 p2 pz q0 q1 q2 qz
  obtain ⟨p0, p1, p2, pz⟩ := id t3
  obtain ⟨q0, q1, q2, qz⟩ := id s3
  go_wp2_with fail
  refine (markRes_any code bb Z HZ o3 (by omega) (by omega)).mono ?_
  rintro e w4 ⟨rfl, o4, hb4, hk4⟩
  have z4 := hb4.size
  have bel4 := bel3.trans (hb4.mono (by omega))
  have l4 : Lim w4 (.slice a1 n c1) n f := l3.keep (fun b hp hb => by
    obtain ⟨b1, e1, _, e3⟩ := k1 hp
    rw [e1] at hb; obtain rfl := Option.some.inj hb
    exact hb4.block _ (by omega))
  have t4 : At3 w4 w1.heap.size (.int .i64 code) (.bool bb) (.slice a1 n c1) := t3.keep (hb4.block _ (by omega)) (by omega)
  have s4 : At3 w4 w2.heap.size (.int .i64 code) (.bool bb) (.slice a2 n c2) := s3.keep (hk4 _ (by omega) (fun hp hb => by
    obtain ⟨b1, e1, _, e3⟩ := k2 hp
    rw [e1] at hb; have := Option.some.inj hb; omega)) (by omega)
  clear hb4 hk4 bel3 l3 t3 s3 o3 p0 p1 p2 pz q0 q1 q2 qz
  obtain ⟨q0, q1, q2, qz⟩ := id s4
  go_wp2_with fail
  refine (heldRes_any code bb Z HZ hZ0 o4.lim (by omega)).mono ?_
  rintro e w5 ⟨rfl, hb5⟩
  have z5 := hb5.size
  have bel5 := bel4.trans (hb5.mono (by omega))
  have l5 := l4.below hb5
  have t5 := t4.next hb5
  have s5 := s4.next hb5
  have m5 := o4.lim.below hb5
  clear hb5 bel4 l4 t4 s4 o4 q0 q1 q2 qz
  go_wp2_with fail
  refine (HI.out _).mono ?_
  rintro e w6 ⟨v6, rfl, ho6, hb6⟩
  obtain ⟨a6, c6, rfl, -⟩ := id ho6
  have z6 := hb6.size
  have bel6 : Below w.heap.size w (w6.alloc (.cells #[.int .i64 code, .bool bb, .slice a6 n c6] 28)) := (bel5.trans (hb6.mono (by omega))).alloc (by omega) _
  have l6 := (l5.below hb6).below (below_alloc1 w6 (.cells #[.int .i64 code, .bool bb, .slice a6 n c6] 28))
  have t6 := (t5.next hb6).next (below_alloc1 w6 (.cells #[.int .i64 code, .bool bb, .slice a6 n c6] 28))
  have s6 := (s5.next hb6).next (below_alloc1 w6 (.cells #[.int .i64 code, .bool bb, .slice a6 n c6] 28))
  have m6 := (m5.below hb6).below (below_alloc1 w6 (.cells #[.int .i64 code, .bool bb, .slice a6 n c6] 28))
  have h6 := ho6.lim.below (below_alloc1 w6 (.cells #[.int .i64 code, .bool bb, .slice a6 n c6] 28))
  have r6 := At3.start w6 (.int .i64 code) (.bool bb) (.slice a6 n c6) 28
  clear hb6 ho6 bel5 l5 t5 s5 m5 HI
  obtain ⟨p0, p1, p2, pz⟩ := id t6
  obtain ⟨q0, q1, q2, qz⟩ := id r6
  go_wp2_with fail
  refine (eqRes_any code bb _ _ n f f _ h6 l6 (by omega) (fun _ _ => rfl)).mono ?_
  rintro e w7 ⟨rfl, hb7⟩
  have z7 := hb7.size
  simp only [World.size_alloc] at z7
  have bel7 := bel6.trans (hb7.mono (by omega))
  have s7 := s6.next hb7
  have m7 := m6.below hb7
  clear hb7 bel6 l6 t6 s6 m6 h6 r6 p0 p1 p2 pz q0 q1 q2 qz
  obtain ⟨q0, q1, q2, qz⟩ := id s7
  go_wp2_with fail
  refine (heldRes_any code bb Z HZ hZ0 m7 (by omega)).mono ?_
  rintro e w8 ⟨rfl, hb8⟩
  have bel8 := bel7.trans (hb8.mono (by omega))
  go_wp2_with fail
  go_ret
  exact ⟨rfl, bel8⟩


set_option maxHeartbeats 400000 in
set_option maxRecDepth 100000 in
theorem lawRead_long (s : ByteArray) (hs : 1048576 < s.size) (w : World) : Calls Try.prog 10 #[.string s] w fun e w' => e = .returned (.bool true) ∧ Below w.heap.size w w' := by
  go_enter Try.func10, Try.ntmps10
  go_wp2_with fail
  go_ret
  exact ⟨rfl, ⟨rfl, rfl, rfl, Nat.le_refl _, fun _ _ => rfl⟩⟩

end Go.Proofs.Ytpcnmolncoaddaa
