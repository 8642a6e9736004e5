import Derived.Test.YtbgocfcnkhfejaaDraw6
import Derived.Test.YtbgocfcnkhfejaaNum
namespace Go.Proofs.Ytbgocfcnkhfejaa
open Go.RowKit Go.Joins

theorem num_zero (w : World) (f : Nat → Nat) : Num w false (.slice none 0 0) 0 f 0 :=
  ⟨(own_nil 0 w f).lim, rfl, ⟨fun i => by unfold ext; simp, fun i _ => by unfold ext; simp, fun h => by omega, rfl⟩, rfl⟩

theorem below_drewN (w : World) (q : Nat) : Below w.heap.size w (w.drewN q) := ⟨rfl, rfl, rfl, Nat.le_refl _, fun _ _ => rfl⟩

set_option maxHeartbeats 2000000 in
set_option maxRecDepth 100000 in
theorem lwBig_any (v : Value) (k i : Nat) (w : World) (hB : Byt w v k) (hk : k ≤ 1048576) (hi : i < 100) :
    Calls Try.prog 16 #[v, .int .i64 i] w fun e w' => ∃ (m : Bool) (v : Value) (n : Nat) (f : Nat → Nat) (Z : Int), e = .returned (.agg #[.bool m, v]) ∧ Own w.heap.size w' v n f ∧ Num w' m v n f Z ∧ Below w.heap.size w w' := by
  have hb0 := below_alloc1 w (.cells #[.bool false, .slice none 0 0] 25)
  have hx0 := Bx.start w (.bool false) (.slice none 0 0) 25
  have hB0 := hB.below hb0
  obtain ⟨a, c, rfl, -⟩ := id hB0
  clear hB
  go_enter Try.func16, Try.ntmps16
  go_wp2_with fail
  refine (lwAt_any _ k i 256 _ hB0 (by omega) (by omega) (by omega) (by omega)).mono ?_
  rintro e w1 ⟨r1, hr1, rfl, q1, rfl⟩
  have hb1 := hb0.trans ((below_drewN (w.alloc (.cells #[.bool false, .slice none 0 0] 25)) q1).mono (by simp))
  have hx1 := hx0.next (below_drewN _ q1)
  have hB1 := hB0.below (below_drewN _ q1)
  have hz1 : w.heap.size + 1 ≤ ((w.alloc (.cells #[.bool false, .slice none 0 0] 25)).drewN q1).heap.size := by rw [← World.size_alloc w (.cells #[.bool false, .slice none 0 0] 25)]; exact Nat.le_refl _
  generalize (w.alloc (.cells #[.bool false, .slice none 0 0] 25)).drewN q1 = w1 at *
  clear hb0 hx0 hB0
  go_wp2_with fail
  refine (lwAt_any _ k (i + 1) 256 _ hB1 (by omega) (by omega) (by omega) (by omega)).mono ?_
  rintro e w2 ⟨r2, hr2, rfl, q2, rfl⟩
  have hb2 := hb1.trans ((below_drewN w1 q2).mono (by omega))
  have hx2 := hx1.next (below_drewN _ q2)
  have hB2 := hB1.below (below_drewN _ q2)
  have hz2 : w.heap.size + 1 ≤ (w1.drewN q2).heap.size := hz1
  generalize w1.drewN q2 = w2 at *
  clear hb1 hx1 hB1 hz1
  have hB3 := hB2.below (below_alloc1 w2 (.cells #[.int .u8 r1, .int .u8 r2] 5))
  go_wp2_with (at_builtin; (with_reducible refine wpList_appendB (.tmp 17) (.tmp 18) r1 r2 _ k hr1 hr2 hB3 ?_ ?_ ?_ ?_ ?_ ?_); omega; rfl; rfl; rfl; rfl; intro v4 w4 hB4 hb4; (obtain ⟨a4, c4, rfl, -⟩ := id hB4))
  refine (drawAdd_any _ (2 + k) _ hB4 (by omega)).mono ?_
  rintro e w5 ⟨m5, v5, n5, f5, m6, v6, n6, f6, rfl, ho5, hn5, ho6, hn6, hb5⟩
  obtain ⟨a5, c5, rfl, -⟩ := id ho5
  obtain ⟨a6, c6, rfl, -⟩ := id ho6
  have y4 := hb4.size
  have y5 := hb5.size
  have hb7 := (hb2.trans (hb4.mono (by omega))).trans (hb5.mono (by omega))
  have hx7 := (hx2.keep (hb4.block _ (by omega)) hb4.size).next hb5
  have hl7 := ho5.lim.below (below_alloc2 w5 (.cells #[.bool m5, .slice a5 n5 c5] 25) (.cells #[.bool m6, .slice a6 n6 c6] 25))
  go_wp2_with fail
  refine (sFault_any m5 _ n5 f5 _ hl7).mono ?_
  rintro e w8 ⟨rfl, hb8⟩
  have hB8 := (below_alloc2 w5 (.cells #[.bool m5, .slice a5 n5 c5] 25) (.cells #[.bool m6, .slice a6 n6 c6] 25)).trans (hb8.mono (by simp only [World.size_alloc]; omega))
  have hy8 := ((Bx.start w5 (.bool m5) (.slice a5 n5 c5) 25).next (below_alloc1 _ (.cells #[.bool m6, .slice a6 n6 c6] 25))).next hb8
  have hx8 := hx7.next hB8
  have ho8 := ho5.below hB8
  have hb9 := hb7.trans (hB8.mono (by omega))
  clear hb8 hB8 hx7 hl7 hb7 hx2 hB2 hB3 hb2 hb4 hb5 hB4 ho6
  by_cases hf : faultB m5 n5 f5 = true
  · rw [hf]
    obtain ⟨c0, c1, f0, f1, lt⟩ := id hx8
    obtain ⟨d0, d1, e0, e1, lt'⟩ := id hy8
    go_wp2_with fail
    refine bodyPost_ret (v := .agg #[.bool false, .slice none 0 0]) (by simp [results, Try.results16, go_sem, c0, c1]) rfl ?_
    exact ⟨_, _, 0, fun _ => 0, 0, rfl, own_nil _ _ _, num_zero _ _, (hb9.setCell (by exact Nat.le_refl _) _).setCell (by exact Nat.le_refl _) _⟩
  · have hf' : faultB m5 n5 f5 = false := Bool.eq_false_iff.2 hf
    rw [hf']
    obtain ⟨c0, c1, f0, f1, lt⟩ := id hx8
    obtain ⟨d0, d1, e0, e1, lt'⟩ := id hy8
    go_wp2_with fail
    have ho9 := (ho8.set ⟨w.heap.size, 0, none⟩ (.bool m5) (by show w.heap.size < _; omega)).set ⟨w.heap.size, 1, none⟩ (.slice a5 n5 c5) (by show w.heap.size < _; omega)
    obtain ⟨Z, hZ⟩ := num_of ho9.lim hf'
    refine bodyPost_ret (v := .agg #[.bool m5, .slice a5 n5 c5]) (by simp [results, Try.results16, go_sem, c0, c1]) rfl ?_
    exact ⟨_, _, n5, f5, Z, rfl, ho9.less (by omega), hZ, (hb9.setCell (by exact Nat.le_refl _) _).setCell (by exact Nat.le_refl _) _⟩

set_option maxHeartbeats 1000000 in
set_option maxRecDepth 100000 in
theorem sameBig_any {m m' : Bool} {v v' : Value} {n n' : Nat} {f f' : Nat → Nat} {w : World} {A B : Int} (h : Num w m v n f A) (h' : Num w m' v' n' f' B) :
    Calls Try.prog 20 #[.agg #[.bool m, v], .agg #[.bool m', v']] w fun e w' => e = .returned (.bool (decide (A = B))) ∧ Below w.heap.size w w' := by
  obtain ⟨a, c, rfl, -⟩ := id h.lim
  obtain ⟨a', c', rfl, -⟩ := id h'.lim
  have hb0 := Box2.start w (.bool m) (.slice a n c) (.bool m') (.slice a' n' c') 25 25
  obtain ⟨a0, a1, b0, b1, hz, bel⟩ := id hb0
  go_enter Try.func20, Try.ntmps20
  go_wp2_with fail
  refine (sCompareZ (h.below bel) (h'.below bel)).mono ?_
  rintro e w1 ⟨rfl, hb1⟩
  have h1 := hb0.next hb1
  clear a0 a1 b0 b1 hz bel
  obtain ⟨a0, a1, b0, b1, hz, bel⟩ := id h1
  by_cases e : A = B
  · have e0 : (ord A B == 0) = true := by simp [ord, e]
    have HE : Hid (A = B) := e
    clear e
    go_wp2_with fail
    refine (sFault_any m _ n f _ (h.lim.below bel)).mono ?_
    rintro e w2 ⟨rfl, hb2⟩
    rw [h.fault]
    go_wp2_with fail
    go_ret
    exact ⟨ret_bool (by simp [HE.out]), (h1.next hb2).bel⟩
  · have e0 : (ord A B == 0) = false := by simp only [ord]; split; rfl; split; rfl; omega
    go_wp2_with fail
    go_ret
    exact ⟨ret_bool (by simp [e]), h1.bel⟩

end Go.Proofs.Ytbgocfcnkhfejaa
