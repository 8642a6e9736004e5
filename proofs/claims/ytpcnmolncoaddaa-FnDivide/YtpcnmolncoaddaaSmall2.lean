import Derived.Test.YtpcnmolncoaddaaSmall
namespace Go.Proofs.Ytpcnmolncoaddaa
open Go.RowKit Go.Joins

set_option maxHeartbeats 1000000 in
set_option maxRecDepth 100000 in
theorem sSmall_f (m : Bool) (v : Value) (n : Nat) (f : Nat → Nat) (w : World) (hL : Lim w v n f) (hf : faultB m n f = true) :
    Calls Try.prog 31 #[.agg #[.bool m, v]] w fun e w' => e = .returned (.agg #[.bool false, .int .i64 0]) ∧ Below w.heap.size w w' := by
  obtain ⟨a, c, rfl, -⟩ := id hL
  go_enter Try.func31, Try.ntmps31
  go_wp2_with fail
  refine (sFault_any _ _ n f _ (hL.below (below_alloc2 _ _ _))).mono ?_
  rintro e w1 ⟨rfl, hb1⟩
  rw [hf]
  have h1 := (Box2.start w _ _ _ _ _ _).next hb1
  obtain ⟨a0, a1, b0, b1, hz, bel⟩ := id h1
  have f0 := box_frozen hb1 0
  have f1 := box_frozen hb1 1
  clear hb1 hf
  go_wp2_with fail
  refine bodyPost_ret (v := .agg #[.bool false, .int .i64 0]) (by simp [results, Try.results31, go_sem, b0, b1]) rfl ⟨rfl, ?_⟩
  exact (h1.bel.setCell (by simp) _).setCell (by simp) _

set_option maxHeartbeats 1000000 in
set_option maxRecDepth 100000 in
theorem sSmall_n (m : Bool) (v : Value) (n : Nat) (f : Nat → Nat) (w : World) (hL : Lim w v n f) (hf : faultB m n f = false) (hn : 2 < n) :
    Calls Try.prog 31 #[.agg #[.bool m, v]] w fun e w' => e = .returned (.agg #[.bool false, .int .i64 0]) ∧ Below w.heap.size w w' := by
  obtain ⟨a, c, rfl, -⟩ := id hL
  go_enter Try.func31, Try.ntmps31
  go_wp2_with fail
  refine (sFault_any _ _ n f _ (hL.below (below_alloc2 _ _ _))).mono ?_
  rintro e w1 ⟨rfl, hb1⟩
  rw [hf]
  have h1 := (Box2.start w _ _ _ _ _ _).next hb1
  obtain ⟨a0, a1, b0, b1, hz, bel⟩ := id h1
  have f0 := box_frozen hb1 0
  have f1 := box_frozen hb1 1
  clear hb1 hf
  go_wp2_with fail
  refine bodyPost_ret (v := .agg #[.bool false, .int .i64 0]) (by simp [results, Try.results31, go_sem, b0, b1]) rfl ⟨rfl, ?_⟩
  exact (h1.bel.setCell (by simp) _).setCell (by simp) _

set_option maxHeartbeats 1000000 in
set_option maxRecDepth 100000 in
theorem iSmall_f (m : Bool) (v : Value) (n : Nat) (f : Nat → Nat) (w : World) (hL : Lim w v n f) (hf : faultB m n f = true) :
    Calls Try.prog 30 #[.agg #[.bool m, v]] w fun e w' => e = .returned (.agg #[.bool false, .int .i64 0]) ∧ Below w.heap.size w w' := by
  obtain ⟨a, c, rfl, -⟩ := id hL
  go_enter Try.func30, Try.ntmps30
  go_wp2_with fail
  refine (iFault_any _ _ n f _ (hL.below (below_alloc2 _ _ _))).mono ?_
  rintro e w1 ⟨rfl, hb1⟩
  rw [hf]
  have h1 := (Box2.start w _ _ _ _ _ _).next hb1
  obtain ⟨a0, a1, b0, b1, hz, bel⟩ := id h1
  have f0 := box_frozen hb1 0
  have f1 := box_frozen hb1 1
  clear hb1 hf
  go_wp2_with fail
  refine bodyPost_ret (v := .agg #[.bool false, .int .i64 0]) (by simp [results, Try.results30, go_sem, b0, b1]) rfl ⟨rfl, ?_⟩
  exact (h1.bel.setCell (by simp) _).setCell (by simp) _

set_option maxHeartbeats 1000000 in
set_option maxRecDepth 100000 in
theorem iSmall_n (m : Bool) (v : Value) (n : Nat) (f : Nat → Nat) (w : World) (hL : Lim w v n f) (hf : faultB m n f = false) (hn : 2 < n) :
    Calls Try.prog 30 #[.agg #[.bool m, v]] w fun e w' => e = .returned (.agg #[.bool false, .int .i64 0]) ∧ Below w.heap.size w w' := by
  obtain ⟨a, c, rfl, -⟩ := id hL
  go_enter Try.func30, Try.ntmps30
  go_wp2_with fail
  refine (iFault_any _ _ n f _ (hL.below (below_alloc2 _ _ _))).mono ?_
  rintro e w1 ⟨rfl, hb1⟩
  rw [hf]
  have h1 := (Box2.start w _ _ _ _ _ _).next hb1
  obtain ⟨a0, a1, b0, b1, hz, bel⟩ := id h1
  have f0 := box_frozen hb1 0
  have f1 := box_frozen hb1 1
  clear hb1 hf
  go_wp2_with fail
  refine bodyPost_ret (v := .agg #[.bool false, .int .i64 0]) (by simp [results, Try.results30, go_sem, b0, b1]) rfl ⟨rfl, ?_⟩
  exact (h1.bel.setCell (by simp) _).setCell (by simp) _

theorem smallIf_t (U : Nat) (w : World) : Calls Try.prog 71 #[.bool (decide ((U : Int) ≤ 9223372036854775808)), .int .i64 (wrap64 (IntKind.u64.wrap (-(U : Int))))] w fun e w' => e = .returned (.agg #[.bool (smallG true U), .int .i64 (smallX true U)]) ∧ Below w.heap.size w w' := by
  refine (smallIf_any _ _ w).mono ?_
  rintro e w' ⟨rfl, hb⟩
  refine ⟨?_, hb⟩
  rw [← smallG_t]
  cases h : smallG true U
  · rw [smallX_n h]; simp
  · rw [smallX_t h]; simp

theorem smallIf_f (U : Nat) (x : Int) (w : World) (hx : (U : Int) ≤ 9223372036854775807 → x = U) : Calls Try.prog 71 #[.bool (decide ((U : Int) ≤ 9223372036854775807)), .int .i64 x] w fun e w' => e = .returned (.agg #[.bool (smallG false U), .int .i64 (smallX false U)]) ∧ Below w.heap.size w w' := by
  refine (smallIf_any _ _ w).mono ?_
  rintro e w' ⟨rfl, hb⟩
  refine ⟨?_, hb⟩
  have e : decide ((U : Int) ≤ 9223372036854775807) = smallG false U := by rw [smallG_f, Bool.eq_iff_iff]; simp only [decide_eq_true_eq]; omega
  rw [e]
  cases h : smallG false U
  · rw [smallX_n h]; simp
  · rw [smallX_f h, hx (by rw [h] at e; exact of_decide_eq_true e)]; simp

set_option maxHeartbeats 1000000 in
set_option maxRecDepth 100000 in
theorem iSmall_good (m : Bool) (v : Value) (n : Nat) (f : Nat → Nat) (w : World) (hL : Lim w v n f) (hf : faultB m n f = false) (hn : n ≤ 2) (hl0 : ext n f 0 < 4294967296) (hl1 : ext n f 1 < 4294967296) (U : Nat) (HU : Hid (U = ext n f 1 * 4294967296 + ext n f 0)) :
    Calls Try.prog 30 #[.agg #[.bool m, v]] w fun e w' => e = .returned (.agg #[.bool (smallG m U), .int .i64 (smallX m U)]) ∧ Below w.heap.size w w' := by
  obtain ⟨a, c, rfl, -⟩ := id hL
  go_enter Try.func30, Try.ntmps30
  go_wp2_with fail
  refine (iFault_any _ _ n f _ (hL.below (below_alloc2 _ _ _))).mono ?_
  rintro e w1 ⟨rfl, hb1⟩
  rw [hf]
  have h1 := (Box2.start w _ _ _ _ _ _).next hb1
  obtain ⟨a0, a1, b0, b1, hz, bel⟩ := id h1
  have f0 := box_frozen hb1 0
  have f1 := box_frozen hb1 1
  clear hb1 hf
  go_wp2_with fail
  refine (magOf_any _ n f _ (hL.below bel) (by omega)).mono ?_
  rintro e w2 ⟨cs2, rfl, hc2, hb2⟩
  have h2 := h1.next hb2
  have g0 := (hb2.frozen (p := ⟨w.heap.size + 1, 0, none⟩) hz).trans f0
  have g1 := (hb2.frozen (p := ⟨w.heap.size + 1, 1, none⟩) hz).trans f1
  have hz2 := h2.z
  clear a0 a1 b0 b1 hz bel hb2 f0 f1
  go_upto_region 4 with (first
    | ((with_reducible refine wpList_alloc63 3 ?_ ?_ ?_ ?_); rfl; rfl; rfl; intro w3 hz3 hm3 hb3)
    | ((with_reducible refine wpList_store63 (.tmp 3) (.tmp 16) w2.heap.size n 0 _ (fun _ => 0) cs2 hc2 hm3 ?_ ?_ ?_ ?_ ?_); rfl; rfl; rfl; rfl; intro w4 hm4 ho4))
  have hbb := hb3.trans (ho4.below (Nat.le_refl _))
  have h4 := h2.next hbb
  have q0 := (hbb.frozen (p := ⟨w.heap.size + 1, 0, none⟩) hz2).trans g0
  have q1 := (hbb.frozen (p := ⟨w.heap.size + 1, 1, none⟩) hz2).trans g1
  have y0 := hm4.limb 0 (by omega)
  have y1 := hm4.limb 1 (by omega)
  have hb24 := hb3.trans (ho4.below (Nat.le_refl _))
  clear hm3 hm4 ho4 hb3 hbb g0 g1 hz3 hc2 hb24
  obtain ⟨a0, a1, b0, b1, hz, bel⟩ := id h4
  go_upto_region 5 with fail
  rw [or_hi _ _ hl0 hl1, ← HU.out]
  clear HU y0 y1
  cases m
  · go_wp2_with fail
    refine (smallIf_f U _ _ (fun h => IntWalk.wrap64_in _ ⟨by omega, by omega⟩)).mono ?_
    rintro e w5 ⟨rfl, hb5⟩
    have h5 := h4.next hb5
    have r0 := (hb5.frozen (p := ⟨w.heap.size + 1, 0, none⟩) hz).trans q0
    have r1 := (hb5.frozen (p := ⟨w.heap.size + 1, 1, none⟩) hz).trans q1
    clear a0 a1 b0 b1 hz bel hb5 q0 q1
    obtain ⟨a0, a1, b0, b1, hz, bel⟩ := id h5
    go_wp2_with fail
    refine bodyPost_ret (v := .agg #[.bool (smallG false U), .int .i64 (smallX false U)]) (by simp [results, Try.results30, go_sem, b0, b1]) rfl ⟨rfl, ?_⟩
    exact (bel.setCell (by simp) _).setCell (by simp) _
  · go_wp2_with fail
    refine (smallIf_t U _).mono ?_
    rintro e w5 ⟨rfl, hb5⟩
    have h5 := h4.next hb5
    have r0 := (hb5.frozen (p := ⟨w.heap.size + 1, 0, none⟩) hz).trans q0
    have r1 := (hb5.frozen (p := ⟨w.heap.size + 1, 1, none⟩) hz).trans q1
    clear a0 a1 b0 b1 hz bel hb5 q0 q1
    obtain ⟨a0, a1, b0, b1, hz, bel⟩ := id h5
    go_wp2_with fail
    refine bodyPost_ret (v := .agg #[.bool (smallG true U), .int .i64 (smallX true U)]) (by simp [results, Try.results30, go_sem, b0, b1]) rfl ⟨rfl, ?_⟩
    exact (bel.setCell (by simp) _).setCell (by simp) _

/-- What both answer. -/
def smallOf (m : Bool) (n : Nat) (f : Nat → Nat) : Bool × Int :=
  if faultB m n f = true ∨ 2 < n then (false, 0) else (smallG m (ext n f 1 * 4294967296 + ext n f 0), smallX m (ext n f 1 * 4294967296 + ext n f 0))

theorem ext_lt {n : Nat} {f : Nat → Nat} (h : ∀ i, i < n → f i < 4294967296) (i : Nat) : ext n f i < 4294967296 := by
  unfold ext; split
  · exact h i (by assumption)
  · omega

theorem Lim.ext_lt {w v n f} (h : Lim w v n f) (i : Nat) : ext n f i < 4294967296 := by
  obtain ⟨_, _, _, _, _, h3, _⟩ := h
  exact Ytpcnmolncoaddaa.ext_lt h3 i

theorem sSmall_any (m : Bool) (v : Value) (n : Nat) (f : Nat → Nat) (w : World) (hL : Lim w v n f) :
    Calls Try.prog 31 #[.agg #[.bool m, v]] w fun e w' => e = .returned (.agg #[.bool (smallOf m n f).1, .int .i64 (smallOf m n f).2]) ∧ Below w.heap.size w w' := by
  by_cases hf : faultB m n f = true
  · have e : smallOf m n f = (false, 0) := by simp only [smallOf, hf, true_or, if_true]
    rw [e]; exact sSmall_f m v n f w hL hf
  · have hf := Bool.eq_false_iff.2 hf
    by_cases hn : 2 < n
    · have e : smallOf m n f = (false, 0) := by simp only [smallOf, hn, or_true, if_true]
      rw [e]; exact sSmall_n m v n f w hL hf hn
    · have e : smallOf m n f = (smallG m (ext n f 1 * 4294967296 + ext n f 0), smallX m (ext n f 1 * 4294967296 + ext n f 0)) := by simp only [smallOf, hf, hn, or_self, if_false, Bool.false_eq_true]
      rw [e]; exact sSmall_good m v n f w hL hf (by omega) (hL.ext_lt 0) (hL.ext_lt 1) _ rfl

theorem iSmall_any (m : Bool) (v : Value) (n : Nat) (f : Nat → Nat) (w : World) (hL : Lim w v n f) :
    Calls Try.prog 30 #[.agg #[.bool m, v]] w fun e w' => e = .returned (.agg #[.bool (smallOf m n f).1, .int .i64 (smallOf m n f).2]) ∧ Below w.heap.size w w' := by
  by_cases hf : faultB m n f = true
  · have e : smallOf m n f = (false, 0) := by simp only [smallOf, hf, true_or, if_true]
    rw [e]; exact iSmall_f m v n f w hL hf
  · have hf := Bool.eq_false_iff.2 hf
    by_cases hn : 2 < n
    · have e : smallOf m n f = (false, 0) := by simp only [smallOf, hn, or_true, if_true]
      rw [e]; exact iSmall_n m v n f w hL hf hn
    · have e : smallOf m n f = (smallG m (ext n f 1 * 4294967296 + ext n f 0), smallX m (ext n f 1 * 4294967296 + ext n f 0)) := by simp only [smallOf, hf, hn, or_self, if_false, Bool.false_eq_true]
      rw [e]; exact iSmall_good m v n f w hL hf (by omega) (hL.ext_lt 0) (hL.ext_lt 1) _ rfl

end Go.Proofs.Ytpcnmolncoaddaa
