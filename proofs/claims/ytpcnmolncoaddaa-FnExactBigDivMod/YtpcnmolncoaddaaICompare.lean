import Derived.Test.YtpcnmolncoaddaaSCompare
namespace Go.Proofs.Ytpcnmolncoaddaa
open Go.RowKit Go.Joins

set_option maxHeartbeats 1000000 in
set_option maxRecDepth 100000 in
theorem iCompare_f1 (m m' : Bool) (v v' : Value) (n n' : Nat) (f f' : Nat → Nat) (w : World) (hL : Lim w v n f) (hL' : Lim w v' n' f') (hf : faultB m n f = true) :
    Calls Try.prog 22 #[.agg #[.bool m, v], .agg #[.bool m', v']] w fun e w' => e = .returned (.int .i64 (-2)) ∧ Below w.heap.size w w' := by
  obtain ⟨a, c, rfl, -⟩ := id hL
  obtain ⟨a', c', rfl, -⟩ := id hL'
  go_enter Try.func22, Try.ntmps22
  go_wp2_with fail
  refine (iFault_any m _ n f _ (hL.below (below_alloc2 _ _ _))).mono ?_
  rintro e w1 ⟨rfl, hb1⟩
  rw [hf]
  have h1 := (Box2.start w _ _ _ _ _ _).next hb1
  clear hb1 hf
  go_wp2_with fail
  go_ret
  exact ⟨rfl, h1.bel⟩

set_option maxHeartbeats 1000000 in
set_option maxRecDepth 100000 in
theorem iCompare_f2 (m m' : Bool) (v v' : Value) (n n' : Nat) (f f' : Nat → Nat) (w : World) (hL : Lim w v n f) (hL' : Lim w v' n' f') (hf : faultB m n f = false) (hf' : faultB m' n' f' = true) :
    Calls Try.prog 22 #[.agg #[.bool m, v], .agg #[.bool m', v']] w fun e w' => e = .returned (.int .i64 (-2)) ∧ Below w.heap.size w w' := by
  obtain ⟨a, c, rfl, -⟩ := id hL
  obtain ⟨a', c', rfl, -⟩ := id hL'
  go_enter Try.func22, Try.ntmps22
  go_wp2_with fail
  refine (iFault_any m _ n f _ (hL.below (below_alloc2 _ _ _))).mono ?_
  rintro e w1 ⟨rfl, hb1⟩
  rw [hf]
  have h1 := (Box2.start w _ _ _ _ _ _).next hb1
  obtain ⟨a0, a1, b0, b1, hz, bel⟩ := id h1
  clear hb1 hf
  go_wp2_with fail
  refine (iFault_any m' _ n' f' _ (hL'.below h1.bel)).mono ?_
  rintro e w2 ⟨rfl, hb2⟩
  rw [hf']
  have h2 := h1.next hb2
  clear hb2 hf'
  go_wp2_with fail
  go_ret
  exact ⟨rfl, h2.bel⟩

set_option maxHeartbeats 1000000 in
set_option maxRecDepth 100000 in
theorem iCompare_ne (m : Bool) (v v' : Value) (n n' : Nat) (f f' : Nat → Nat) (w : World) (hL : Lim w v n f) (hL' : Lim w v' n' f') (hf : faultB m n f = false) (hf' : faultB (!m) n' f' = false) :
    Calls Try.prog 22 #[.agg #[.bool m, v], .agg #[.bool (!m), v']] w fun e w' => e = .returned (.int .i64 (if m = true then -1 else 1)) ∧ Below w.heap.size w w' := by
  obtain ⟨a, c, rfl, -⟩ := id hL
  obtain ⟨a', c', rfl, -⟩ := id hL'
  cases m
  all_goals
    simp only [Bool.not_true, Bool.not_false] at hf' ⊢
    go_enter Try.func22, Try.ntmps22
    go_wp2_with fail
    refine (iFault_any _ _ n f _ (hL.below (below_alloc2 _ _ _))).mono ?_
    rintro e w1 ⟨rfl, hb1⟩
    rw [hf]
    have h1 := (Box2.start w _ _ _ _ _ _).next hb1
    obtain ⟨a0, a1, b0, b1, hz, bel⟩ := id h1
    clear hb1 hf
    go_wp2_with fail
    refine (iFault_any _ _ n' f' _ (hL'.below h1.bel)).mono ?_
    rintro e w2 ⟨rfl, hb2⟩
    rw [hf']
    have h2 := h1.next hb2
    clear hb2 hf' a0 a1 b0 b1 bel
    obtain ⟨a0, a1, b0, b1, -, bel⟩ := id h2
    go_wp2_with fail
    go_ret
    exact ⟨rfl, h2.bel⟩

set_option maxHeartbeats 1000000 in
set_option maxRecDepth 100000 in
theorem iCompare_eq_true (v v' : Value) (n n' : Nat) (f f' : Nat → Nat) (w : World) (hL : Lim w v n f) (hL' : Lim w v' n' f') (hf : faultB true n f = false) (hf' : faultB true n' f' = false) :
    Calls Try.prog 22 #[.agg #[.bool true, v], .agg #[.bool true, v']] w fun e w' => e = .returned (.int .i64 (-(cmpF (ext n f) (ext n' f') (max n n')))) ∧ Below w.heap.size w w' := by
  obtain ⟨a, c, rfl, -⟩ := id hL
  obtain ⟨a', c', rfl, -⟩ := id hL'
  have hn := faultB_le hf
  have hn' := faultB_le hf'
  go_enter Try.func22, Try.ntmps22
  go_wp2_with fail
  refine (iFault_any _ _ n f _ (hL.below (below_alloc2 _ _ _))).mono ?_
  rintro e w1 ⟨rfl, hb1⟩
  rw [hf]
  have h1 := (Box2.start w _ _ _ _ _ _).next hb1
  obtain ⟨a0, a1, b0, b1, hz, bel⟩ := id h1
  clear hb1 hf
  go_wp2_with fail
  refine (iFault_any _ _ n' f' _ (hL'.below h1.bel)).mono ?_
  rintro e w2 ⟨rfl, hb2⟩
  rw [hf']
  have h2 := h1.next hb2
  clear hb2 hf' a0 a1 b0 b1 bel hz h1
  obtain ⟨a0, a1, b0, b1, hz, bel⟩ := id h2
  have hr := cmpF_range (ext n f) (ext n' f') (max n n')
  generalize hC : cmpF (ext n f) (ext n' f') (max n n') = C at hr ⊢
  have HC : Hid (cmpF (ext n f) (ext n' f') (max n n') = C) := hC
  clear hC
  go_upto_region 7 with fail
  go_cut [5] (fun s5 wx => s5 = .int .i64 C ∧ Box2 w wx (.bool true) (.slice a n c) (.bool true) (.slice a' n' c'))
  case first =>
    go_region_with (first
      | (go_at_call_of 54 (Value.slice a n c); refine (magOf_any _ n f _ ?_ ?_).mono ?_; exact hL.below (by first | exact bel.drew | exact h4.bel); omega; rintro e w3 ⟨cs3, rfl, hc3, hb3⟩; have h3 := Box2.next (by first | exact h2.draw | exact h4) hb3; obtain ⟨a0, a1, b0, b1, hz, bel3⟩ := id h3)
      | (go_at_call_of 54 (Value.slice a' n' c'); refine (magOf_any _ n' f' _ ?_ ?_).mono ?_; exact hL'.below (by first | exact bel.drew | exact h3.bel); omega; rintro e w4 ⟨cs4, rfl, hc4, hb4⟩; have h4 := Box2.next (by first | exact h2.draw | exact h3) hb4; obtain ⟨a0, a1, b0, b1, hz, bel4⟩ := id h4)
      | (go_at_call 57; refine (cmpSizes_any cs3 cs4 n n' _ _ _ hc3 hc4 ?_ ?_).mono ?_; omega; omega; rintro e w5 ⟨rfl, hb5⟩))
    all_goals
      go_wp2_with fail
      go_meet
      case rel => exact ⟨by rw [HC.out], by first | exact h4.next hb5 | exact h3.next hb5⟩
  case rest =>
    obtain ⟨rfl, hq⟩ := hcut
    obtain ⟨a0, a1, b0, b1, hz, bel⟩ := id hq
    go_wp2_with fail
    go_ret
    exact ⟨ret_int (by rw [HC.out]), hq.bel⟩

set_option maxHeartbeats 1000000 in
set_option maxRecDepth 100000 in
theorem iCompare_eq_false (v v' : Value) (n n' : Nat) (f f' : Nat → Nat) (w : World) (hL : Lim w v n f) (hL' : Lim w v' n' f') (hf : faultB false n f = false) (hf' : faultB false n' f' = false) :
    Calls Try.prog 22 #[.agg #[.bool false, v], .agg #[.bool false, v']] w fun e w' => e = .returned (.int .i64 (cmpF (ext n f) (ext n' f') (max n n'))) ∧ Below w.heap.size w w' := by
  obtain ⟨a, c, rfl, -⟩ := id hL
  obtain ⟨a', c', rfl, -⟩ := id hL'
  have hn := faultB_le hf
  have hn' := faultB_le hf'
  go_enter Try.func22, Try.ntmps22
  go_wp2_with fail
  refine (iFault_any _ _ n f _ (hL.below (below_alloc2 _ _ _))).mono ?_
  rintro e w1 ⟨rfl, hb1⟩
  rw [hf]
  have h1 := (Box2.start w _ _ _ _ _ _).next hb1
  obtain ⟨a0, a1, b0, b1, hz, bel⟩ := id h1
  clear hb1 hf
  go_wp2_with fail
  refine (iFault_any _ _ n' f' _ (hL'.below h1.bel)).mono ?_
  rintro e w2 ⟨rfl, hb2⟩
  rw [hf']
  have h2 := h1.next hb2
  clear hb2 hf' a0 a1 b0 b1 bel hz h1
  obtain ⟨a0, a1, b0, b1, hz, bel⟩ := id h2
  have hr := cmpF_range (ext n f) (ext n' f') (max n n')
  generalize hC : cmpF (ext n f) (ext n' f') (max n n') = C at hr ⊢
  have HC : Hid (cmpF (ext n f) (ext n' f') (max n n') = C) := hC
  clear hC
  go_upto_region 7 with fail
  go_cut [5] (fun s5 wx => s5 = .int .i64 C ∧ Box2 w wx (.bool false) (.slice a n c) (.bool false) (.slice a' n' c'))
  case first =>
    go_region_with (first
      | (go_at_call_of 54 (Value.slice a n c); refine (magOf_any _ n f _ ?_ ?_).mono ?_; exact hL.below (by first | exact bel.drew | exact h4.bel); omega; rintro e w3 ⟨cs3, rfl, hc3, hb3⟩; have h3 := Box2.next (by first | exact h2.draw | exact h4) hb3; obtain ⟨a0, a1, b0, b1, hz, bel3⟩ := id h3)
      | (go_at_call_of 54 (Value.slice a' n' c'); refine (magOf_any _ n' f' _ ?_ ?_).mono ?_; exact hL'.below (by first | exact bel.drew | exact h3.bel); omega; rintro e w4 ⟨cs4, rfl, hc4, hb4⟩; have h4 := Box2.next (by first | exact h2.draw | exact h3) hb4; obtain ⟨a0, a1, b0, b1, hz, bel4⟩ := id h4)
      | (go_at_call 57; refine (cmpSizes_any cs3 cs4 n n' _ _ _ hc3 hc4 ?_ ?_).mono ?_; omega; omega; rintro e w5 ⟨rfl, hb5⟩))
    all_goals
      go_wp2_with fail
      go_meet
      case rel => exact ⟨by rw [HC.out], by first | exact h4.next hb5 | exact h3.next hb5⟩
  case rest =>
    obtain ⟨rfl, hq⟩ := hcut
    obtain ⟨a0, a1, b0, b1, hz, bel⟩ := id hq
    go_wp2_with fail
    go_ret
    exact ⟨ret_int (by rw [HC.out]), hq.bel⟩

theorem iCompare_any (m m' : Bool) (v v' : Value) (n n' : Nat) (f f' : Nat → Nat) (w : World) (hL : Lim w v n f) (hL' : Lim w v' n' f') :
    Calls Try.prog 22 #[.agg #[.bool m, v], .agg #[.bool m', v']] w fun e w' => e = .returned (.int .i64 (cmpB m n f m' n' f')) ∧ Below w.heap.size w w' := by
  by_cases hf : faultB m n f = true
  · have e : cmpB m n f m' n' f' = -2 := by simp [cmpB, hf]
    rw [e]; exact iCompare_f1 m m' v v' n n' f f' w hL hL' hf
  · have hf := Bool.eq_false_iff.2 hf
    by_cases hf' : faultB m' n' f' = true
    · have e : cmpB m n f m' n' f' = -2 := by simp [cmpB, hf']
      rw [e]; exact iCompare_f2 m m' v v' n n' f f' w hL hL' hf hf'
    · have hf' := Bool.eq_false_iff.2 hf'
      by_cases hm : m = m'
      · subst hm
        cases m
        · have e : cmpB false n f false n' f' = cmpF (ext n f) (ext n' f') (max n n') := by simp [cmpB, hf, hf']
          rw [e]; exact iCompare_eq_false v v' n n' f f' w hL hL' hf hf'
        · have e : cmpB true n f true n' f' = -(cmpF (ext n f) (ext n' f') (max n n')) := by simp [cmpB, hf, hf']
          rw [e]; exact iCompare_eq_true v v' n n' f f' w hL hL' hf hf'
      · have hm' : m' = !m := by cases m <;> cases m' <;> simp_all
        subst hm'
        have e : cmpB m n f (!m) n' f' = if m = true then -1 else 1 := by simp [cmpB, hf, hf']
        rw [e]; exact iCompare_ne m v v' n n' f f' w hL hL' hf hf'

end Go.Proofs.Ytpcnmolncoaddaa
