import Derived.Test.YtpcnmolncoaddaaBx
namespace Go.Proofs.Ytpcnmolncoaddaa
open Go.RowKit Go.Joins

set_option maxHeartbeats 1000000 in
set_option maxRecDepth 100000 in
theorem sAdd_f1 (m m' : Bool) (v v' : Value) (n n' : Nat) (f f' : Nat → Nat) (w : World) (hL : Lim w v n f) (hL' : Lim w v' n' f') (hf : faultB m n f = true) :
    Calls Try.prog 45 #[.agg #[.bool m, v], .agg #[.bool m', v']] w fun e w' => e = .returned (.agg #[.int .i64 1, .bool false, .slice none 0 0]) ∧ Below w.heap.size w w' := by
  obtain ⟨a, c, rfl, -⟩ := id hL
  obtain ⟨a', c', rfl, -⟩ := id hL'
  go_enter Try.func45, Try.ntmps45
  go_wp2_with fail
  refine (sFault_any m _ n f _ (hL.below (below_alloc3 _ _ _ _))).mono ?_
  rintro e w1 ⟨rfl, hb1⟩
  rw [hf]
  have h1 := (BxR.start w _ _ _ _ _ _).next hb1
  obtain ⟨⟨a0, a1, b0, b1, hz, bel⟩, ⟨c0, c1, c2, f0, f1, f2, lt⟩⟩ := id h1
  clear hb1 hf
  go_wp2_with fail
  refine bodyPost_ret (v := .agg #[.int .i64 1, .bool false, .slice none 0 0]) (by simp [results, Try.results45, go_sem, c0, c1, c2]) rfl ⟨rfl, ?_⟩
  exact ((bel.setCell (by show _ ≤ w.heap.size + 1 + 1; omega) _).setCell (by show _ ≤ w.heap.size + 1 + 1; omega) _).setCell (by show _ ≤ w.heap.size + 1 + 1; omega) _

set_option maxHeartbeats 1000000 in
set_option maxRecDepth 100000 in
theorem sAdd_f2 (m m' : Bool) (v v' : Value) (n n' : Nat) (f f' : Nat → Nat) (w : World) (hL : Lim w v n f) (hL' : Lim w v' n' f') (hf : faultB m n f = false) (hf' : faultB m' n' f' = true) :
    Calls Try.prog 45 #[.agg #[.bool m, v], .agg #[.bool m', v']] w fun e w' => e = .returned (.agg #[.int .i64 1, .bool false, .slice none 0 0]) ∧ Below w.heap.size w w' := by
  obtain ⟨a, c, rfl, -⟩ := id hL
  obtain ⟨a', c', rfl, -⟩ := id hL'
  go_enter Try.func45, Try.ntmps45
  go_wp2_with fail
  refine (sFault_any m _ n f _ (hL.below (below_alloc3 _ _ _ _))).mono ?_
  rintro e w1 ⟨rfl, hb1⟩
  rw [hf]
  have h1 := (BxR.start w _ _ _ _ _ _).next hb1
  obtain ⟨⟨a0, a1, b0, b1, hz, bel⟩, -⟩ := id h1
  clear hb1 hf
  go_wp2_with fail
  refine (sFault_any m' _ n' f' _ (hL'.below bel)).mono ?_
  rintro e w2 ⟨rfl, hb2⟩
  rw [hf']
  have h2 := h1.next hb2
  clear hb2 hf' a0 a1 b0 b1 hz bel h1
  obtain ⟨⟨a0, a1, b0, b1, hz, bel⟩, ⟨c0, c1, c2, f0, f1, f2, lt⟩⟩ := id h2
  go_wp2_with fail
  refine bodyPost_ret (v := .agg #[.int .i64 1, .bool false, .slice none 0 0]) (by simp [results, Try.results45, go_sem, c0, c1, c2]) rfl ⟨rfl, ?_⟩
  exact ((bel.setCell (by show _ ≤ w.heap.size + 1 + 1; omega) _).setCell (by show _ ≤ w.heap.size + 1 + 1; omega) _).setCell (by show _ ≤ w.heap.size + 1 + 1; omega) _

theorem sAdd_f (m m' : Bool) (v v' : Value) (n n' : Nat) (f f' : Nat → Nat) (w : World) (hL : Lim w v n f) (hL' : Lim w v' n' f') (hf : faultB m n f = true ∨ faultB m' n' f' = true) :
    Calls Try.prog 45 #[.agg #[.bool m, v], .agg #[.bool m', v']] w fun e w' => e = .returned (.agg #[.int .i64 1, .bool false, .slice none 0 0]) ∧ Below w.heap.size w w' := by
  by_cases h : faultB m n f = true
  · exact sAdd_f1 m m' v v' n n' f f' w hL hL' h
  · rcases hf with hf | hf
    · exact absurd hf h
    · exact sAdd_f2 m m' v v' n n' f f' w hL hL' (Bool.eq_false_iff.2 h) hf

set_option maxHeartbeats 2000000 in
set_option maxRecDepth 100000 in
theorem sAdd_eq (m : Bool) (v v' : Value) (n n' : Nat) (f f' : Nat → Nat) (w : World) (hL : Lim w v n f) (hL' : Lim w v' n' f') (hf : faultB m n f = false) (hf' : faultB m n' f' = false) (N : Nat) (HN : Hid (trimN (addD (ext n f) (ext n' f')) (max n n' + 1) = N)) :
    Calls Try.prog 45 #[.agg #[.bool m, v], .agg #[.bool m, v']] w fun e w' => ∃ v', e = .returned (.agg #[.int .i64 (doneC N), .bool (doneM m N), v']) ∧ Own w.heap.size w' v' (doneN N) (addD (ext n f) (ext n' f')) ∧ Below w.heap.size w w' := by
  obtain ⟨a, c, rfl, -⟩ := id hL
  obtain ⟨a', c', rfl, -⟩ := id hL'
  have hn := faultB_le hf
  have hn' := faultB_le hf'
  go_enter Try.func45, Try.ntmps45
  go_wp2_with fail
  refine (sFault_any m _ n f _ (hL.below (below_alloc3 _ _ _ _))).mono ?_
  rintro e w1 ⟨rfl, hb1⟩
  rw [hf]
  have h1 := (BxR.start w _ _ _ _ _ _).next hb1
  obtain ⟨⟨a0, a1, b0, b1, hz, bel⟩, -⟩ := id h1
  clear hb1 hf
  go_wp2_with fail
  refine (sFault_any m _ n' f' _ (hL'.below bel)).mono ?_
  rintro e w2 ⟨rfl, hb2⟩
  rw [hf']
  have h2 := h1.next hb2
  clear hb2 hf' a0 a1 b0 b1 hz bel h1
  obtain ⟨⟨a0, a1, b0, b1, hz, bel⟩, ⟨c0, c1, c2, f0, f1, f2, lt⟩⟩ := id h2
  go_wp2_with fail
  go_region_held3 (fun w' => w'.cell? ⟨w.heap.size, 0, none⟩ = some (.bool m) ∧ w'.cell? ⟨w.heap.size, 1, none⟩ = some (.slice a n c) ∧ w'.cell? ⟨w.heap.size + 1, 0, none⟩ = some (.bool m) ∧ w'.cell? ⟨w.heap.size + 1, 1, none⟩ = some (.slice a' n' c')) (first | exact ⟨a0, a1, b0, b1⟩ | exact h3.box.four | exact h5.box.four | exact (((h5.box.set _ _).set _ _).set _ _).four) (first
    | (go_at_call 81; refine (sAdd_any _ _ n n' f f' _ ?_ ?_ ?_ ?_).mono ?_; exact hL.below bel.drew; exact hL'.below bel.drew; omega; omega; rintro e w3 ⟨v3, rfl, hr3, hb3⟩; rw [HN.out] at hr3; have ho3 := hr3.own (fun i _ => addD_lt _ _ _); obtain ⟨a3, c3, rfl, -⟩ := id ho3; have h3 := h2.draw.next hb3)
    | (go_at_call 84; refine (sDone_any m _ _ N _ _ ho3).mono ?_; rintro e w5 ⟨v5, rfl, ho5, hb5⟩; obtain ⟨a5, c5, rfl, -⟩ := id ho5; have h5 := h3.next hb5; have z5 := h2.res.lt; obtain ⟨-, ⟨c0, c1, c2, f0, f1, f2, lt5⟩⟩ := id h5))
  all_goals
    go_wp2_with fail
    refine bodyPost_ret (v := .agg #[.int .i64 (doneC N), .bool (doneM m N), .slice a5 (doneN N) c5]) (by simp [results, Try.results45, go_sem, c0, c1, c2]) rfl ⟨_, rfl, ?_, ?_⟩
    · exact ((((ho5.set _ _ (by show w.heap.size + 1 + 1 < _; exact z5)).set _ _ (by show w.heap.size + 1 + 1 < _; exact z5)).set _ _ (by show w.heap.size + 1 + 1 < _; exact z5)).less (Nat.le_trans (by omega) (Nat.le_of_lt z5)))
    · exact ((h5.box.bel.setCell (by show _ ≤ w.heap.size + 1 + 1; omega) _).setCell (by show _ ≤ w.heap.size + 1 + 1; omega) _).setCell (by show _ ≤ w.heap.size + 1 + 1; omega) _

set_option maxHeartbeats 2000000 in
set_option maxRecDepth 100000 in
theorem sAdd_ge (m : Bool) (v v' : Value) (n n' : Nat) (f f' : Nat → Nat) (w : World) (hL : Lim w v n f) (hL' : Lim w v' n' f') (hf : faultB m n f = false) (hf' : faultB (!m) n' f' = false) (N : Nat) (hcmp : 0 ≤ cmpF (ext n f) (ext n' f') (max n n')) (HN : Hid (trimN (subD (ext n f) (ext n' f')) n = N)) :
    Calls Try.prog 45 #[.agg #[.bool m, v], .agg #[.bool (!m), v']] w fun e w' => ∃ v', e = .returned (.agg #[.int .i64 (doneC N), .bool (doneM m N), v']) ∧ Own w.heap.size w' v' (doneN N) (subD (ext n f) (ext n' f')) ∧ Below w.heap.size w w' := by
  obtain ⟨a, c, rfl, -⟩ := id hL
  obtain ⟨a', c', rfl, -⟩ := id hL'
  have hn := faultB_le hf
  have hn' := faultB_le hf'
  have hr := cmpF_range (ext n f) (ext n' f') (max n n')
  obtain ⟨C, hC⟩ : ∃ C, C = cmpF (ext n f) (ext n' f') (max n n') := ⟨_, rfl⟩
  rw [← hC] at hcmp hr
  have HC := hide hC
  have dm : (m == !m) = false := by cases m <;> rfl
  clear hC
  have d : decide (0 ≤ C) = true := by simp; omega
  go_enter Try.func45, Try.ntmps45
  go_wp2_with fail
  refine (sFault_any m _ n f _ (hL.below (below_alloc3 _ _ _ _))).mono ?_
  rintro e w1 ⟨rfl, hb1⟩
  rw [hf]
  have h1 := (BxR.start w _ _ _ _ _ _).next hb1
  obtain ⟨⟨a0, a1, b0, b1, hz, bel⟩, -⟩ := id h1
  clear hb1 hf
  go_wp2_with fail
  refine (sFault_any (!m) _ n' f' _ (hL'.below bel)).mono ?_
  rintro e w2 ⟨rfl, hb2⟩
  rw [hf']
  have h2 := h1.next hb2
  clear hb2 hf' a0 a1 b0 b1 hz bel h1
  obtain ⟨⟨a0, a1, b0, b1, hz, bel⟩, ⟨c0, c1, c2, f0, f1, f2, lt⟩⟩ := id h2
  go_wp2_with fail
  refine (sCmp_any _ _ n n' f f' _ (hL.below bel) (hL'.below bel) (by omega) (by omega)).mono ?_
  rintro e w6 ⟨rfl, rfl⟩
  rw [← HC.out]
  go_wp2_with fail
  go_region_held3 (fun w' => w'.cell? ⟨w.heap.size, 0, none⟩ = some (.bool m) ∧ w'.cell? ⟨w.heap.size, 1, none⟩ = some (.slice a n c) ∧ w'.cell? ⟨w.heap.size + 1, 0, none⟩ = some (.bool (!m)) ∧ w'.cell? ⟨w.heap.size + 1, 1, none⟩ = some (.slice a' n' c')) (first | exact ⟨a0, a1, b0, b1⟩ | exact h3.box.four | exact h5.box.four | exact (((h5.box.set _ _).set _ _).set _ _).four) (first
    | (go_at_call 85; refine (sSub_any _ _ n n' f f' _ ?_ ?_ ?_ ?_).mono ?_; exact hL.below bel.drew; exact hL'.below bel.drew; omega; omega; rintro e w3 ⟨v3, rfl, hr3, hb3⟩; rw [HN.out] at hr3; have ho3 := hr3.own (fun i _ => subD_lt _ _ _); obtain ⟨a3, c3, rfl, -⟩ := id ho3; have h3 := h2.draw.next hb3)
    | (go_at_call 84; refine (sDone_any m _ _ N _ _ ho3).mono ?_; rintro e w5 ⟨v5, rfl, ho5, hb5⟩; obtain ⟨a5, c5, rfl, -⟩ := id ho5; have h5 := h3.next hb5; have z5 := h2.res.lt; obtain ⟨-, ⟨c0, c1, c2, f0, f1, f2, lt5⟩⟩ := id h5))
  all_goals
    go_wp2_with fail
    refine bodyPost_ret (v := .agg #[.int .i64 (doneC N), .bool (doneM m N), .slice a5 (doneN N) c5]) (by simp [results, Try.results45, go_sem, c0, c1, c2]) rfl ⟨_, rfl, ?_, ?_⟩
    · exact ((((ho5.set _ _ (by show w.heap.size + 1 + 1 < _; exact z5)).set _ _ (by show w.heap.size + 1 + 1 < _; exact z5)).set _ _ (by show w.heap.size + 1 + 1 < _; exact z5)).less (Nat.le_trans (by omega) (Nat.le_of_lt z5)))
    · exact ((h5.box.bel.setCell (by show _ ≤ w.heap.size + 1 + 1; omega) _).setCell (by show _ ≤ w.heap.size + 1 + 1; omega) _).setCell (by show _ ≤ w.heap.size + 1 + 1; omega) _

set_option maxHeartbeats 2000000 in
set_option maxRecDepth 100000 in
theorem sAdd_lt (m : Bool) (v v' : Value) (n n' : Nat) (f f' : Nat → Nat) (w : World) (hL : Lim w v n f) (hL' : Lim w v' n' f') (hf : faultB m n f = false) (hf' : faultB (!m) n' f' = false) (N : Nat) (hcmp : cmpF (ext n f) (ext n' f') (max n n') < 0) (HN : Hid (trimN (subD (ext n' f') (ext n f)) n' = N)) :
    Calls Try.prog 45 #[.agg #[.bool m, v], .agg #[.bool (!m), v']] w fun e w' => ∃ v', e = .returned (.agg #[.int .i64 (doneC N), .bool (doneM (!m) N), v']) ∧ Own w.heap.size w' v' (doneN N) (subD (ext n' f') (ext n f)) ∧ Below w.heap.size w w' := by
  obtain ⟨a, c, rfl, -⟩ := id hL
  obtain ⟨a', c', rfl, -⟩ := id hL'
  have hn := faultB_le hf
  have hn' := faultB_le hf'
  have hr := cmpF_range (ext n f) (ext n' f') (max n n')
  obtain ⟨C, hC⟩ : ∃ C, C = cmpF (ext n f) (ext n' f') (max n n') := ⟨_, rfl⟩
  rw [← hC] at hcmp hr
  have HC := hide hC
  have dm : (m == !m) = false := by cases m <;> rfl
  clear hC
  have d : decide (0 ≤ C) = false := by simp; omega
  go_enter Try.func45, Try.ntmps45
  go_wp2_with fail
  refine (sFault_any m _ n f _ (hL.below (below_alloc3 _ _ _ _))).mono ?_
  rintro e w1 ⟨rfl, hb1⟩
  rw [hf]
  have h1 := (BxR.start w _ _ _ _ _ _).next hb1
  obtain ⟨⟨a0, a1, b0, b1, hz, bel⟩, -⟩ := id h1
  clear hb1 hf
  go_wp2_with fail
  refine (sFault_any (!m) _ n' f' _ (hL'.below bel)).mono ?_
  rintro e w2 ⟨rfl, hb2⟩
  rw [hf']
  have h2 := h1.next hb2
  clear hb2 hf' a0 a1 b0 b1 hz bel h1
  obtain ⟨⟨a0, a1, b0, b1, hz, bel⟩, ⟨c0, c1, c2, f0, f1, f2, lt⟩⟩ := id h2
  go_wp2_with fail
  refine (sCmp_any _ _ n n' f f' _ (hL.below bel) (hL'.below bel) (by omega) (by omega)).mono ?_
  rintro e w6 ⟨rfl, rfl⟩
  rw [← HC.out]
  go_wp2_with fail
  go_region_held3 (fun w' => w'.cell? ⟨w.heap.size, 0, none⟩ = some (.bool m) ∧ w'.cell? ⟨w.heap.size, 1, none⟩ = some (.slice a n c) ∧ w'.cell? ⟨w.heap.size + 1, 0, none⟩ = some (.bool (!m)) ∧ w'.cell? ⟨w.heap.size + 1, 1, none⟩ = some (.slice a' n' c')) (first | exact ⟨a0, a1, b0, b1⟩ | exact h3.box.four | exact h5.box.four | exact (((h5.box.set _ _).set _ _).set _ _).four) (first
    | (go_at_call 85; refine (sSub_any _ _ n' n f' f _ ?_ ?_ ?_ ?_).mono ?_; exact hL'.below bel.drew; exact hL.below bel.drew; omega; omega; rintro e w3 ⟨v3, rfl, hr3, hb3⟩; rw [HN.out] at hr3; have ho3 := hr3.own (fun i _ => subD_lt _ _ _); obtain ⟨a3, c3, rfl, -⟩ := id ho3; have h3 := h2.draw.next hb3)
    | (go_at_call 84; refine (sDone_any (!m) _ _ N _ _ ho3).mono ?_; rintro e w5 ⟨v5, rfl, ho5, hb5⟩; obtain ⟨a5, c5, rfl, -⟩ := id ho5; have h5 := h3.next hb5; have z5 := h2.res.lt; obtain ⟨-, ⟨c0, c1, c2, f0, f1, f2, lt5⟩⟩ := id h5))
  all_goals
    go_wp2_with fail
    refine bodyPost_ret (v := .agg #[.int .i64 (doneC N), .bool (doneM (!m) N), .slice a5 (doneN N) c5]) (by simp [results, Try.results45, go_sem, c0, c1, c2]) rfl ⟨_, rfl, ?_, ?_⟩
    · exact ((((ho5.set _ _ (by show w.heap.size + 1 + 1 < _; exact z5)).set _ _ (by show w.heap.size + 1 + 1 < _; exact z5)).set _ _ (by show w.heap.size + 1 + 1 < _; exact z5)).less (Nat.le_trans (by omega) (Nat.le_of_lt z5)))
    · exact ((h5.box.bel.setCell (by show _ ≤ w.heap.size + 1 + 1; omega) _).setCell (by show _ ≤ w.heap.size + 1 + 1; omega) _).setCell (by show _ ≤ w.heap.size + 1 + 1; omega) _

theorem sAdd_ok (m m' : Bool) (v v' : Value) (n n' : Nat) (f f' : Nat → Nat) (w : World) (hL : Lim w v n f) (hL' : Lim w v' n' f') (hf : faultB m n f = false) (hf' : faultB m' n' f' = false) (N : Nat) (S : Bool) (D : Nat → Nat) (HN : Hid (addN m n (ext n f) m' n' (ext n' f') = N)) (HS : Hid (addS m n (ext n f) m' n' (ext n' f') = S)) (HD : Hid (addF m n (ext n f) m' n' (ext n' f') = D)) :
    Calls Try.prog 45 #[.agg #[.bool m, v], .agg #[.bool m', v']] w fun e w' => ∃ v', e = .returned (.agg #[.int .i64 (doneC N), .bool (doneM S N), v']) ∧ Own w.heap.size w' v' (doneN N) D ∧ Below w.heap.size w w' := by
  have hN := HN.out
  have hS := HS.out
  have hD := HD.out
  clear HN HS HD
  unfold addN at hN
  unfold addS at hS
  unfold addF at hD
  by_cases hm : m = m'
  · subst hm
    rw [if_pos rfl] at hN hS hD
    subst hS hD
    exact sAdd_eq m v v' n n' f f' w hL hL' hf hf' N hN
  · rw [if_neg hm] at hN hS hD
    obtain rfl : m' = !m := by cases m <;> cases m' <;> simp_all
    by_cases hcmp : 0 ≤ cmpF (ext n f) (ext n' f') (max n n')
    · rw [if_pos hcmp] at hN hS hD
      subst hS hD
      exact sAdd_ge m v v' n n' f f' w hL hL' hf hf' N hcmp hN
    · rw [if_neg hcmp] at hN hS hD
      subst hS hD
      exact sAdd_lt m v v' n n' f f' w hL hL' hf hf' N (by omega) hN

end Go.Proofs.Ytpcnmolncoaddaa
