import Derived.Test.YtpcnmolncoaddaaSAdd2
namespace Go.Proofs.Ytpcnmolncoaddaa
open Go.RowKit Go.Joins

set_option maxHeartbeats 1000000 in
set_option maxRecDepth 100000 in
theorem sSub2_f1 (m m' : Bool) (v v' : Value) (n n' : Nat) (f f' : Nat → Nat) (w : World) (hL : Lim w v n f) (hL' : Lim w v' n' f') (hf : faultB m n f = true) :
    Calls Try.prog 46 #[.agg #[.bool m, v], .agg #[.bool m', v']] w fun e w' => e = .returned (.agg #[.int .i64 1, .bool false, .slice none 0 0]) ∧ Below w.heap.size w w' := by
  obtain ⟨a, c, rfl, -⟩ := id hL
  obtain ⟨a', c', rfl, -⟩ := id hL'
  go_enter Try.func46, Try.ntmps46
  go_wp2_with fail
  refine (sFault_any m _ n f _ (hL.below (below_alloc3 _ _ _ _))).mono ?_
  rintro e w1 ⟨rfl, hb1⟩
  rw [hf]
  have h1 := (BxR.start w _ _ _ _ _ _).next hb1
  obtain ⟨⟨a0, a1, b0, b1, hz, bel⟩, ⟨c0, c1, c2, f0, f1, f2, lt⟩⟩ := id h1
  clear hb1 hf
  go_wp2_with fail
  refine bodyPost_ret (v := .agg #[.int .i64 1, .bool false, .slice none 0 0]) (by simp [results, Try.results46, go_sem, c0, c1, c2]) rfl ⟨rfl, ?_⟩
  exact ((bel.setCell (by show _ ≤ w.heap.size + 1 + 1; omega) _).setCell (by show _ ≤ w.heap.size + 1 + 1; omega) _).setCell (by show _ ≤ w.heap.size + 1 + 1; omega) _

set_option maxHeartbeats 1000000 in
set_option maxRecDepth 100000 in
theorem sSub2_f2 (m m' : Bool) (v v' : Value) (n n' : Nat) (f f' : Nat → Nat) (w : World) (hL : Lim w v n f) (hL' : Lim w v' n' f') (hf : faultB m n f = false) (hf' : faultB m' n' f' = true) :
    Calls Try.prog 46 #[.agg #[.bool m, v], .agg #[.bool m', v']] w fun e w' => e = .returned (.agg #[.int .i64 1, .bool false, .slice none 0 0]) ∧ Below w.heap.size w w' := by
  obtain ⟨a, c, rfl, -⟩ := id hL
  obtain ⟨a', c', rfl, -⟩ := id hL'
  go_enter Try.func46, Try.ntmps46
  go_wp2_with fail
  refine (sFault_any m _ n f _ (hL.below (below_alloc3 _ _ _ _))).mono ?_
  rintro e w1 ⟨rfl, hb1⟩
  rw [hf]
  have h1 := (BxR.start w _ _ _ _ _ _).next hb1
  obtain ⟨⟨a0, a1, b0, b1, hz, bel⟩, -⟩ := id h1
  clear hb1 hf
  go_wp2_with fail
  refine (sFault_any m' _ n' f' _ (hL'.below bel)).mono ?_
  rintro e w2 ⟨rfl, hb2⟩
  rw [hf']
  have h2 := h1.next hb2
  clear hb2 hf' a0 a1 b0 b1 hz bel h1
  obtain ⟨⟨a0, a1, b0, b1, hz, bel⟩, ⟨c0, c1, c2, f0, f1, f2, lt⟩⟩ := id h2
  go_wp2_with fail
  refine bodyPost_ret (v := .agg #[.int .i64 1, .bool false, .slice none 0 0]) (by simp [results, Try.results46, go_sem, c0, c1, c2]) rfl ⟨rfl, ?_⟩
  exact ((bel.setCell (by show _ ≤ w.heap.size + 1 + 1; omega) _).setCell (by show _ ≤ w.heap.size + 1 + 1; omega) _).setCell (by show _ ≤ w.heap.size + 1 + 1; omega) _

theorem sSub2_f (m m' : Bool) (v v' : Value) (n n' : Nat) (f f' : Nat → Nat) (w : World) (hL : Lim w v n f) (hL' : Lim w v' n' f') (hf : faultB m n f = true ∨ faultB m' n' f' = true) :
    Calls Try.prog 46 #[.agg #[.bool m, v], .agg #[.bool m', v']] w fun e w' => e = .returned (.agg #[.int .i64 1, .bool false, .slice none 0 0]) ∧ Below w.heap.size w w' := by
  by_cases h : faultB m n f = true
  · exact sSub2_f1 m m' v v' n n' f f' w hL hL' h
  · rcases hf with hf | hf
    · exact absurd hf h
    · exact sSub2_f2 m m' v v' n n' f f' w hL hL' (Bool.eq_false_iff.2 h) hf

set_option maxHeartbeats 2000000 in
set_option maxRecDepth 100000 in
theorem sSub2_ok (m m' : Bool) (v v' : Value) (n n' : Nat) (f f' : Nat → Nat) (w : World) (hL : Lim w v n f) (hL' : Lim w v' n' f') (hf : faultB m n f = false) (hf' : faultB m' n' f' = false) (N : Nat) (S : Bool) (D : Nat → Nat) (HN : Hid (addN m n (ext n f) (!m' && decide (0 < n')) n' (ext n' f') = N)) (HS : Hid (addS m n (ext n f) (!m' && decide (0 < n')) n' (ext n' f') = S)) (HD : Hid (addF m n (ext n f) (!m' && decide (0 < n')) n' (ext n' f') = D)) :
    Calls Try.prog 46 #[.agg #[.bool m, v], .agg #[.bool m', v']] w fun e w' => ∃ v', e = .returned (.agg #[.int .i64 (doneC N), .bool (doneM S N), v']) ∧ Own w.heap.size w' v' (doneN N) D ∧ Below w.heap.size w w' := by
  obtain ⟨a, c, rfl, -⟩ := id hL
  obtain ⟨a', c', rfl, -⟩ := id hL'
  have hn := faultB_le hf
  have hn' := faultB_le hf'
  have hf2 : faultB (!m' && decide (0 < n')) n' f' = false := by
    rcases Nat.eq_zero_or_pos n' with h0 | h0
    · subst h0; simp [faultB]
    · rw [← hf']; unfold faultB; rw [if_neg (by omega), if_neg (by omega)]
  have HA : Hid (∀ (u u' : Value) (w : World), Lim w u n f → Lim w u' n' f' → Calls Try.prog 45 #[.agg #[.bool m, u], .agg #[.bool (!m' && decide (0 < n')), u']] w fun e w' => ∃ v', e = .returned (.agg #[.int .i64 (doneC N), .bool (doneM S N), v']) ∧ Own w.heap.size w' v' (doneN N) D ∧ Below w.heap.size w w') := fun u u' w h h' => sAdd_ok m _ u u' n n' f f' w h h' hf hf2 N S D HN HS HD
  clear HN HS HD hf2
  go_enter Try.func46, Try.ntmps46
  go_wp2_with fail
  refine (sFault_any m _ n f _ (hL.below (below_alloc3 _ _ _ _))).mono ?_
  rintro e w1 ⟨rfl, hb1⟩
  rw [hf]
  have h1 := (BxR.start w _ _ _ _ _ _).next hb1
  obtain ⟨⟨a0, a1, b0, b1, hz, bel⟩, -⟩ := id h1
  clear hb1 hf
  go_wp2_with fail
  refine (sFault_any m' _ n' f' _ (hL'.below bel)).mono ?_
  rintro e w2 ⟨rfl, hb2⟩
  rw [hf']
  have h2 := h1.next hb2
  clear hb2 hf' a0 a1 b0 b1 hz bel h1
  obtain ⟨⟨a0, a1, b0, b1, hz, bel⟩, ⟨c0, c1, c2, f0, f1, f2, lt⟩⟩ := id h2
  go_wp2_with fail
  go_region_held3 (fun w' => w'.cell? ⟨w.heap.size, 0, none⟩ = some (.bool m) ∧ w'.cell? ⟨w.heap.size, 1, none⟩ = some (.slice a n c) ∧ w'.cell? ⟨w.heap.size + 1, 0, none⟩ = some (.bool m') ∧ w'.cell? ⟨w.heap.size + 1, 1, none⟩ = some (.slice a' n' c')) (first | exact ⟨a0, a1, b0, b1⟩ | exact h3.box.four | exact h5.box.four | exact (((h5.box.set _ _).set _ _).set _ _).four) (first
    | (go_at_call 76; refine (make_any (!m') a' n' c' _).mono ?_; rintro e w3 ⟨rfl, hb3⟩; have h3 := h2.draw.next hb3)
    | (go_at_call 45; refine (HA.out _ _ _ ?_ ?_).mono ?_; exact hL.below h3.box.bel; exact hL'.below h3.box.bel; rintro e w5 ⟨v5, rfl, ho5, hb5⟩; obtain ⟨a5, c5, rfl, -⟩ := id ho5; have h5 := h3.next hb5; have z5 := h3.res.lt; obtain ⟨-, ⟨c0, c1, c2, f0, f1, f2, lt5⟩⟩ := id h5))
  all_goals
    go_wp2_with fail
    refine bodyPost_ret (v := .agg #[.int .i64 (doneC N), .bool (doneM S N), .slice a5 (doneN N) c5]) (by simp [results, Try.results46, go_sem, c0, c1, c2]) rfl ⟨_, rfl, ?_, ?_⟩
    · exact ((((ho5.set _ _ (by show w.heap.size + 1 + 1 < _; omega)).set _ _ (by show w.heap.size + 1 + 1 < _; omega)).set _ _ (by show w.heap.size + 1 + 1 < _; omega)).less (by omega))
    · exact ((h5.box.bel.setCell (by show _ ≤ w.heap.size + 1 + 1; omega) _).setCell (by show _ ≤ w.heap.size + 1 + 1; omega) _).setCell (by show _ ≤ w.heap.size + 1 + 1; omega) _

theorem addD_zeroG {F : Nat → Nat} (hF : ∀ i, F i < 4294967296) : addD F (fun _ => 0) = F := by
  have hc : ∀ k, addC F (fun _ => 0) k = 0 := by
    intro k
    induction k with
    | zero => rfl
    | succ k ih => unfold addC; rw [ih]; have := hF k; omega
  funext i
  unfold addD
  rw [hc]; have := hF i; show (0 + (F i + 0)) % 4294967296 = F i; omega
theorem subD_zeroG {F : Nat → Nat} (hF : ∀ i, F i < 4294967296) : subD F (fun _ => 0) = F := by
  have hc : ∀ k, subB F (fun _ => 0) k = 0 := by
    intro k
    induction k with
    | zero => rfl
    | succ k ih => unfold subB; rw [ih]; simp
  funext i
  unfold subD
  rw [hc]; have := hF i; show (F i + 4294967296 - 0 - 0) % 4294967296 = F i; omega
theorem cmpF_zeroG (F : Nat → Nat) (k : Nat) : 0 ≤ cmpF F (fun _ => 0) k := by
  induction k with
  | zero => simp [cmpF]
  | succ k ih => unfold cmpF; split; omega; split <;> omega

theorem addZ (m b : Bool) (n : Nat) {F : Nat → Nat} (hF : ∀ i, F i < 4294967296) (hF0 : ∀ i, n ≤ i → F i = 0) : addN m n F b 0 (fun _ => 0) = trimN F n ∧ addS m n F b 0 (fun _ => 0) = m ∧ addF m n F b 0 (fun _ => 0) = F := by
  unfold addN addS addF
  rw [if_pos (cmpF_zeroG F _), if_pos (cmpF_zeroG F _), if_pos (cmpF_zeroG F _), addD_zeroG hF, subD_zeroG hF]
  refine ⟨?_, by split <;> rfl, by split <;> rfl⟩
  split
  · rw [Nat.max_eq_left (Nat.zero_le _)]
    show (if F n = 0 then trimN F n else _) = _
    rw [if_pos (hF0 n (Nat.le_refl _))]
  · rfl

theorem subSame (m m' : Bool) (n n' : Nat) (f f' : Nat → Nat) (hF : ∀ i, ext n f i < 4294967296) :
    addN m n (ext n f) (!m' && decide (0 < n')) n' (ext n' f') = addN m n (ext n f) (!m') n' (ext n' f') ∧ addS m n (ext n f) (!m' && decide (0 < n')) n' (ext n' f') = addS m n (ext n f) (!m') n' (ext n' f') ∧ addF m n (ext n f) (!m' && decide (0 < n')) n' (ext n' f') = addF m n (ext n f) (!m') n' (ext n' f') := by
  rcases Nat.eq_zero_or_pos n' with rfl | h0
  · rw [ext_zero]
    have h1 := addZ m (!m' && decide (0 < 0)) n hF (ext_ge n f)
    have h2 := addZ m (!m') n hF (ext_ge n f)
    exact ⟨h1.1.trans h2.1.symm, h1.2.1.trans h2.2.1.symm, h1.2.2.trans h2.2.2.symm⟩
  · have e : (!m' && decide (0 < n')) = !m' := by simp [h0]
    rw [e]; exact ⟨rfl, rfl, rfl⟩

end Go.Proofs.Ytpcnmolncoaddaa
