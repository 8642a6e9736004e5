import Derived.Test.YtpcnmolncoaddaaBx
namespace Go.Proofs.Ytpcnmolncoaddaa
open Go.RowKit Go.Joins

set_option maxHeartbeats 1000000 in
set_option maxRecDepth 100000 in
theorem iAdd_f1 (m m' : Bool) (v v' : Value) (n n' : Nat) (f f' : Nat → Nat) (w : World) (hL : Lim w v n f) (hL' : Lim w v' n' f') (hf : faultB m n f = true) :
    Calls Try.prog 17 #[.agg #[.bool m, v], .agg #[.bool m', v']] w fun e w' => e = .returned (.agg #[.int .i64 1, .bool false, .slice none 0 0]) ∧ Below w.heap.size w w' := by
  obtain ⟨a, c, rfl, -⟩ := id hL
  obtain ⟨a', c', rfl, -⟩ := id hL'
  go_enter Try.func17, Try.ntmps17
  go_wp2_with fail
  refine (iFault_any m _ n f _ (hL.below (below_alloc3 _ _ _ _))).mono ?_
  rintro e w1 ⟨rfl, hb1⟩
  rw [hf]
  have h1 := (BxR.start w _ _ _ _ _ _).next hb1
  obtain ⟨⟨a0, a1, b0, b1, hz, bel⟩, ⟨c0, c1, c2, f0, f1, f2, lt⟩⟩ := id h1
  clear hb1 hf
  go_wp2_with fail
  refine bodyPost_ret (v := .agg #[.int .i64 1, .bool false, .slice none 0 0]) (by simp [results, Try.results17, go_sem, c0, c1, c2]) rfl ⟨rfl, ?_⟩
  exact ((bel.setCell (by show _ ≤ w.heap.size + 1 + 1; omega) _).setCell (by show _ ≤ w.heap.size + 1 + 1; omega) _).setCell (by show _ ≤ w.heap.size + 1 + 1; omega) _

set_option maxHeartbeats 1000000 in
set_option maxRecDepth 100000 in
theorem iAdd_f2 (m m' : Bool) (v v' : Value) (n n' : Nat) (f f' : Nat → Nat) (w : World) (hL : Lim w v n f) (hL' : Lim w v' n' f') (hf : faultB m n f = false) (hf' : faultB m' n' f' = true) :
    Calls Try.prog 17 #[.agg #[.bool m, v], .agg #[.bool m', v']] w fun e w' => e = .returned (.agg #[.int .i64 1, .bool false, .slice none 0 0]) ∧ Below w.heap.size w w' := by
  obtain ⟨a, c, rfl, -⟩ := id hL
  obtain ⟨a', c', rfl, -⟩ := id hL'
  go_enter Try.func17, Try.ntmps17
  go_wp2_with fail
  refine (iFault_any m _ n f _ (hL.below (below_alloc3 _ _ _ _))).mono ?_
  rintro e w1 ⟨rfl, hb1⟩
  rw [hf]
  have h1 := (BxR.start w _ _ _ _ _ _).next hb1
  obtain ⟨⟨a0, a1, b0, b1, hz, bel⟩, -⟩ := id h1
  clear hb1 hf
  go_wp2_with fail
  refine (iFault_any m' _ n' f' _ (hL'.below bel)).mono ?_
  rintro e w2 ⟨rfl, hb2⟩
  rw [hf']
  have h2 := h1.next hb2
  clear hb2 hf' a0 a1 b0 b1 hz bel h1
  obtain ⟨⟨a0, a1, b0, b1, hz, bel⟩, ⟨c0, c1, c2, f0, f1, f2, lt⟩⟩ := id h2
  go_wp2_with fail
  refine bodyPost_ret (v := .agg #[.int .i64 1, .bool false, .slice none 0 0]) (by simp [results, Try.results17, go_sem, c0, c1, c2]) rfl ⟨rfl, ?_⟩
  exact ((bel.setCell (by show _ ≤ w.heap.size + 1 + 1; omega) _).setCell (by show _ ≤ w.heap.size + 1 + 1; omega) _).setCell (by show _ ≤ w.heap.size + 1 + 1; omega) _

theorem iAdd_f (m m' : Bool) (v v' : Value) (n n' : Nat) (f f' : Nat → Nat) (w : World) (hL : Lim w v n f) (hL' : Lim w v' n' f') (hf : faultB m n f = true ∨ faultB m' n' f' = true) :
    Calls Try.prog 17 #[.agg #[.bool m, v], .agg #[.bool m', v']] w fun e w' => e = .returned (.agg #[.int .i64 1, .bool false, .slice none 0 0]) ∧ Below w.heap.size w w' := by
  by_cases h : faultB m n f = true
  · exact iAdd_f1 m m' v v' n n' f f' w hL hL' h
  · rcases hf with hf | hf
    · exact absurd hf h
    · exact iAdd_f2 m m' v v' n n' f f' w hL hL' (Bool.eq_false_iff.2 h) hf

set_option maxHeartbeats 2000000 in
set_option maxRecDepth 100000 in
theorem iAdd_ok (m m' : Bool) (v v' : Value) (n n' : Nat) (f f' : Nat → Nat) (w : World) (hL : Lim w v n f) (hL' : Lim w v' n' f') (hf : faultB m n f = false) (hf' : faultB m' n' f' = false) (N : Nat) (S : Bool) (D : Nat → Nat) (HN : Hid (addN m n (ext n f) m' n' (ext n' f') = N)) (HS : Hid (addS m n (ext n f) m' n' (ext n' f') = S)) (HD : Hid (addF m n (ext n f) m' n' (ext n' f') = D)) :
    Calls Try.prog 17 #[.agg #[.bool m, v], .agg #[.bool m', v']] w fun e w' => ∃ v', e = .returned (.agg #[.int .i64 (doneC N), .bool (doneM S N), v']) ∧ Own w.heap.size w' v' (doneN N) D ∧ Below w.heap.size w w' := by
  obtain ⟨a, c, rfl, -⟩ := id hL
  obtain ⟨a', c', rfl, -⟩ := id hL'
  have hn := faultB_le hf
  have hn' := faultB_le hf'
  have HF := hide (extLt hL)
  have HG := hide (extLt hL')
  have HA : Hid (∀ cs3 cs4 w, MagC cs3 n (ext n f) → MagC cs4 n' (ext n' f') → Calls Try.prog 53 #[.bool m, .agg cs3, .bool m', .agg cs4] w fun e w' => ∃ v', e = .returned (.agg #[.int .i64 (doneC N), .bool (doneM S N), v']) ∧ Own w.heap.size w' v' (doneN N) D ∧ Below w.heap.size w w') := fun cs3 cs4 w h3 h4 => by
    rw [← HN.out, ← HS.out, ← HD.out]; exact addSigned_any m m' cs3 cs4 n n' _ _ w h3 h4 hn hn' HF.out HG.out (ext_ge n f) (ext_ge n' f')
  clear HN HS HD HF HG
  go_enter Try.func17, Try.ntmps17
  go_wp2_with fail
  refine (iFault_any m _ n f _ (hL.below (below_alloc3 _ _ _ _))).mono ?_
  rintro e w1 ⟨rfl, hb1⟩
  rw [hf]
  have h1 := (BxR.start w _ _ _ _ _ _).next hb1
  obtain ⟨⟨a0, a1, b0, b1, hz, bel⟩, -⟩ := id h1
  clear hb1 hf
  go_wp2_with fail
  refine (iFault_any m' _ n' f' _ (hL'.below bel)).mono ?_
  rintro e w2 ⟨rfl, hb2⟩
  rw [hf']
  have h2 := h1.next hb2
  clear hb2 hf' a0 a1 b0 b1 hz bel h1
  obtain ⟨⟨a0, a1, b0, b1, hz, bel⟩, ⟨c0, c1, c2, f0, f1, f2, lt⟩⟩ := id h2
  go_wp2_with fail
  go_region_held3 (fun w' => w'.cell? ⟨w.heap.size, 0, none⟩ = some (.bool m) ∧ w'.cell? ⟨w.heap.size, 1, none⟩ = some (.slice a n c) ∧ w'.cell? ⟨w.heap.size + 1, 0, none⟩ = some (.bool m') ∧ w'.cell? ⟨w.heap.size + 1, 1, none⟩ = some (.slice a' n' c')) (first | exact ⟨a0, a1, b0, b1⟩ | exact h3.box.four | exact h4.box.four | exact h5.box.four | exact (((h5.box.set _ _).set _ _).set _ _).four) (first
    | (go_at_call_of 54 (Value.slice a n c); refine (magOf_any _ n f _ ?_ ?_).mono ?_; exact hL.below bel.drew; omega; rintro e w3 ⟨cs3, rfl, hc3, hb3⟩; have h3 := h2.draw.next hb3)
    | (go_at_call_of 54 (Value.slice a' n' c'); refine (magOf_any _ n' f' _ ?_ ?_).mono ?_; exact hL'.below h3.box.bel; omega; rintro e w4 ⟨cs4, rfl, hc4, hb4⟩; have h4 := h3.next hb4)
    | (go_at_call 53; refine (HA.out cs3 cs4 _ hc3 hc4).mono ?_; rintro e w5 ⟨v5, rfl, ho5, hb5⟩; obtain ⟨a5, c5, rfl, -⟩ := id ho5; have h5 := h4.next hb5; have z5 := h4.res.lt; obtain ⟨-, ⟨c0, c1, c2, f0, f1, f2, lt5⟩⟩ := id h5))
  all_goals
    go_wp2_with fail
    refine bodyPost_ret (v := .agg #[.int .i64 (doneC N), .bool (doneM S N), .slice a5 (doneN N) c5]) (by simp [results, Try.results17, go_sem, c0, c1, c2]) rfl ⟨_, rfl, ?_, ?_⟩
    · exact ((((ho5.set _ _ (by show w.heap.size + 1 + 1 < _; omega)).set _ _ (by show w.heap.size + 1 + 1 < _; omega)).set _ _ (by show w.heap.size + 1 + 1 < _; omega)).less (by omega))
    · exact ((h5.box.bel.setCell (by show _ ≤ w.heap.size + 1 + 1; omega) _).setCell (by show _ ≤ w.heap.size + 1 + 1; omega) _).setCell (by show _ ≤ w.heap.size + 1 + 1; omega) _

end Go.Proofs.Ytpcnmolncoaddaa
