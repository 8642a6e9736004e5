import Derived.Test.YtpcnmolncoaddaaSMul
import Derived.Test.YtpcnmolncoaddaaBx
namespace Go.Proofs.Ytpcnmolncoaddaa
open Go.RowKit Go.Joins

set_option maxHeartbeats 1000000 in
set_option maxRecDepth 100000 in
theorem sMul_zero (a : Option Addr) (c : Nat) (v2 : Value) (n m : Nat) (F g : Nat → Nat) (w : World) (hz : n ≤ 0) (hL' : Lim w v2 m g) (hm : m ≤ 1000) :
    Calls Try.prog 82 #[.slice a n c, v2] w fun e w' => ∃ v', e = .returned v' ∧ Row w.heap.size w' v' (trimN (mulP F (ext m g) m n) (n + m)) (mulP F (ext m g) m n) ∧ Below w.heap.size w w' := by
  obtain ⟨a', c', rfl, -⟩ := id hL'
  have hmk := run_make_row' (P := Try.prog) 23 60 (.int .u32 0) 4 Try.underlying23 Try.info60 rfl .i64 .i64 (n + m + 1) (by omega) (by omega)
  have ec : (((n + m + 1 : Nat) : Nat) : Int) = (n : Int) + (m : Int) + 1 := by omega
  rw [ec] at hmk
  clear ec
  have hn : n ≤ 1000 := by omega
  have HE : Hid (mulP F (ext m g) m n = fun _ => 0) := by
    obtain rfl : n = 0 := by omega
    rfl
  go_enter Try.func82, Try.ntmps82
  go_wp2_with fail
  clear hmk
  go_loopw [6] (fun s6 wr => s6 = .int .i64 0 ∧ Half wr w.heap.size (n + m + 1) (n + m + 1) (fun _ => 0) ∧ Below w.heap.size w wr) (fun s6 _ => 0)
  case atStart => exact ⟨rfl, half_made w (n + m + 1), below_alloc1 _ _⟩
  case round =>
    obtain ⟨rfl, hh, bel'⟩ := hrel
    have z2 := bel'.size
    have ho := hh.own (B' := w.heap.size) rfl (Nat.le_refl _) (by unfold maxLen; omega) (fun i _ => by omega)
    clear hh
    go_wp2_with fail
    refine (trim_any ho.lim ho.nil (by omega)).mono ?_
    rintro e w2 ⟨v2, rfl, hr2, hb2⟩
    go_wp2_with fail
    go_ret
    refine ⟨v2, rfl, ?_, bel'.trans (hb2.mono z2)⟩
    rw [HE.out]
    refine (hr2.less z2).eq ?_ (fun _ _ => rfl)
    show (if (0 : Nat) = 0 then _ else _) = _
    rw [if_pos rfl]

theorem sMul_any (v1 v2 : Value) (n m : Nat) (f g : Nat → Nat) (w : World) (hL : Lim w v1 n f) (hL' : Lim w v2 m g) (hn : n ≤ 1000) (hm : m ≤ 1000) :
    Calls Try.prog 82 #[v1, v2] w fun e w' => ∃ v', e = .returned v' ∧ Row w.heap.size w' v' (trimN (mulP (ext n f) (ext m g) m n) (n + m)) (mulP (ext n f) (ext m g) m n) ∧ Below w.heap.size w w' := by
  obtain ⟨a, c, rfl, h1, h2, h3, h4⟩ := id hL
  rcases Nat.eq_zero_or_pos n with h0 | hp
  · exact sMul_zero a c v2 n m (ext n f) g w (by omega) hL' hm
  · obtain ⟨b, off, rfl, h5⟩ := h4 hp
    exact sMul_pos b off c v2 n m f g w hp hL h5 hL' hn hm

set_option maxHeartbeats 1000000 in
set_option maxRecDepth 100000 in
theorem sMul2_f1 (m m' : Bool) (v v' : Value) (n n' : Nat) (f f' : Nat → Nat) (w : World) (hL : Lim w v n f) (hL' : Lim w v' n' f') (hf : faultB m n f = true) :
    Calls Try.prog 47 #[.agg #[.bool m, v], .agg #[.bool m', v']] w fun e w' => e = .returned (.agg #[.int .i64 1, .bool false, .slice none 0 0]) ∧ Below w.heap.size w w' := by
  obtain ⟨a, c, rfl, -⟩ := id hL
  obtain ⟨a', c', rfl, -⟩ := id hL'
  go_enter Try.func47, Try.ntmps47
  go_wp2_with fail
  refine (sFault_any m _ n f _ (hL.below (below_alloc3 _ _ _ _))).mono ?_
  rintro e w1 ⟨rfl, hb1⟩
  rw [hf]
  have h1 := (BxR.start w _ _ _ _ _ _).next hb1
  obtain ⟨⟨a0, a1, b0, b1, hz, bel⟩, ⟨c0, c1, c2, f0, f1, f2, lt⟩⟩ := id h1
  clear hb1 hf
  go_wp2_with fail
  refine bodyPost_ret (v := .agg #[.int .i64 1, .bool false, .slice none 0 0]) (by simp [results, Try.results47, go_sem, c0, c1, c2]) rfl ⟨rfl, ?_⟩
  exact ((bel.setCell (by show _ ≤ w.heap.size + 1 + 1; omega) _).setCell (by show _ ≤ w.heap.size + 1 + 1; omega) _).setCell (by show _ ≤ w.heap.size + 1 + 1; omega) _

set_option maxHeartbeats 1000000 in
set_option maxRecDepth 100000 in
theorem sMul2_f2 (m m' : Bool) (v v' : Value) (n n' : Nat) (f f' : Nat → Nat) (w : World) (hL : Lim w v n f) (hL' : Lim w v' n' f') (hf : faultB m n f = false) (hf' : faultB m' n' f' = true) :
    Calls Try.prog 47 #[.agg #[.bool m, v], .agg #[.bool m', v']] w fun e w' => e = .returned (.agg #[.int .i64 1, .bool false, .slice none 0 0]) ∧ Below w.heap.size w w' := by
  obtain ⟨a, c, rfl, -⟩ := id hL
  obtain ⟨a', c', rfl, -⟩ := id hL'
  go_enter Try.func47, Try.ntmps47
  go_wp2_with fail
  refine (sFault_any m _ n f _ (hL.below (below_alloc3 _ _ _ _))).mono ?_
  rintro e w1 ⟨rfl, hb1⟩
  rw [hf]
  have h1 := (BxR.start w _ _ _ _ _ _).next hb1
  obtain ⟨⟨a0, a1, b0, b1, hz, bel⟩, -⟩ := id h1
  clear hb1 hf
  go_wp2_with fail
  refine (sFault_any m' _ n' f' _ (hL'.below bel)).mono ?_
  rintro e w2 ⟨rfl, hb2⟩
  rw [hf']
  have h2 := h1.next hb2
  clear hb2 hf' a0 a1 b0 b1 hz bel h1
  obtain ⟨⟨a0, a1, b0, b1, hz, bel⟩, ⟨c0, c1, c2, f0, f1, f2, lt⟩⟩ := id h2
  go_wp2_with fail
  refine bodyPost_ret (v := .agg #[.int .i64 1, .bool false, .slice none 0 0]) (by simp [results, Try.results47, go_sem, c0, c1, c2]) rfl ⟨rfl, ?_⟩
  exact ((bel.setCell (by show _ ≤ w.heap.size + 1 + 1; omega) _).setCell (by show _ ≤ w.heap.size + 1 + 1; omega) _).setCell (by show _ ≤ w.heap.size + 1 + 1; omega) _

theorem sMul2_f (m m' : Bool) (v v' : Value) (n n' : Nat) (f f' : Nat → Nat) (w : World) (hL : Lim w v n f) (hL' : Lim w v' n' f') (hf : faultB m n f = true ∨ faultB m' n' f' = true) :
    Calls Try.prog 47 #[.agg #[.bool m, v], .agg #[.bool m', v']] w fun e w' => e = .returned (.agg #[.int .i64 1, .bool false, .slice none 0 0]) ∧ Below w.heap.size w w' := by
  by_cases h : faultB m n f = true
  · exact sMul2_f1 m m' v v' n n' f f' w hL hL' h
  · rcases hf with hf | hf
    · exact absurd hf h
    · exact sMul2_f2 m m' v v' n n' f f' w hL hL' (Bool.eq_false_iff.2 h) hf

set_option maxHeartbeats 2000000 in
set_option maxRecDepth 100000 in
theorem sMul2_ok (m m' : Bool) (v v' : Value) (n n' : Nat) (f f' : Nat → Nat) (w : World) (hL : Lim w v n f) (hL' : Lim w v' n' f') (hf : faultB m n f = false) (hf' : faultB m' n' f' = false) (N : Nat) (S : Bool) (D : Nat → Nat) (HN : Hid (trimN (mulP (ext n f) (ext n' f') n' n) (n + n') = N)) (HS : Hid ((m != m') = S)) (HD : Hid (mulP (ext n f) (ext n' f') n' n = D)) :
    Calls Try.prog 47 #[.agg #[.bool m, v], .agg #[.bool m', v']] w fun e w' => ∃ v', e = .returned (.agg #[.int .i64 (doneC N), .bool (doneM S N), v']) ∧ Own w.heap.size w' v' (doneN N) D ∧ Below w.heap.size w w' := by
  obtain ⟨a, c, rfl, -⟩ := id hL
  obtain ⟨a', c', rfl, -⟩ := id hL'
  have hn := faultB_le hf
  have hn' := faultB_le hf'
  have hlt := hide (mulP_lt (extLt hL) (extLt hL') n' n)
  rw [HD.out] at hlt
  go_enter Try.func47, Try.ntmps47
  go_wp2_with fail
  refine (sFault_any m _ n f _ (hL.below (below_alloc3 _ _ _ _))).mono ?_
  rintro e w1 ⟨rfl, hb1⟩
  rw [hf]
  have h1 := (BxR.start w _ _ _ _ _ _).next hb1
  obtain ⟨⟨a0, a1, b0, b1, hz, bel⟩, -⟩ := id h1
  clear hb1 hf
  go_wp2_with fail
  refine (sFault_any m' _ n' f' _ (hL'.below bel)).mono ?_
  rintro e w2 ⟨rfl, hb2⟩
  rw [hf']
  have h2 := h1.next hb2
  clear hb2 hf' a0 a1 b0 b1 hz bel h1
  obtain ⟨⟨a0, a1, b0, b1, hz, bel⟩, ⟨c0, c1, c2, f0, f1, f2, lt⟩⟩ := id h2
  go_wp2_with fail
  go_region_held3 (fun w' => w'.cell? ⟨w.heap.size, 0, none⟩ = some (.bool m) ∧ w'.cell? ⟨w.heap.size, 1, none⟩ = some (.slice a n c) ∧ w'.cell? ⟨w.heap.size + 1, 0, none⟩ = some (.bool m') ∧ w'.cell? ⟨w.heap.size + 1, 1, none⟩ = some (.slice a' n' c')) (first | exact ⟨a0, a1, b0, b1⟩ | exact h3.box.four | exact h4.box.four | exact h6.box.four | exact h5.box.four | exact (((h5.box.set _ _).set _ _).set _ _).four) (first
    | (go_at_call 82; refine (sMul_any _ _ n n' f f' _ ?_ ?_ ?_ ?_).mono ?_; exact hL.below bel.drew; exact hL'.below bel.drew; omega; omega; rintro e w3 ⟨v3, rfl, hr3, hb3⟩; rw [HN.out, HD.out] at hr3; have ho3 := hr3.own (fun i _ => hlt.out i); obtain ⟨a3, c3, rfl, -⟩ := id ho3; have h3 := h2.draw.next hb3)
    | (go_at_call 84; refine (sDone_any (m != m') _ _ N _ _ ho3).mono ?_; rintro e w5 ⟨v5, rfl, ho5, hb5⟩; obtain ⟨a5, c5, rfl, -⟩ := id ho5; have h5 := h3.next hb5; have z5 := h2.res.lt; obtain ⟨-, ⟨c0, c1, c2, f0, f1, f2, lt5⟩⟩ := id h5))
  all_goals
    go_wp2_with fail
    refine bodyPost_ret (v := .agg #[.int .i64 (doneC N), .bool (doneM (m != m') N), .slice a5 (doneN N) c5]) (by simp [results, Try.results47, go_sem, c0, c1, c2]) rfl ⟨.slice a5 (doneN N) c5, by rw [HS.out], ?_, ?_⟩
    · exact ((((ho5.set _ _ (by show w.heap.size + 1 + 1 < _; exact z5)).set _ _ (by show w.heap.size + 1 + 1 < _; exact z5)).set _ _ (by show w.heap.size + 1 + 1 < _; exact z5)).less (Nat.le_trans (by omega) (Nat.le_of_lt z5)))
    · exact ((h5.box.bel.setCell (by show _ ≤ w.heap.size + 1 + 1; omega) _).setCell (by show _ ≤ w.heap.size + 1 + 1; omega) _).setCell (by show _ ≤ w.heap.size + 1 + 1; omega) _

set_option maxHeartbeats 1000000 in
set_option maxRecDepth 100000 in
theorem iMul_f1 (m m' : Bool) (v v' : Value) (n n' : Nat) (f f' : Nat → Nat) (w : World) (hL : Lim w v n f) (hL' : Lim w v' n' f') (hf : faultB m n f = true) :
    Calls Try.prog 21 #[.agg #[.bool m, v], .agg #[.bool m', v']] w fun e w' => e = .returned (.agg #[.int .i64 1, .bool false, .slice none 0 0]) ∧ Below w.heap.size w w' := by
  obtain ⟨a, c, rfl, -⟩ := id hL
  obtain ⟨a', c', rfl, -⟩ := id hL'
  go_enter Try.func21, Try.ntmps21
  go_wp2_with fail
  refine (iFault_any m _ n f _ (hL.below (below_alloc3 _ _ _ _))).mono ?_
  rintro e w1 ⟨rfl, hb1⟩
  rw [hf]
  have h1 := (BxR.start w _ _ _ _ _ _).next hb1
  obtain ⟨⟨a0, a1, b0, b1, hz, bel⟩, ⟨c0, c1, c2, f0, f1, f2, lt⟩⟩ := id h1
  clear hb1 hf
  go_wp2_with fail
  refine bodyPost_ret (v := .agg #[.int .i64 1, .bool false, .slice none 0 0]) (by simp [results, Try.results21, go_sem, c0, c1, c2]) rfl ⟨rfl, ?_⟩
  exact ((bel.setCell (by show _ ≤ w.heap.size + 1 + 1; omega) _).setCell (by show _ ≤ w.heap.size + 1 + 1; omega) _).setCell (by show _ ≤ w.heap.size + 1 + 1; omega) _

set_option maxHeartbeats 1000000 in
set_option maxRecDepth 100000 in
theorem iMul_f2 (m m' : Bool) (v v' : Value) (n n' : Nat) (f f' : Nat → Nat) (w : World) (hL : Lim w v n f) (hL' : Lim w v' n' f') (hf : faultB m n f = false) (hf' : faultB m' n' f' = true) :
    Calls Try.prog 21 #[.agg #[.bool m, v], .agg #[.bool m', v']] w fun e w' => e = .returned (.agg #[.int .i64 1, .bool false, .slice none 0 0]) ∧ Below w.heap.size w w' := by
  obtain ⟨a, c, rfl, -⟩ := id hL
  obtain ⟨a', c', rfl, -⟩ := id hL'
  go_enter Try.func21, Try.ntmps21
  go_wp2_with fail
  refine (iFault_any m _ n f _ (hL.below (below_alloc3 _ _ _ _))).mono ?_
  rintro e w1 ⟨rfl, hb1⟩
  rw [hf]
  have h1 := (BxR.start w _ _ _ _ _ _).next hb1
  obtain ⟨⟨a0, a1, b0, b1, hz, bel⟩, -⟩ := id h1
  clear hb1 hf
  go_wp2_with fail
  refine (iFault_any m' _ n' f' _ (hL'.below bel)).mono ?_
  rintro e w2 ⟨rfl, hb2⟩
  rw [hf']
  have h2 := h1.next hb2
  clear hb2 hf' a0 a1 b0 b1 hz bel h1
  obtain ⟨⟨a0, a1, b0, b1, hz, bel⟩, ⟨c0, c1, c2, f0, f1, f2, lt⟩⟩ := id h2
  go_wp2_with fail
  refine bodyPost_ret (v := .agg #[.int .i64 1, .bool false, .slice none 0 0]) (by simp [results, Try.results21, go_sem, c0, c1, c2]) rfl ⟨rfl, ?_⟩
  exact ((bel.setCell (by show _ ≤ w.heap.size + 1 + 1; omega) _).setCell (by show _ ≤ w.heap.size + 1 + 1; omega) _).setCell (by show _ ≤ w.heap.size + 1 + 1; omega) _

theorem iMul_f (m m' : Bool) (v v' : Value) (n n' : Nat) (f f' : Nat → Nat) (w : World) (hL : Lim w v n f) (hL' : Lim w v' n' f') (hf : faultB m n f = true ∨ faultB m' n' f' = true) :
    Calls Try.prog 21 #[.agg #[.bool m, v], .agg #[.bool m', v']] w fun e w' => e = .returned (.agg #[.int .i64 1, .bool false, .slice none 0 0]) ∧ Below w.heap.size w w' := by
  by_cases h : faultB m n f = true
  · exact iMul_f1 m m' v v' n n' f f' w hL hL' h
  · rcases hf with hf | hf
    · exact absurd hf h
    · exact iMul_f2 m m' v v' n n' f f' w hL hL' (Bool.eq_false_iff.2 h) hf

set_option maxHeartbeats 2000000 in
set_option maxRecDepth 100000 in
theorem iMul_ok (m m' : Bool) (v v' : Value) (n n' : Nat) (f f' : Nat → Nat) (w : World) (hL : Lim w v n f) (hL' : Lim w v' n' f') (hf : faultB m n f = false) (hf' : faultB m' n' f' = false) (N : Nat) (S : Bool) (D : Nat → Nat) (HN : Hid (trimN (mulP (ext n f) (ext n' f') n' n) (n + n') = N)) (HS : Hid ((m != m') = S)) (HD : Hid (mulP (ext n f) (ext n' f') n' n = D)) :
    Calls Try.prog 21 #[.agg #[.bool m, v], .agg #[.bool m', v']] w fun e w' => ∃ v', e = .returned (.agg #[.int .i64 (doneC N), .bool (doneM S N), v']) ∧ Own w.heap.size w' v' (doneN N) D ∧ Below w.heap.size w w' := by
  obtain ⟨a, c, rfl, -⟩ := id hL
  obtain ⟨a', c', rfl, -⟩ := id hL'
  have hn := faultB_le hf
  have hn' := faultB_le hf'
  have HF := hide (extLt hL)
  have HG := hide (extLt hL')
  have hlt := hide (mulP_lt (extLt hL) (extLt hL') n' n)
  rw [HD.out] at hlt
  have hN80 : N ≤ 80 := by have := trimN_le (mulP (ext n f) (ext n' f') n' n) (n + n'); rw [HN.out] at this; omega
  go_enter Try.func21, Try.ntmps21
  go_wp2_with fail
  refine (iFault_any m _ n f _ (hL.below (below_alloc3 _ _ _ _))).mono ?_
  rintro e w1 ⟨rfl, hb1⟩
  rw [hf]
  have h1 := (BxR.start w _ _ _ _ _ _).next hb1
  obtain ⟨⟨a0, a1, b0, b1, hz, bel⟩, -⟩ := id h1
  clear hb1 hf
  go_wp2_with fail
  refine (iFault_any m' _ n' f' _ (hL'.below bel)).mono ?_
  rintro e w2 ⟨rfl, hb2⟩
  rw [hf']
  have h2 := h1.next hb2
  clear hb2 hf' a0 a1 b0 b1 hz bel h1
  obtain ⟨⟨a0, a1, b0, b1, hz, bel⟩, ⟨c0, c1, c2, f0, f1, f2, lt⟩⟩ := id h2
  go_wp2_with fail
  go_region_held3 (fun w' => w'.cell? ⟨w.heap.size, 0, none⟩ = some (.bool m) ∧ w'.cell? ⟨w.heap.size, 1, none⟩ = some (.slice a n c) ∧ w'.cell? ⟨w.heap.size + 1, 0, none⟩ = some (.bool m') ∧ w'.cell? ⟨w.heap.size + 1, 1, none⟩ = some (.slice a' n' c')) (first | exact ⟨a0, a1, b0, b1⟩ | exact h3.box.four | exact h4.box.four | exact h6.box.four | exact h5.box.four | exact (((h5.box.set _ _).set _ _).set _ _).four) (first
    | (go_at_call_of 54 (Value.slice a n c); refine (magOf_any _ n f _ ?_ ?_).mono ?_; exact hL.below bel.drew; omega; rintro e w3 ⟨cs3, rfl, hc3, hb3⟩; have h3 := h2.draw.next hb3)
    | (go_at_call_of 54 (Value.slice a' n' c'); refine (magOf_any _ n' f' _ ?_ ?_).mono ?_; exact hL'.below h3.box.bel; omega; rintro e w4 ⟨cs4, rfl, hc4, hb4⟩; have h4 := h3.next hb4)
    | (go_at_call 56; refine (prod_any cs3 cs4 n n' _ _ _ hc3 hc4 hn hn' HF.out HG.out).mono ?_; rintro e w6 ⟨cs6, rfl, hc6, hb6⟩; rw [HN.out, HD.out] at hc6; have h6 := h4.next hb6)
    | (go_at_call 55; refine (iResult_any (m != m') cs6 N D _ hc6 hN80 hlt.out).mono ?_; rintro e w5 ⟨v5, rfl, ho5, hb5⟩; obtain ⟨a5, c5, rfl, -⟩ := id ho5; have h5 := h6.next hb5; have z5 := h6.res.lt; obtain ⟨-, ⟨c0, c1, c2, f0, f1, f2, lt5⟩⟩ := id h5))
  all_goals
    go_wp2_with fail
    refine bodyPost_ret (v := .agg #[.int .i64 (doneC N), .bool (doneM (m != m') N), .slice a5 (doneN N) c5]) (by simp [results, Try.results21, go_sem, c0, c1, c2]) rfl ⟨.slice a5 (doneN N) c5, by rw [HS.out], ?_, ?_⟩
    · exact ((((ho5.set _ _ (by show w.heap.size + 1 + 1 < _; exact z5)).set _ _ (by show w.heap.size + 1 + 1 < _; exact z5)).set _ _ (by show w.heap.size + 1 + 1 < _; exact z5)).less (Nat.le_trans (by omega) (Nat.le_of_lt z5)))
    · exact ((h5.box.bel.setCell (by show _ ≤ w.heap.size + 1 + 1; omega) _).setCell (by show _ ≤ w.heap.size + 1 + 1; omega) _).setCell (by show _ ≤ w.heap.size + 1 + 1; omega) _

end Go.Proofs.Ytpcnmolncoaddaa
