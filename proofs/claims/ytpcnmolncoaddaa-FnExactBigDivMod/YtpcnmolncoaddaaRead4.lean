import Derived.Test.YtpcnmolncoaddaaRead3
import Derived.Test.YtpcnmolncoaddaaMulEnd
namespace Go.Proofs.Ytpcnmolncoaddaa
open Go.RowKit Go.Joins

theorem Norm.unique {f g : Nat → Nat} {n m N : Nat} (h : Norm f n N) (h' : Norm g m N) : n = m ∧ f = g := by
  obtain ⟨e, q⟩ := norm_unique h.lt h'.lt h.top h'.top (h.val.trans h'.val.symm)
  refine ⟨e, ?_⟩
  funext i
  by_cases hi : i < n
  · exact q i hi
  · rw [h.zero i (by omega), h'.zero i (by omega)]
theorem Norm.ex (g : Nat → Nat) (k : Nat) (hg : ∀ i, i < k → g i ≤ 57) : ∃ f n, Norm f n (dv g k) := by
  induction k with
  | zero => exact ⟨_, _, Norm.nil⟩
  | succ k ih =>
    obtain ⟨f, n, h⟩ := ih (fun i hi => hg i (by omega))
    exact ⟨_, _, h.scale (d := 10) (m := g k - 48) (by omega) (by have := hg k (by omega); omega)⟩
theorem Norm.large {f : Nat → Nat} {n N : Nat} (h : Norm f n N) (hN : 4294967296 ^ 40 ≤ N) : 40 < n := by
  apply Decidable.byContradiction
  intro hn
  have h1 := val_lt h.lt n
  rw [h.val] at h1
  have h2 : 4294967296 ^ n ≤ 4294967296 ^ 40 := Nat.pow_le_pow_right (by decide) (by omega)
  omega
theorem Norm.le {f : Nat → Nat} {n N : Nat} (h : Norm f n N) (hn : 40 < n) : 4294967296 ^ 40 ≤ N := by
  apply Decidable.byContradiction
  intro hx
  have := h.count (k := 40) (by omega)
  omega

set_option maxHeartbeats 4000000 in
set_option maxRecDepth 100000 in
theorem iRead_bad (s D : ByteArray) (mn : Bool) (w : World) (hD : D.size ≤ 1048576)
    (hcut : Hid (∀ w, Calls Try.prog 67 #[.string s, .string ⟨#[45]⟩] w fun e w' => e = .returned (.tuple #[.string D, .bool mn]) ∧ w' = w)) (hF : ¬ Form D) :
    Calls Try.prog 27 #[.string s] w fun e w' => e = .returned (.agg #[.int .i64 1, .bool false, .slice none 0 0]) ∧ Below w.heap.size w w' := by
  have HF : Hid (¬ Form D) := hF
  clear hF
  go_enter Try.func27, Try.ntmps27
  go_wp2_with fail
  refine (hcut.out _).mono ?_
  rintro e w1 ⟨rfl, rfl⟩
  clear hcut
  have r1 := Res3.start w (.int .i64 0) (.bool false) (.slice none 0 0) 28
  have bel := below_alloc1 w (.cells #[.int .i64 0, .bool false, .slice none 0 0] 28)
  obtain ⟨c0, c1, c2, f0, f1, f2, lt⟩ := id r1
  go_wp2_with fail
  refine (form_any D _ hD false (by simp [HF.out])).mono ?_
  rintro e w2 ⟨rfl, rfl⟩
  go_wp2_with fail
  refine bodyPost_ret (v := .agg #[.int .i64 1, .bool false, .slice none 0 0]) (by simp [results, Try.results27, go_sem]) rfl ⟨rfl, ?_⟩
  exact below_alloc1 _ _

set_option maxHeartbeats 4000000 in
set_option maxRecDepth 100000 in
theorem iRead_zero (s D : ByteArray) (mn : Bool) (w : World) (hD : D.size ≤ 1048576)
    (hcut : Hid (∀ w, Calls Try.prog 67 #[.string s, .string ⟨#[45]⟩] w fun e w' => e = .returned (.tuple #[.string D, .bool mn]) ∧ w' = w)) (hF : Form D) (hm : mn = true) (h0 : (D.toList == [48]) = true) :
    Calls Try.prog 27 #[.string s] w fun e w' => e = .returned (.agg #[.int .i64 1, .bool false, .slice none 0 0]) ∧ Below w.heap.size w w' := by
  have HF : Hid (Form D) := hF
  clear hF
  subst hm
  go_enter Try.func27, Try.ntmps27
  go_wp2_with fail
  refine (hcut.out _).mono ?_
  rintro e w1 ⟨rfl, rfl⟩
  clear hcut
  have r1 := Res3.start w (.int .i64 0) (.bool false) (.slice none 0 0) 28
  have bel := below_alloc1 w (.cells #[.int .i64 0, .bool false, .slice none 0 0] 28)
  obtain ⟨c0, c1, c2, f0, f1, f2, lt⟩ := id r1
  go_wp2_with fail
  refine (form_any D _ hD true (by simp [HF.out])).mono ?_
  rintro e w2 ⟨rfl, rfl⟩
  go_wp2_with fail
  refine bodyPost_ret (v := .agg #[.int .i64 1, .bool false, .slice none 0 0]) (by simp [results, Try.results27, go_sem]) rfl ⟨rfl, ?_⟩
  exact below_alloc1 _ _

set_option maxHeartbeats 4000000 in
set_option maxRecDepth 100000 in
theorem iRead_big0 (s D : ByteArray) (mn : Bool) (w : World) (hD : D.size ≤ 1048576)
    (hcut : Hid (∀ w, Calls Try.prog 67 #[.string s, .string ⟨#[45]⟩] w fun e w' => e = .returned (.tuple #[.string D, .bool mn]) ∧ w' = w)) (hF : Form D) (hm : mn = false) (h4 : 400 < D.size) :
    Calls Try.prog 27 #[.string s] w fun e w' => e = .returned (.agg #[.int .i64 2, .bool false, .slice none 0 0]) ∧ Below w.heap.size w w' := by
  have HF : Hid (Form D) := hF
  clear hF
  subst hm
  go_enter Try.func27, Try.ntmps27
  go_wp2_with fail
  refine (hcut.out _).mono ?_
  rintro e w1 ⟨rfl, rfl⟩
  clear hcut
  have r1 := Res3.start w (.int .i64 0) (.bool false) (.slice none 0 0) 28
  have bel := below_alloc1 w (.cells #[.int .i64 0, .bool false, .slice none 0 0] 28)
  obtain ⟨c0, c1, c2, f0, f1, f2, lt⟩ := id r1
  go_wp2_with fail
  refine (form_any D _ hD true (by simp [HF.out])).mono ?_
  rintro e w2 ⟨rfl, rfl⟩
  go_wp2_with fail
  refine bodyPost_ret (v := .agg #[.int .i64 2, .bool false, .slice none 0 0]) (by simp [results, Try.results27, go_sem]) rfl ⟨rfl, ?_⟩
  exact below_alloc1 _ _

set_option maxHeartbeats 4000000 in
set_option maxRecDepth 100000 in
theorem iRead_big1 (s D : ByteArray) (mn : Bool) (w : World) (hD : D.size ≤ 1048576)
    (hcut : Hid (∀ w, Calls Try.prog 67 #[.string s, .string ⟨#[45]⟩] w fun e w' => e = .returned (.tuple #[.string D, .bool mn]) ∧ w' = w)) (hF : Form D) (hm : mn = true) (h0 : (D.toList == [48]) = false) (h4 : 400 < D.size) :
    Calls Try.prog 27 #[.string s] w fun e w' => e = .returned (.agg #[.int .i64 2, .bool false, .slice none 0 0]) ∧ Below w.heap.size w w' := by
  have HF : Hid (Form D) := hF
  clear hF
  subst hm
  go_enter Try.func27, Try.ntmps27
  go_wp2_with fail
  refine (hcut.out _).mono ?_
  rintro e w1 ⟨rfl, rfl⟩
  clear hcut
  have r1 := Res3.start w (.int .i64 0) (.bool false) (.slice none 0 0) 28
  have bel := below_alloc1 w (.cells #[.int .i64 0, .bool false, .slice none 0 0] 28)
  obtain ⟨c0, c1, c2, f0, f1, f2, lt⟩ := id r1
  go_wp2_with fail
  refine (form_any D _ hD true (by simp [HF.out])).mono ?_
  rintro e w2 ⟨rfl, rfl⟩
  go_wp2_with fail
  refine bodyPost_ret (v := .agg #[.int .i64 2, .bool false, .slice none 0 0]) (by simp [results, Try.results27, go_sem]) rfl ⟨rfl, ?_⟩
  exact below_alloc1 _ _

set_option maxHeartbeats 4000000 in
set_option maxRecDepth 100000 in
theorem iRead_ok0 (s D : ByteArray) (mn : Bool) (w : World) (hD : D.size ≤ 1048576)
    (hcut : Hid (∀ w, Calls Try.prog 67 #[.string s, .string ⟨#[45]⟩] w fun e w' => e = .returned (.tuple #[.string D, .bool mn]) ∧ w' = w)) (F : Nat → Nat) (n : Nat) (hN : Norm F n (dv (bt D) D.size)) (hF : Form D) (hm : mn = false) (h4 : D.size ≤ 400) :
    Calls Try.prog 27 #[.string s] w fun e w' => ∃ v', e = .returned (.agg #[.int .i64 (doneC n), .bool (doneM mn n), v']) ∧ Own w.heap.size w' v' (doneN n) F ∧ Below w.heap.size w w' := by
  have HF : Hid (Form D) := hF
  clear hF
  subst hm
  have HN : Hid (Norm F n (dv (bt D) D.size)) := hN
  clear hN
  go_enter Try.func27, Try.ntmps27
  go_wp2_with fail
  refine (hcut.out _).mono ?_
  rintro e w1 ⟨rfl, rfl⟩
  clear hcut
  have r1 := Res3.start w (.int .i64 0) (.bool false) (.slice none 0 0) 28
  have bel := below_alloc1 w (.cells #[.int .i64 0, .bool false, .slice none 0 0] 28)
  obtain ⟨c0, c1, c2, f0, f1, f2, lt⟩ := id r1
  go_wp2_with fail
  refine (form_any D _ hD true (by simp [HF.out])).mono ?_
  rintro e w2 ⟨rfl, rfl⟩
  go_wp2_with fail
  refine (magDig_any D _ h4 HF.out.1).mono ?_
  rintro e w3 ⟨cs, n', f', rfl, hc, hN', hb3⟩
  obtain ⟨rfl, rfl⟩ := HN.out.unique hN'
  have r3 := r1.next hb3
  have bel3 := bel.trans (hb3.mono (by simp))
  have hn8 : n ≤ 80 := by
    have := hN'.count (k := 42) (Nat.lt_of_lt_of_le (Nat.lt_of_lt_of_le (dv_lt (fun i hi => (HF.out.1 i hi).2)) (Nat.pow_le_pow_right (by omega) h4)) big42)
    omega
  have hlt := hN'.lt
  clear hb3 r1 bel c0 c1 c2 f0 f1 f2 lt hN'
  go_wp2_with fail
  refine (iResult_any _ cs n F _ hc hn8 hlt).mono ?_
  rintro e w4 ⟨v4, rfl, ho4, hb4⟩
  obtain ⟨a4, c4, rfl, -⟩ := id ho4
  have r4 := r3.next hb4
  have z4 := r3.lt
  have bel4 := bel3.trans (hb4.mono (by omega))
  clear hb4 bel3 r3 hlt
  obtain ⟨c0, c1, c2, f0, f1, f2, lt⟩ := id r4
  go_wp2_with fail
  refine bodyPost_ret (v := .agg #[.int .i64 (doneC n), .bool (doneM false n), .slice a4 (doneN n) c4]) (by simp [results, Try.results27, go_sem, c0, c1, c2]) rfl ⟨_, rfl, ?_, ?_⟩
  · exact ((((ho4.set _ _ (by show w.heap.size < _; omega)).set _ _ (by show w.heap.size < _; omega)).set _ _ (by show w.heap.size < _; omega)).less (by omega))
  · exact ((bel4.setCell (by show _ ≤ w.heap.size; omega) _).setCell (by show _ ≤ w.heap.size; omega) _).setCell (by show _ ≤ w.heap.size; omega) _

set_option maxHeartbeats 4000000 in
set_option maxRecDepth 100000 in
theorem iRead_ok1 (s D : ByteArray) (mn : Bool) (w : World) (hD : D.size ≤ 1048576)
    (hcut : Hid (∀ w, Calls Try.prog 67 #[.string s, .string ⟨#[45]⟩] w fun e w' => e = .returned (.tuple #[.string D, .bool mn]) ∧ w' = w)) (F : Nat → Nat) (n : Nat) (hN : Norm F n (dv (bt D) D.size)) (hF : Form D) (hm : mn = true) (h0 : (D.toList == [48]) = false) (h4 : D.size ≤ 400) :
    Calls Try.prog 27 #[.string s] w fun e w' => ∃ v', e = .returned (.agg #[.int .i64 (doneC n), .bool (doneM mn n), v']) ∧ Own w.heap.size w' v' (doneN n) F ∧ Below w.heap.size w w' := by
  have HF : Hid (Form D) := hF
  clear hF
  subst hm
  have HN : Hid (Norm F n (dv (bt D) D.size)) := hN
  clear hN
  go_enter Try.func27, Try.ntmps27
  go_wp2_with fail
  refine (hcut.out _).mono ?_
  rintro e w1 ⟨rfl, rfl⟩
  clear hcut
  have r1 := Res3.start w (.int .i64 0) (.bool false) (.slice none 0 0) 28
  have bel := below_alloc1 w (.cells #[.int .i64 0, .bool false, .slice none 0 0] 28)
  obtain ⟨c0, c1, c2, f0, f1, f2, lt⟩ := id r1
  go_wp2_with fail
  refine (form_any D _ hD true (by simp [HF.out])).mono ?_
  rintro e w2 ⟨rfl, rfl⟩
  go_wp2_with fail
  refine (magDig_any D _ h4 HF.out.1).mono ?_
  rintro e w3 ⟨cs, n', f', rfl, hc, hN', hb3⟩
  obtain ⟨rfl, rfl⟩ := HN.out.unique hN'
  have r3 := r1.next hb3
  have bel3 := bel.trans (hb3.mono (by simp))
  have hn8 : n ≤ 80 := by
    have := hN'.count (k := 42) (Nat.lt_of_lt_of_le (Nat.lt_of_lt_of_le (dv_lt (fun i hi => (HF.out.1 i hi).2)) (Nat.pow_le_pow_right (by omega) h4)) big42)
    omega
  have hlt := hN'.lt
  clear hb3 r1 bel c0 c1 c2 f0 f1 f2 lt hN'
  go_wp2_with fail
  refine (iResult_any _ cs n F _ hc hn8 hlt).mono ?_
  rintro e w4 ⟨v4, rfl, ho4, hb4⟩
  obtain ⟨a4, c4, rfl, -⟩ := id ho4
  have r4 := r3.next hb4
  have z4 := r3.lt
  have bel4 := bel3.trans (hb4.mono (by omega))
  clear hb4 bel3 r3 hlt
  obtain ⟨c0, c1, c2, f0, f1, f2, lt⟩ := id r4
  go_wp2_with fail
  refine bodyPost_ret (v := .agg #[.int .i64 (doneC n), .bool (doneM true n), .slice a4 (doneN n) c4]) (by simp [results, Try.results27, go_sem, c0, c1, c2]) rfl ⟨_, rfl, ?_, ?_⟩
  · exact ((((ho4.set _ _ (by show w.heap.size < _; omega)).set _ _ (by show w.heap.size < _; omega)).set _ _ (by show w.heap.size < _; omega)).less (by omega))
  · exact ((bel4.setCell (by show _ ≤ w.heap.size; omega) _).setCell (by show _ ≤ w.heap.size; omega) _).setCell (by show _ ≤ w.heap.size; omega) _

end Go.Proofs.Ytpcnmolncoaddaa
