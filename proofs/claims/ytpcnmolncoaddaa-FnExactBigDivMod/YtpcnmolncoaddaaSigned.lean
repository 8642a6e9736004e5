import Derived.Test.YtpcnmolncoaddaaSSub
import Derived.Test.YtpcnmolncoaddaaSCompare
namespace Go.Proofs.Ytpcnmolncoaddaa
open Go.RowKit Go.Joins

def addN (m : Bool) (n : Nat) (F : Nat → Nat) (m' : Bool) (n' : Nat) (G : Nat → Nat) : Nat := if m = m' then trimN (addD F G) (max n n' + 1) else if 0 ≤ cmpF F G (max n n') then trimN (subD F G) n else trimN (subD G F) n'
def addS (m : Bool) (n : Nat) (F : Nat → Nat) (m' : Bool) (n' : Nat) (G : Nat → Nat) : Bool := if m = m' then m else if 0 ≤ cmpF F G (max n n') then m else m'
def addF (m : Bool) (n : Nat) (F : Nat → Nat) (m' : Bool) (n' : Nat) (G : Nat → Nat) : Nat → Nat := if m = m' then addD F G else if 0 ≤ cmpF F G (max n n') then subD F G else subD G F

theorem hide {p : Prop} (h : p) : Hid p := h

theorem magBox (w : World) (cs cs' : Array Value) (n n' : Nat) (F G : Nat → Nat) (o : Obj) (hc : MagC cs n F) (hc' : MagC cs' n' G) :
    MagAt (((w.alloc (.cells cs 63)).alloc (.cells cs' 63)).alloc o) w.heap.size n F ∧ MagAt (((w.alloc (.cells cs 63)).alloc (.cells cs' 63)).alloc o) (w.heap.size + 1) n' G :=
  ⟨((show MagAt (w.alloc (.cells cs 63)) w.heap.size n F from ⟨cs, heap_alloc_new _ _, hc⟩).below (below_alloc2 _ _ _) (by simp)),
   (show MagAt ((w.alloc (.cells cs 63)).alloc (.cells cs' 63)) (w.heap.size + 1) n' G from ⟨cs', by rw [show w.heap.size + 1 = (w.alloc (.cells cs 63)).heap.size from by simp]; exact heap_alloc_new _ _, hc'⟩).below (below_alloc1 _ _) (by simp)⟩

set_option maxHeartbeats 1000000 in
set_option maxRecDepth 100000 in
theorem signed_eq (m : Bool) (cs cs' : Array Value) (n n' : Nat) (F G : Nat → Nat) (w : World) (hc : MagC cs n F) (hc' : MagC cs' n' G) (hn : n ≤ 40) (hn' : n' ≤ 40) (hF : ∀ i, F i < 4294967296) (hG : ∀ i, G i < 4294967296) (hF0 : ∀ i, n ≤ i → F i = 0) (hG0 : ∀ i, n' ≤ i → G i = 0) (N : Nat) (HN : Hid (trimN (addD F G) (max n n' + 1) = N)) :
    Calls Try.prog 53 #[.bool m, .agg cs, .bool m, .agg cs'] w fun e w' => ∃ v', e = .returned (.agg #[.int .i64 (doneC N), .bool (doneM m N), v']) ∧ Own w.heap.size w' v' (doneN N) (addD F G) ∧ Below w.heap.size w w' := by
  obtain ⟨ma, mb⟩ := magBox w cs cs' n n' F G (.cells #[.int .i64 0, .bool false, .slice none 0 0] 28) hc hc'
  have t0 := Res3.start ((w.alloc (.cells cs 63)).alloc (.cells cs' 63)) (.int .i64 0) (.bool false) (.slice none 0 0) 28
  simp only [World.size_alloc] at t0
  have HF := hide hF
  have HG := hide hG
  have HF0 := hide hF0
  have HG0 := hide hG0
  have hN80 : N ≤ 80 := by have := trimN_le (addD F G) (max n n' + 1); rw [HN.out] at this; omega
  clear hc hc' hF hG hF0 hG0
  go_enter Try.func53, Try.ntmps53
  go_wp2_with (first
    | ((with_reducible refine wpList_load63 (.tmp 5) w.heap.size n F ma ?_ ?_ ?_ ?_); rfl; rfl; rfl; intro cs1 hc1)
    | ((with_reducible refine wpList_load63 (.tmp 7) (w.heap.size + 1) n' G mb ?_ ?_ ?_ ?_); rfl; rfl; rfl; intro cs2 hc2))
  refine (sum_any cs1 cs2 n n' F G _ hc1 hc2 hn hn' HF.out HG.out HF0.out HG0.out).mono ?_
  rintro e w2 ⟨rs, rfl, hrs, hb2⟩
  rw [HN.out] at hrs
  have t2 := t0.next hb2
  have bel2 := (below_alloc3 w _ _ _).trans (hb2.mono (by simp; omega))
  clear hb2 ma mb hc1 hc2 t0
  go_wp2_with fail
  refine (iResult_any m rs N (addD F G) _ hrs hN80 (addD_lt F G)).mono ?_
  rintro e w3 ⟨v3, rfl, ho3, hb3⟩
  obtain ⟨a3, c3, rfl, -⟩ := id ho3
  have t3 := t2.next hb3
  have bel3 := bel2.trans (hb3.mono (by have := t2.lt; omega))
  obtain ⟨c0, c1, c2, f0, f1, f2, lt⟩ := id t3
  have hz2 := t2.lt
  clear hb3 t2 bel2
  go_wp2_with fail
  refine bodyPost_ret (v := .agg #[.int .i64 (doneC N), .bool (doneM m N), .slice a3 (doneN N) c3]) (by simp [results, Try.results53, go_sem, c0, c1, c2]) rfl ⟨_, rfl, ?_, ?_⟩
  · exact ((((ho3.set _ _ (by show w.heap.size + 1 + 1 < _; omega)).set _ _ (by show w.heap.size + 1 + 1 < _; omega)).set _ _ (by show w.heap.size + 1 + 1 < _; omega)).less (by omega)).eq rfl (fun _ _ => rfl)
  · exact ((bel3.setCell (by show _ ≤ w.heap.size + 1 + 1; omega) _).setCell (by show _ ≤ w.heap.size + 1 + 1; omega) _).setCell (by show _ ≤ w.heap.size + 1 + 1; omega) _

set_option maxHeartbeats 1000000 in
set_option maxRecDepth 100000 in
theorem signed_ge (m : Bool) (cs cs' : Array Value) (n n' : Nat) (F G : Nat → Nat) (w : World) (hc : MagC cs n F) (hc' : MagC cs' n' G) (hn : n ≤ 40) (hn' : n' ≤ 40) (hF : ∀ i, F i < 4294967296) (hG : ∀ i, G i < 4294967296) (hcmp : 0 ≤ cmpF F G (max n n')) (N : Nat) (HN : Hid (trimN (subD F G) n = N)) :
    Calls Try.prog 53 #[.bool m, .agg cs, .bool (!m), .agg cs'] w fun e w' => ∃ v', e = .returned (.agg #[.int .i64 (doneC N), .bool (doneM m N), v']) ∧ Own w.heap.size w' v' (doneN N) (subD F G) ∧ Below w.heap.size w w' := by
  obtain ⟨ma, mb⟩ := magBox w cs cs' n n' F G (.cells #[.int .i64 0, .bool false, .slice none 0 0] 28) hc hc'
  have t0 := Res3.start ((w.alloc (.cells cs 63)).alloc (.cells cs' 63)) (.int .i64 0) (.bool false) (.slice none 0 0) 28
  simp only [World.size_alloc] at t0
  have HF := hide hF
  have HG := hide hG
  have hN80 : N ≤ n := by have := trimN_le (subD F G) n; rw [HN.out] at this; omega
  have hr := cmpF_range F G (max n n')
  obtain ⟨C, hC⟩ : ∃ C, C = cmpF F G (max n n') := ⟨_, rfl⟩
  rw [← hC] at hcmp hr
  have HC := hide hC
  have dm : (m == !m) = false := by cases m <;> rfl
  clear hc hc' hF hG hC
  have d : decide (C < 0) = false := by simp; omega
  go_enter Try.func53, Try.ntmps53
  go_upto_region 3 with fail
  go_wp2_with (first
    | ((with_reducible refine wpList_load63 (.tmp 5) w.heap.size n F ma ?_ ?_ ?_ ?_); rfl; rfl; rfl; intro cs1 hc1)
    | ((with_reducible refine wpList_load63 (.tmp 7) (w.heap.size + 1) n' G mb ?_ ?_ ?_ ?_); rfl; rfl; rfl; intro cs2 hc2))
  refine (cmpSizes_any cs1 cs2 n n' F G _ hc1 hc2 (by omega) (by omega)).mono ?_
  rintro e w1 ⟨rfl, hb1⟩
  rw [← HC.out]
  have ma1 := ma.below hb1 (by simp; omega)
  have mb1 := mb.below hb1 (by simp)
  have t1 := t0.next hb1
  have bel1 := (below_alloc3 w _ _ _).trans (hb1.mono (by simp; omega))
  clear hb1 ma mb hc1 hc2 t0
  go_wp2_with (first
    | ((with_reducible refine wpList_load63 (.tmp 5) w.heap.size n F ma1 ?_ ?_ ?_ ?_); rfl; rfl; rfl; intro cs3 hc3)
    | ((with_reducible refine wpList_load63 (.tmp 7) (w.heap.size + 1) n' G mb1 ?_ ?_ ?_ ?_); rfl; rfl; rfl; intro cs4 hc4))
  refine (diff_any cs3 cs4 n n' F G _ hc3 hc4 (by omega) HF.out HG.out).mono ?_
  rintro e w2 ⟨rs, rfl, hrs, hb2⟩
  rw [HN.out] at hrs
  have t2 := t1.next hb2
  have bel2 := bel1.trans (hb2.mono (by have := t1.lt; omega))
  clear hb2 ma1 mb1 hc3 hc4 t1
  go_wp2_with fail
  refine (iResult_any m rs N _ _ hrs (by omega) (fun i => by unfold ext; split; exact subD_lt _ _ _; omega)).mono ?_
  rintro e w3 ⟨v3, rfl, ho3, hb3⟩
  obtain ⟨a3, c3, rfl, -⟩ := id ho3
  have t3 := t2.next hb3
  have bel3 := bel2.trans (hb3.mono (by have := t2.lt; omega))
  obtain ⟨c0, c1, c2, f0, f1, f2, lt⟩ := id t3
  have hz2 := t2.lt
  clear hb3 t2 bel2
  go_wp2_with fail
  refine bodyPost_ret (v := .agg #[.int .i64 (doneC N), .bool (doneM m N), .slice a3 (doneN N) c3]) (by simp [results, Try.results53, go_sem, c0, c1, c2]) rfl ⟨_, rfl, ?_, ?_⟩
  · exact ((((ho3.set _ _ (by show w.heap.size + 1 + 1 < _; omega)).set _ _ (by show w.heap.size + 1 + 1 < _; omega)).set _ _ (by show w.heap.size + 1 + 1 < _; omega)).less (by omega)).eq rfl (fun i hi => by unfold doneN at hi; split at hi; omega; simp [ext]; omega)
  · exact ((bel3.setCell (by show _ ≤ w.heap.size + 1 + 1; omega) _).setCell (by show _ ≤ w.heap.size + 1 + 1; omega) _).setCell (by show _ ≤ w.heap.size + 1 + 1; omega) _

set_option maxHeartbeats 1000000 in
set_option maxRecDepth 100000 in
theorem signed_lt (m : Bool) (cs cs' : Array Value) (n n' : Nat) (F G : Nat → Nat) (w : World) (hc : MagC cs n F) (hc' : MagC cs' n' G) (hn : n ≤ 40) (hn' : n' ≤ 40) (hF : ∀ i, F i < 4294967296) (hG : ∀ i, G i < 4294967296) (hcmp : cmpF F G (max n n') < 0) (N : Nat) (HN : Hid (trimN (subD G F) n' = N)) :
    Calls Try.prog 53 #[.bool m, .agg cs, .bool (!m), .agg cs'] w fun e w' => ∃ v', e = .returned (.agg #[.int .i64 (doneC N), .bool (doneM (!m) N), v']) ∧ Own w.heap.size w' v' (doneN N) (subD G F) ∧ Below w.heap.size w w' := by
  obtain ⟨ma, mb⟩ := magBox w cs cs' n n' F G (.cells #[.int .i64 0, .bool false, .slice none 0 0] 28) hc hc'
  have t0 := Res3.start ((w.alloc (.cells cs 63)).alloc (.cells cs' 63)) (.int .i64 0) (.bool false) (.slice none 0 0) 28
  simp only [World.size_alloc] at t0
  have HF := hide hF
  have HG := hide hG
  have hN80 : N ≤ n' := by have := trimN_le (subD G F) n'; rw [HN.out] at this; omega
  have hr := cmpF_range F G (max n n')
  obtain ⟨C, hC⟩ : ∃ C, C = cmpF F G (max n n') := ⟨_, rfl⟩
  rw [← hC] at hcmp hr
  have HC := hide hC
  have dm : (m == !m) = false := by cases m <;> rfl
  clear hc hc' hF hG hC
  have d : decide (C < 0) = true := by simp; omega
  go_enter Try.func53, Try.ntmps53
  go_upto_region 3 with fail
  go_wp2_with (first
    | ((with_reducible refine wpList_load63 (.tmp 5) w.heap.size n F ma ?_ ?_ ?_ ?_); rfl; rfl; rfl; intro cs1 hc1)
    | ((with_reducible refine wpList_load63 (.tmp 7) (w.heap.size + 1) n' G mb ?_ ?_ ?_ ?_); rfl; rfl; rfl; intro cs2 hc2))
  refine (cmpSizes_any cs1 cs2 n n' F G _ hc1 hc2 (by omega) (by omega)).mono ?_
  rintro e w1 ⟨rfl, hb1⟩
  rw [← HC.out]
  have ma1 := ma.below hb1 (by simp; omega)
  have mb1 := mb.below hb1 (by simp)
  have t1 := t0.next hb1
  have bel1 := (below_alloc3 w _ _ _).trans (hb1.mono (by simp; omega))
  clear hb1 ma mb hc1 hc2 t0
  go_wp2_with (first
    | ((with_reducible refine wpList_load63 (.tmp 5) w.heap.size n F ma1 ?_ ?_ ?_ ?_); rfl; rfl; rfl; intro cs3 hc3)
    | ((with_reducible refine wpList_load63 (.tmp 7) (w.heap.size + 1) n' G mb1 ?_ ?_ ?_ ?_); rfl; rfl; rfl; intro cs4 hc4))
  refine (diff_any cs4 cs3 n' n G F _ hc4 hc3 (by omega) HG.out HF.out).mono ?_
  rintro e w2 ⟨rs, rfl, hrs, hb2⟩
  rw [HN.out] at hrs
  have t2 := t1.next hb2
  have bel2 := bel1.trans (hb2.mono (by have := t1.lt; omega))
  clear hb2 ma1 mb1 hc3 hc4 t1
  go_wp2_with fail
  refine (iResult_any (!m) rs N _ _ hrs (by omega) (fun i => by unfold ext; split; exact subD_lt _ _ _; omega)).mono ?_
  rintro e w3 ⟨v3, rfl, ho3, hb3⟩
  obtain ⟨a3, c3, rfl, -⟩ := id ho3
  have t3 := t2.next hb3
  have bel3 := bel2.trans (hb3.mono (by have := t2.lt; omega))
  obtain ⟨c0, c1, c2, f0, f1, f2, lt⟩ := id t3
  have hz2 := t2.lt
  clear hb3 t2 bel2
  go_wp2_with fail
  refine bodyPost_ret (v := .agg #[.int .i64 (doneC N), .bool (doneM (!m) N), .slice a3 (doneN N) c3]) (by simp [results, Try.results53, go_sem, c0, c1, c2]) rfl ⟨_, rfl, ?_, ?_⟩
  · exact ((((ho3.set _ _ (by show w.heap.size + 1 + 1 < _; omega)).set _ _ (by show w.heap.size + 1 + 1 < _; omega)).set _ _ (by show w.heap.size + 1 + 1 < _; omega)).less (by omega)).eq rfl (fun i hi => by unfold doneN at hi; split at hi; omega; simp [ext]; omega)
  · exact ((bel3.setCell (by show _ ≤ w.heap.size + 1 + 1; omega) _).setCell (by show _ ≤ w.heap.size + 1 + 1; omega) _).setCell (by show _ ≤ w.heap.size + 1 + 1; omega) _

theorem addSigned_any (m m' : Bool) (cs cs' : Array Value) (n n' : Nat) (F G : Nat → Nat) (w : World) (hc : MagC cs n F) (hc' : MagC cs' n' G) (hn : n ≤ 40) (hn' : n' ≤ 40) (hF : ∀ i, F i < 4294967296) (hG : ∀ i, G i < 4294967296) (hF0 : ∀ i, n ≤ i → F i = 0) (hG0 : ∀ i, n' ≤ i → G i = 0) :
    Calls Try.prog 53 #[.bool m, .agg cs, .bool m', .agg cs'] w fun e w' => ∃ v', e = .returned (.agg #[.int .i64 (doneC (addN m n F m' n' G)), .bool (doneM (addS m n F m' n' G) (addN m n F m' n' G)), v']) ∧ Own w.heap.size w' v' (doneN (addN m n F m' n' G)) (addF m n F m' n' G) ∧ Below w.heap.size w w' := by
  by_cases hm : m = m'
  · subst hm
    have e1 : addN m n F m n' G = trimN (addD F G) (max n n' + 1) := if_pos rfl
    have e2 : addS m n F m n' G = m := if_pos rfl
    have e3 : addF m n F m n' G = addD F G := if_pos rfl
    rw [e2, e3]
    exact signed_eq m cs cs' n n' F G w hc hc' hn hn' hF hG hF0 hG0 _ e1.symm
  · obtain rfl : m' = !m := by cases m <;> cases m' <;> simp_all
    by_cases hcmp : 0 ≤ cmpF F G (max n n')
    · have e1 : addN m n F (!m) n' G = trimN (subD F G) n := by unfold addN; rw [if_neg hm, if_pos hcmp]
      have e2 : addS m n F (!m) n' G = m := by unfold addS; rw [if_neg hm, if_pos hcmp]
      have e3 : addF m n F (!m) n' G = subD F G := by unfold addF; rw [if_neg hm, if_pos hcmp]
      rw [e2, e3]
      exact signed_ge m cs cs' n n' F G w hc hc' hn hn' hF hG hcmp _ e1.symm
    · have e1 : addN m n F (!m) n' G = trimN (subD G F) n' := by unfold addN; rw [if_neg hm, if_neg hcmp]
      have e2 : addS m n F (!m) n' G = !m := by unfold addS; rw [if_neg hm, if_neg hcmp]
      have e3 : addF m n F (!m) n' G = subD G F := by unfold addF; rw [if_neg hm, if_neg hcmp]
      rw [e2, e3]
      exact signed_lt m cs cs' n n' F G w hc hc' hn hn' hF hG (by omega) _ e1.symm

end Go.Proofs.Ytpcnmolncoaddaa
