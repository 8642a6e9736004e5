import Derived.Test.YtpcnmolncoaddaaSAdd
namespace Go.Proofs.Ytpcnmolncoaddaa
open Go.RowKit Go.Joins

set_option maxHeartbeats 2000000 in
set_option maxRecDepth 100000 in
theorem sSub_any (v1 v2 : Value) (n m : Nat) (f g : Nat → Nat) (w : World) (hL : Lim w v1 n f) (hL' : Lim w v2 m g) (hn : n ≤ 1048576) (hm : m ≤ 1048576) :
    Calls Try.prog 85 #[v1, v2] w fun e w' => ∃ v', e = .returned v' ∧ Row w.heap.size w' v' (trimN (subD (ext n f) (ext m g)) n) (subD (ext n f) (ext m g)) ∧ Below w.heap.size w w' := by
  have hF := fun i => extLt hL i
  have hG := fun i => extLt hL' i
  obtain ⟨a, c, rfl, -⟩ := id hL
  obtain ⟨a', c', rfl, -⟩ := id hL'
  go_enter Try.func85, Try.ntmps85
  go_wp2_with fail
  go_loopw [5, 6, 7] (fun s5 s6 s7 wr => ∃ k : Nat, k ≤ n ∧ s7 = .int .i64 k ∧ s6 = .int .u64 (subB (ext n f) (ext m g) k) ∧ Row w.heap.size wr s5 k (subD (ext n f) (ext m g)) ∧ Below w.heap.size w wr) (fun _ _ s7 _ => n - (intOf s7).toNat)
  case atStart => exact ⟨0, Nat.zero_le _, rfl, rfl, Row.empty w _, below_alloc1 _ _⟩
  case round =>
    obtain ⟨k, hk, rfl, rfl, hrow, bel'⟩ := hrel
    have hC := subB_le (ext n f) (ext m g) k
    have bF := hF k
    have bG := hG k
    have hz := bel'.size
    have ec : Hid (subB (ext n f) (ext m g) (k + 1) = if ext n f k < ext m g k + subB (ext n f) (ext m g) k then 1 else 0) := rfl
    have ed : Hid (subD (ext n f) (ext m g) k = (ext n f k + 4294967296 - ext m g k - subB (ext n f) (ext m g) k) % 4294967296) := rfl
    clear hF hG
    by_cases hkn : k < n
    · go_wp2_with fail
      refine (limb_any _ n f k _ (hL.below bel') hn).mono ?_
      rintro e w' ⟨rfl, rfl⟩
      go_wp2_with fail
      refine (limb_any _ m g k _ (hL'.below bel') hm).mono ?_
      rintro e w' ⟨rfl, rfl⟩
      go_wp2_with (at_builtin; (with_reducible refine wpList_appendU (.tmp 26) (.tmp 29) w.heap.size _ _ k 1 (subD (ext n f) (ext m g)) (fun _ => subD (ext n f) (ext m g) k) (Row.alloc hrow _) (lim_one wr (subD (ext n f) (ext m g) k) _ _ rfl (subD_lt _ _ _) ?_) (nilOk_some _ _ _) ?_ ?_ ?_ ?_ ?_ ?_ ?_); (rw [ed.out]; omega); omega; (simp; omega); rfl; rfl; rfl; rfl; intro v' w' hr hb)
      have bel2 : Below w.heap.size w w' := (bel'.alloc hz _).trans hb
      have hr2 := hr.eq (f' := subD (ext n f) (ext m g)) rfl (fun i hi => by split; rfl; congr; omega)
      clear hr hb bel' hrow
      go_wp2_with fail
      go_roundw
      case rel => exact ⟨k + 1, by omega, by go_num, by rw [ec.out]; congr 1; split <;> omega, hr2, bel2⟩
      case measure => simp [intOf]; omega
    · obtain rfl : n = k := by omega
      have ho := hrow.own (fun i _ => subD_lt _ _ _)
      go_wp2_with fail
      refine (trim_any ho.lim ho.nil (by omega)).mono ?_
      rintro e w2 ⟨v2, rfl, hr2, hb2⟩
      go_wp2_with fail
      go_ret
      exact ⟨v2, rfl, hr2.less hz, bel'.trans (hb2.mono hz)⟩

structure Res3 (wx : World) (b : Nat) (x0 x1 x2 : Value) : Prop where
  c0 : wx.cell? ⟨b, 0, none⟩ = some x0
  c1 : wx.cell? ⟨b, 1, none⟩ = some x1
  c2 : wx.cell? ⟨b, 2, none⟩ = some x2
  f0 : wx.frozen? ⟨b, 0, none⟩ = false
  f1 : wx.frozen? ⟨b, 1, none⟩ = false
  f2 : wx.frozen? ⟨b, 2, none⟩ = false
  lt : b < wx.heap.size
theorem Res3.start (w : World) (x0 x1 x2 : Value) (t : TypeId) : Res3 (w.alloc (.cells #[x0, x1, x2] t)) w.heap.size x0 x1 x2 := ⟨by simp, by simp, by simp, by simp, by simp, by simp, by simp⟩
theorem Res3.next {w1 w2 : World} {b : Nat} {x0 x1 x2 : Value} (h : Res3 w1 b x0 x1 x2) (hb : Below w1.heap.size w1 w2) : Res3 w2 b x0 x1 x2 :=
  have hz := h.lt
  ⟨(hb.cell (p := ⟨b, 0, none⟩) hz).trans h.c0, (hb.cell (p := ⟨b, 1, none⟩) hz).trans h.c1, (hb.cell (p := ⟨b, 2, none⟩) hz).trans h.c2, (hb.frozen (p := ⟨b, 0, none⟩) hz).trans h.f0, (hb.frozen (p := ⟨b, 1, none⟩) hz).trans h.f1, (hb.frozen (p := ⟨b, 2, none⟩) hz).trans h.f2, by have := hb.size; omega⟩

theorem Own.eq {B w v n n' f f'} (h : Own B w v n f) (hn : n = n') (hf : ∀ i, i < n' → f i = f' i) : Own B w v n' f' := by
  subst hn
  obtain ⟨a, c, rfl, h1, h2, h3, h4⟩ := h
  refine ⟨a, c, rfl, h1, h2, fun i hi => by rw [← hf i hi]; exact h3 i hi, fun hn => ?_⟩
  obtain ⟨b, off, rfl, h7, h5, h6⟩ := h4 hn
  exact ⟨b, off, rfl, h7, fun i hi => by rw [← hf i hi]; exact h5 i hi, h6⟩

theorem Own.setNe {B w v n f} (h : Own B w v n f) (p : Addr) (u : Value) (hp : 0 < n → v.ownBlock ≠ some p.block) : Own B (w.setCell p u) v n f := by
  obtain ⟨a, c, rfl, h1, h2, h3, h4⟩ := h
  refine ⟨a, c, rfl, h1, h2, h3, fun hn => ?_⟩
  obtain ⟨b, off, rfl, h7, h5, h6⟩ := h4 hn
  have hne : b ≠ p.block := fun e => hp hn (by rw [← e]; rfl)
  refine ⟨b, off, rfl, h7, fun i hi => ?_, fun i hi => ?_⟩
  · rw [← h5 i hi]; simp only [World.cell?]; rw [Below.heap_setCell _ _ _ _ hne]
  · rw [← h6 i hi]; simp only [World.frozen?]; rw [Below.heap_setCell _ _ _ _ hne]

theorem own_nil (B : Nat) (w : World) (f : Nat → Nat) : Own B w (.slice none 0 0) 0 f := ⟨none, 0, rfl, Nat.le_refl _, ⟨by unfold maxLen; omega, fun _ => rfl⟩, fun i hi => by omega, fun h => by omega⟩

/-- What l1Done and resultOf answer. -/
def doneC (n : Nat) : Int := if 40 < n then 2 else 0
def doneM (m : Bool) (n : Nat) : Bool := if 40 < n then false else (m && decide (0 < n))
def doneN (n : Nat) : Nat := if 40 < n then 0 else n

set_option maxHeartbeats 1000000 in
set_option maxRecDepth 100000 in
theorem sDone_any (m : Bool) (v : Value) (B : Nat) (n : Nat) (f : Nat → Nat) (w : World) (ho : Own B w v n f) :
    Calls Try.prog 84 #[.bool m, v] w fun e w' => ∃ v', e = .returned (.agg #[.int .i64 (doneC n), .bool (doneM m n), v']) ∧ Own B w' v' (doneN n) f ∧ Below w.heap.size w w' := by
  obtain ⟨a, c, rfl, k1, ⟨k2, -⟩, -⟩ := id ho
  unfold maxLen at k2
  by_cases hn : 40 < n
  · have e1 : doneC n = 2 := if_pos hn
    have e2 : doneM m n = false := if_pos hn
    have e3 : doneN n = 0 := if_pos hn
    rw [e1, e2, e3]
    clear e1 e2 e3
    go_enter Try.func84, Try.ntmps84
    go_wp2
    refine bodyPost_ret (v := .agg #[.int .i64 2, .bool false, .slice none 0 0]) (by simp [results, Try.results84, go_sem]) rfl ⟨_, rfl, own_nil _ _ _, ?_⟩
    exact below_alloc1 _ _
  · have e1 : doneC n = 0 := if_neg hn
    have e2 : doneM m n = (m && decide (0 < n)) := if_neg hn
    have e3 : doneN n = n := if_neg hn
    rw [e1, e2, e3]
    clear e1 e2 e3
    go_enter Try.func84, Try.ntmps84
    go_wp2_with fail
    refine (make_any m a n c _).mono ?_
    rintro e w1 ⟨rfl, hb1⟩
    have t1 := (Res3.start w _ _ _ _).next hb1
    have o1 := (ho.below (below_alloc1 _ _)).below hb1
    have bel1 := (below_alloc1 w _).trans (hb1.mono (by simp))
    obtain ⟨c0, c1, c2, f0, f1, f2, lt⟩ := id t1
    clear hb1
    go_wp2_with fail
    have hne : 0 < n → (Value.slice a n c).ownBlock ≠ some w.heap.size := fun hp h => by
      obtain ⟨b, e1, _, e3⟩ := ho.at hp
      rw [e1] at h; have := Option.some.inj h; omega
    refine bodyPost_ret (v := .agg #[.int .i64 0, .bool (m && decide (0 < n)), .slice a n c]) (by simp [results, Try.results84, go_sem, c0, c1, c2]) rfl ⟨_, rfl, ?_, ?_⟩
    · exact ((o1.setNe _ _ hne).setNe _ _ hne).setNe _ _ hne
    · exact ((bel1.setCell (by simp) _).setCell (by simp) _).setCell (by simp) _

theorem own_of_ext {B w v n f} {k : Nat} (h : Own B w v n (ext k f)) (hk : n ≤ k) : Own B w v n f := h.eq rfl (fun i hi => by simp [ext]; omega)

set_option maxHeartbeats 1000000 in
set_option maxRecDepth 100000 in
theorem iResult_any (m : Bool) (cs : Array Value) (n : Nat) (f : Nat → Nat) (w : World) (hc : MagC cs n f) (hn8 : n ≤ 80) (hf : ∀ i, f i < 4294967296) :
    Calls Try.prog 55 #[.bool m, .agg cs] w fun e w' => ∃ v', e = .returned (.agg #[.int .i64 (doneC n), .bool (doneM m n), v']) ∧ Own w.heap.size w' v' (doneN n) f ∧ Below w.heap.size w w' := by
  have c80 : cs[80]? = some (.int .i64 n) := hc.count
  by_cases hn : 40 < n
  · have e1 : doneC n = 2 := if_pos hn
    have e2 : doneM m n = false := if_pos hn
    have e3 : doneN n = 0 := if_pos hn
    rw [e1, e2, e3]
    clear e1 e2 e3 hc
    go_enter Try.func55, Try.ntmps55
    go_wp2
    refine bodyPost_ret (v := .agg #[.int .i64 2, .bool false, .slice none 0 0]) (by simp [results, Try.results55, go_sem]) rfl ⟨_, rfl, own_nil _ _ _, ?_⟩
    exact below_alloc2 _ _ _
  · have e1 : doneC n = 0 := if_neg hn
    have e2 : doneM m n = (m && decide (0 < n)) := if_neg hn
    have e3 : doneN n = n := if_neg hn
    rw [e1, e2, e3]
    clear e1 e2 e3
    have hm : MagAt ((w.alloc (.cells cs 63)).alloc (.cells #[.int .i64 0, .bool false, .slice none 0 0] 28)) w.heap.size n f := (show MagAt (w.alloc (.cells cs 63)) w.heap.size n f from ⟨cs, heap_alloc_new _ _, hc⟩).below (below_alloc1 _ _) (by simp)
    go_enter Try.func55, Try.ntmps55
    go_wp2_with ((with_reducible refine wpList_load63 (.tmp 3) w.heap.size n f hm ?_ ?_ ?_ ?_); rfl; rfl; rfl; intro cs1 hc1)
    refine (signed_any m cs1 n f _ hc1 hn8 hf).mono ?_
    rintro e w1 ⟨v1, rfl, ho1, hb1⟩
    obtain ⟨a1, c1', rfl, -⟩ := id ho1
    have t1 := (Res3.start (w.alloc (.cells cs 63)) (.int .i64 0) (.bool false) (.slice none 0 0) 28).next hb1
    simp only [World.size_alloc] at t1 ho1
    have bel1 := (below_alloc2 w _ _).trans (hb1.mono (by simp; omega))
    obtain ⟨c0, c1, c2, f0, f1, f2, lt⟩ := id t1
    clear hb1 hm hc hc1 c80
    go_wp2_with fail
    refine bodyPost_ret (v := .agg #[.int .i64 0, .bool (m && decide (0 < n)), .slice a1 n c1']) (by simp [results, Try.results55, go_sem, c0, c1, c2]) rfl ⟨_, rfl, ?_, ?_⟩
    · exact (((ho1.set _ _ (by simp)).set _ _ (by simp)).set _ _ (by simp)).less (by omega)
    · exact ((bel1.setCell (by simp) _).setCell (by simp) _).setCell (by simp) _

end Go.Proofs.Ytpcnmolncoaddaa
