import Derived.Test.YtpcnmolncoaddaaSCmp
import Derived.Test.YtpcnmolncoaddaaFault
import Derived.Deep.DeepCutAuto
namespace Go.Proofs.Ytpcnmolncoaddaa
open Go.RowKit Go.Joins

structure Box2 (w w1 : World) (x0 x1 y0 y1 : Value) : Prop where
  a0 : w1.cell? ⟨w.heap.size, 0, none⟩ = some x0
  a1 : w1.cell? ⟨w.heap.size, 1, none⟩ = some x1
  b0 : w1.cell? ⟨w.heap.size + 1, 0, none⟩ = some y0
  b1 : w1.cell? ⟨w.heap.size + 1, 1, none⟩ = some y1
  z : w.heap.size + 1 < w1.heap.size
  bel : Below w.heap.size w w1

theorem Box2.start (w : World) (x0 x1 y0 y1 : Value) (t s : TypeId) : Box2 w ((w.alloc (.cells #[x0, x1] t)).alloc (.cells #[y0, y1] s)) x0 x1 y0 y1 :=
  ⟨by simp, by simp, by simp, by simp, by simp, below_alloc2 _ _ _⟩

theorem Box2.next {w w1 w2 : World} {x0 x1 y0 y1 : Value} (h : Box2 w w1 x0 x1 y0 y1) (hb : Below w1.heap.size w1 w2) : Box2 w w2 x0 x1 y0 y1 :=
  have hz := h.z
  ⟨(hb.cell (p := ⟨w.heap.size, 0, none⟩) (by simp; omega)).trans h.a0, (hb.cell (p := ⟨w.heap.size, 1, none⟩) (by simp; omega)).trans h.a1,
   (hb.cell (p := ⟨w.heap.size + 1, 0, none⟩) (by simp; omega)).trans h.b0, (hb.cell (p := ⟨w.heap.size + 1, 1, none⟩) (by simp; omega)).trans h.b1,
   by have := hb.size; omega, h.bel.trans (hb.mono (by omega))⟩

theorem Box2.draw {w w1 : World} {x0 x1 y0 y1 : Value} (h : Box2 w w1 x0 x1 y0 y1) : Box2 w w1.drew x0 x1 y0 y1 := ⟨h.a0, h.a1, h.b0, h.b1, h.z, h.bel.drew⟩

theorem Lim.drew {w v n f} (h : Lim w v n f) : Lim w.drew v n f := h

def cmpB (m : Bool) (n : Nat) (f : Nat → Nat) (m' : Bool) (n' : Nat) (f' : Nat → Nat) : Int :=
  if faultB m n f = true ∨ faultB m' n' f' = true then -2 else if m = m' then (if m = true then -(cmpF (ext n f) (ext n' f') (max n n')) else cmpF (ext n f) (ext n' f') (max n n')) else if m = true then -1 else 1

theorem cmpF_neg (f g : Nat → Nat) (k : Nat) : cmpF g f k = -cmpF f g k := by
  induction k with
  | zero => rfl
  | succ k ih =>
    unfold cmpF
    by_cases h1 : f k < g k
    · have h2 : ¬ g k < f k := by omega
      simp [h1, h2]
    · by_cases h2 : g k < f k
      · simp [h1, h2]
      · simp [h1, h2, ih]

theorem cmpF_range (f g : Nat → Nat) (k : Nat) : -1 ≤ cmpF f g k ∧ cmpF f g k ≤ 1 := by
  induction k with
  | zero => simp [cmpF]
  | succ k ih =>
    unfold cmpF
    split
    · omega
    · split <;> omega

theorem faultB_le {m n f} (h : faultB m n f = false) : n ≤ 40 := by
  unfold faultB at h
  by_cases hz : n = 0
  · omega
  · simp [hz] at h; omega

set_option maxHeartbeats 1000000 in
set_option maxRecDepth 100000 in
theorem sCompare_f1 (m m' : Bool) (v v' : Value) (n n' : Nat) (f f' : Nat → Nat) (w : World) (hL : Lim w v n f) (hL' : Lim w v' n' f') (hf : faultB m n f = true) :
    Calls Try.prog 44 #[.agg #[.bool m, v], .agg #[.bool m', v']] w fun e w' => e = .returned (.int .i64 (-2)) ∧ Below w.heap.size w w' := by
  obtain ⟨a, c, rfl, -⟩ := id hL
  obtain ⟨a', c', rfl, -⟩ := id hL'
  go_enter Try.func44, Try.ntmps44
  go_wp2_with fail
  refine (sFault_any m _ n f _ (hL.below (below_alloc2 _ _ _))).mono ?_
  rintro e w1 ⟨rfl, hb1⟩
  rw [hf]
  have h1 := (Box2.start w _ _ _ _ _ _).next hb1
  clear hb1 hf
  go_wp2_with fail
  go_ret
  exact ⟨rfl, h1.bel⟩

set_option maxHeartbeats 1000000 in
set_option maxRecDepth 100000 in
theorem sCompare_f2 (m m' : Bool) (v v' : Value) (n n' : Nat) (f f' : Nat → Nat) (w : World) (hL : Lim w v n f) (hL' : Lim w v' n' f') (hf : faultB m n f = false) (hf' : faultB m' n' f' = true) :
    Calls Try.prog 44 #[.agg #[.bool m, v], .agg #[.bool m', v']] w fun e w' => e = .returned (.int .i64 (-2)) ∧ Below w.heap.size w w' := by
  obtain ⟨a, c, rfl, -⟩ := id hL
  obtain ⟨a', c', rfl, -⟩ := id hL'
  go_enter Try.func44, Try.ntmps44
  go_wp2_with fail
  refine (sFault_any m _ n f _ (hL.below (below_alloc2 _ _ _))).mono ?_
  rintro e w1 ⟨rfl, hb1⟩
  rw [hf]
  have h1 := (Box2.start w _ _ _ _ _ _).next hb1
  obtain ⟨a0, a1, b0, b1, hz, bel⟩ := id h1
  clear hb1 hf
  go_wp2_with fail
  refine (sFault_any m' _ n' f' _ (hL'.below h1.bel)).mono ?_
  rintro e w2 ⟨rfl, hb2⟩
  rw [hf']
  have h2 := h1.next hb2
  clear hb2 hf'
  go_wp2_with fail
  go_ret
  exact ⟨rfl, h2.bel⟩

set_option maxHeartbeats 1000000 in
set_option maxRecDepth 100000 in
theorem sCompare_ne (m : Bool) (v v' : Value) (n n' : Nat) (f f' : Nat → Nat) (w : World) (hL : Lim w v n f) (hL' : Lim w v' n' f') (hf : faultB m n f = false) (hf' : faultB (!m) n' f' = false) :
    Calls Try.prog 44 #[.agg #[.bool m, v], .agg #[.bool (!m), v']] w fun e w' => e = .returned (.int .i64 (if m = true then -1 else 1)) ∧ Below w.heap.size w w' := by
  obtain ⟨a, c, rfl, -⟩ := id hL
  obtain ⟨a', c', rfl, -⟩ := id hL'
  cases m
  all_goals
    simp only [Bool.not_true, Bool.not_false] at hf' ⊢
    go_enter Try.func44, Try.ntmps44
    go_wp2_with fail
    refine (sFault_any _ _ n f _ (hL.below (below_alloc2 _ _ _))).mono ?_
    rintro e w1 ⟨rfl, hb1⟩
    rw [hf]
    have h1 := (Box2.start w _ _ _ _ _ _).next hb1
    obtain ⟨a0, a1, b0, b1, hz, bel⟩ := id h1
    clear hb1 hf
    go_wp2_with fail
    refine (sFault_any _ _ n' f' _ (hL'.below h1.bel)).mono ?_
    rintro e w2 ⟨rfl, hb2⟩
    rw [hf']
    have h2 := h1.next hb2
    clear hb2 hf' a0 a1 b0 b1 bel
    obtain ⟨a0, a1, b0, b1, -, bel⟩ := id h2
    go_wp2_with fail
    go_ret
    exact ⟨rfl, h2.bel⟩

set_option maxHeartbeats 1000000 in
set_option maxRecDepth 100000 in
theorem sCompare_eq_true (v v' : Value) (n n' : Nat) (f f' : Nat → Nat) (w : World) (hL : Lim w v n f) (hL' : Lim w v' n' f') (hf : faultB true n f = false) (hf' : faultB true n' f' = false) :
    Calls Try.prog 44 #[.agg #[.bool true, v], .agg #[.bool true, v']] w fun e w' => e = .returned (.int .i64 (-(cmpF (ext n f) (ext n' f') (max n n')))) ∧ Below w.heap.size w w' := by
  obtain ⟨a, c, rfl, -⟩ := id hL
  obtain ⟨a', c', rfl, -⟩ := id hL'
  have hn := faultB_le hf
  have hn' := faultB_le hf'
  go_enter Try.func44, Try.ntmps44
  go_wp2_with fail
  refine (sFault_any _ _ n f _ (hL.below (below_alloc2 _ _ _))).mono ?_
  rintro e w1 ⟨rfl, hb1⟩
  rw [hf]
  have h1 := (Box2.start w _ _ _ _ _ _).next hb1
  obtain ⟨a0, a1, b0, b1, hz, bel⟩ := id h1
  clear hb1 hf
  go_wp2_with fail
  refine (sFault_any _ _ n' f' _ (hL'.below h1.bel)).mono ?_
  rintro e w2 ⟨rfl, hb2⟩
  rw [hf']
  have h2 := h1.next hb2
  clear hb2 hf' a0 a1 b0 b1 bel hz h1
  obtain ⟨a0, a1, b0, b1, hz, bel⟩ := id h2
  go_wp2_with fail
  refine (sCmp_any _ _ n' n f' f _ (hL'.below h2.bel) (hL.below h2.bel) (by omega) (by omega)).mono ?_
  rintro e w3 ⟨rfl, rfl⟩
  go_wp2_with fail
  go_ret
  exact ⟨ret_int (by rw [cmpF_neg (ext n f) (ext n' f'), Nat.max_comm]), h2.bel⟩

set_option maxHeartbeats 1000000 in
set_option maxRecDepth 100000 in
theorem sCompare_eq_false (v v' : Value) (n n' : Nat) (f f' : Nat → Nat) (w : World) (hL : Lim w v n f) (hL' : Lim w v' n' f') (hf : faultB false n f = false) (hf' : faultB false n' f' = false) :
    Calls Try.prog 44 #[.agg #[.bool false, v], .agg #[.bool false, v']] w fun e w' => e = .returned (.int .i64 (cmpF (ext n f) (ext n' f') (max n n'))) ∧ Below w.heap.size w w' := by
  obtain ⟨a, c, rfl, -⟩ := id hL
  obtain ⟨a', c', rfl, -⟩ := id hL'
  have hn := faultB_le hf
  have hn' := faultB_le hf'
  go_enter Try.func44, Try.ntmps44
  go_wp2_with fail
  refine (sFault_any _ _ n f _ (hL.below (below_alloc2 _ _ _))).mono ?_
  rintro e w1 ⟨rfl, hb1⟩
  rw [hf]
  have h1 := (Box2.start w _ _ _ _ _ _).next hb1
  obtain ⟨a0, a1, b0, b1, hz, bel⟩ := id h1
  clear hb1 hf
  go_wp2_with fail
  refine (sFault_any _ _ n' f' _ (hL'.below h1.bel)).mono ?_
  rintro e w2 ⟨rfl, hb2⟩
  rw [hf']
  have h2 := h1.next hb2
  clear hb2 hf' a0 a1 b0 b1 bel hz h1
  obtain ⟨a0, a1, b0, b1, hz, bel⟩ := id h2
  go_wp2_with fail
  refine (sCmp_any _ _ n n' f f' _ (hL.below h2.bel) (hL'.below h2.bel) (by omega) (by omega)).mono ?_
  rintro e w3 ⟨rfl, rfl⟩
  go_wp2_with fail
  go_ret
  exact ⟨rfl, h2.bel⟩

theorem sCompare_any (m m' : Bool) (v v' : Value) (n n' : Nat) (f f' : Nat → Nat) (w : World) (hL : Lim w v n f) (hL' : Lim w v' n' f') :
    Calls Try.prog 44 #[.agg #[.bool m, v], .agg #[.bool m', v']] w fun e w' => e = .returned (.int .i64 (cmpB m n f m' n' f')) ∧ Below w.heap.size w w' := by
  by_cases hf : faultB m n f = true
  · have e : cmpB m n f m' n' f' = -2 := by simp [cmpB, hf]
    rw [e]; exact sCompare_f1 m m' v v' n n' f f' w hL hL' hf
  · have hf := Bool.eq_false_iff.2 hf
    by_cases hf' : faultB m' n' f' = true
    · have e : cmpB m n f m' n' f' = -2 := by simp [cmpB, hf']
      rw [e]; exact sCompare_f2 m m' v v' n n' f f' w hL hL' hf hf'
    · have hf' := Bool.eq_false_iff.2 hf'
      by_cases hm : m = m'
      · subst hm
        cases m
        · have e : cmpB false n f false n' f' = cmpF (ext n f) (ext n' f') (max n n') := by simp [cmpB, hf, hf']
          rw [e]; exact sCompare_eq_false v v' n n' f f' w hL hL' hf hf'
        · have e : cmpB true n f true n' f' = -(cmpF (ext n f) (ext n' f') (max n n')) := by simp [cmpB, hf, hf']
          rw [e]; exact sCompare_eq_true v v' n n' f f' w hL hL' hf hf'
      · have hm' : m' = !m := by cases m <;> cases m' <;> simp_all
        subst hm'
        have e : cmpB m n f (!m) n' f' = if m = true then -1 else 1 := by simp [cmpB, hf, hf']
        rw [e]; exact sCompare_ne m v v' n n' f f' w hL hL' hf hf'

end Go.Proofs.Ytpcnmolncoaddaa
