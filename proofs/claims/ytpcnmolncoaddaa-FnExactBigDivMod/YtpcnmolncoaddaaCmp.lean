import Derived.Test.YtpcnmolncoaddaaMagF
namespace Go.Proofs.Ytpcnmolncoaddaa
open Go.RowKit Go.Joins

theorem bdraws {B : Nat} {a w : World} (h : Below B a w) (n : Nat) : Below B a (w.drewN n) := ⟨h.os, h.tape, h.output, h.size, h.block⟩

def cmpF (f g : Nat → Nat) : Nat → Int
  | 0 => 0
  | k + 1 => if f k < g k then -1 else if g k < f k then 1 else cmpF f g k

set_option maxHeartbeats 1000000 in
set_option maxRecDepth 100000 in
theorem cmpSizes_lt (cs cs' : Array Value) (n m : Nat) (f g : Nat → Nat) (w : World) (hc : MagC cs n f) (hc' : MagC cs' m g) (hm : m ≤ 80) (hnm : n < m) :
    Calls Try.prog 57 #[.agg cs, .agg cs'] w fun e w' => e = .returned (.int .i64 (cmpF f g m)) ∧ Below w.heap.size w w' := by
  have c80 : cs[80]? = some (.int .i64 n) := hc.count
  have c80' : cs'[80]? = some (.int .i64 m) := hc'.count
  go_enter Try.func57, Try.ntmps57
  go_wp2
  go_loopw [5] (fun i wr => ∃ k q : Nat, k ≤ m ∧ i = .int .i64 ((k : Int) - 1) ∧ cmpF f g k = cmpF f g m ∧ wr = ((w.alloc (.cells cs 63)).alloc (.cells cs' 63)).drewN q) (fun i _ => (intOf i + 1).toNat)
  case atStart => exact ⟨m, 0, Nat.le_refl _, rfl, rfl, rfl⟩
  case round =>
    obtain ⟨k, q, hk, rfl, he, rfl⟩ := hrel
    have He : Hid (cmpF f g k = cmpF f g m) := he
    clear he
    rcases Nat.eq_zero_or_pos k with hz | hp
    · subst hz
      go_wp2
      go_ret
      exact ⟨ret_int (by rw [← He.out]; rfl), (below_alloc2 _ _ _).trans (below_draws _ _ _)⟩
    · obtain ⟨j, rfl⟩ : ∃ j, k = j + 1 := ⟨k - 1, by omega⟩
      have hj : j < 80 := by omega
      have g1 := hc.limb j hj
      have g2 := hc'.limb j hj
      have ei : (((j + 1 : Nat) : Int) - 1) = (j : Int) := by omega
      rw [ei]
      clear hc hc' ei
      by_cases h1 : f j < g j
      · have H : Hid (cmpF f g m = -1) := by rw [← He.out]; simp [cmpF, h1, Hid]
        clear He
        go_wp2
        go_quiet (fail)
        go_wp2
        go_ret
        exact ⟨ret_int (by rw [H.out]), bdraws (bdraws (below_alloc2 _ _ _) _) _⟩
      · by_cases h2 : g j < f j
        · have H : Hid (cmpF f g m = 1) := by rw [← He.out]; simp [cmpF, h1, h2, Hid]
          clear He
          go_wp2
          go_quiet (fail)
          go_wp2
          go_quiet (fail)
          go_wp2
          go_ret
          exact ⟨ret_int (by rw [H.out]), bdraws (bdraws (bdraws (below_alloc2 _ _ _) _) _) _⟩
        · have H : Hid (cmpF f g j = cmpF f g m) := by rw [← He.out]; simp [cmpF, h1, h2, Hid]
          clear He
          go_wp2
          go_quiet (fail)
          go_wp2
          go_quiet (fail)
          go_wp2
          go_roundw
          case rel => exact ⟨j, _, by omega, rfl, H.out, rfl⟩
          case measure => simp [intOf]

set_option maxHeartbeats 1000000 in
set_option maxRecDepth 100000 in
theorem cmpSizes_ge (cs cs' : Array Value) (n m : Nat) (f g : Nat → Nat) (w : World) (hc : MagC cs n f) (hc' : MagC cs' m g) (hn : n ≤ 80) (hnm : m ≤ n) :
    Calls Try.prog 57 #[.agg cs, .agg cs'] w fun e w' => e = .returned (.int .i64 (cmpF f g n)) ∧ Below w.heap.size w w' := by
  have c80 : cs[80]? = some (.int .i64 n) := hc.count
  have c80' : cs'[80]? = some (.int .i64 m) := hc'.count
  go_enter Try.func57, Try.ntmps57
  go_wp2
  go_loopw [5] (fun i wr => ∃ k q : Nat, k ≤ n ∧ i = .int .i64 ((k : Int) - 1) ∧ cmpF f g k = cmpF f g n ∧ wr = ((w.alloc (.cells cs 63)).alloc (.cells cs' 63)).drewN q) (fun i _ => (intOf i + 1).toNat)
  case atStart => exact ⟨n, 0, Nat.le_refl _, rfl, rfl, rfl⟩
  case round =>
    obtain ⟨k, q, hk, rfl, he, rfl⟩ := hrel
    have He : Hid (cmpF f g k = cmpF f g n) := he
    clear he
    rcases Nat.eq_zero_or_pos k with hz | hp
    · subst hz
      go_wp2
      go_ret
      exact ⟨ret_int (by rw [← He.out]; rfl), (below_alloc2 _ _ _).trans (below_draws _ _ _)⟩
    · obtain ⟨j, rfl⟩ : ∃ j, k = j + 1 := ⟨k - 1, by omega⟩
      have hj : j < 80 := by omega
      have g1 := hc.limb j hj
      have g2 := hc'.limb j hj
      have ei : (((j + 1 : Nat) : Int) - 1) = (j : Int) := by omega
      rw [ei]
      clear hc hc' ei
      by_cases h1 : f j < g j
      · have H : Hid (cmpF f g n = -1) := by rw [← He.out]; simp [cmpF, h1, Hid]
        clear He
        go_wp2
        go_quiet (fail)
        go_wp2
        go_ret
        exact ⟨ret_int (by rw [H.out]), bdraws (bdraws (below_alloc2 _ _ _) _) _⟩
      · by_cases h2 : g j < f j
        · have H : Hid (cmpF f g n = 1) := by rw [← He.out]; simp [cmpF, h1, h2, Hid]
          clear He
          go_wp2
          go_quiet (fail)
          go_wp2
          go_quiet (fail)
          go_wp2
          go_ret
          exact ⟨ret_int (by rw [H.out]), bdraws (bdraws (bdraws (below_alloc2 _ _ _) _) _) _⟩
        · have H : Hid (cmpF f g j = cmpF f g n) := by rw [← He.out]; simp [cmpF, h1, h2, Hid]
          clear He
          go_wp2
          go_quiet (fail)
          go_wp2
          go_quiet (fail)
          go_wp2
          go_roundw
          case rel => exact ⟨j, _, by omega, rfl, H.out, rfl⟩
          case measure => simp [intOf]

theorem cmpSizes_any (cs cs' : Array Value) (n m : Nat) (f g : Nat → Nat) (w : World) (hc : MagC cs n f) (hc' : MagC cs' m g) (hn : n ≤ 80) (hm : m ≤ 80) :
    Calls Try.prog 57 #[.agg cs, .agg cs'] w fun e w' => e = .returned (.int .i64 (cmpF f g (max n m))) ∧ Below w.heap.size w w' := by
  rcases Nat.lt_or_ge n m with hnm | hnm
  · rw [Nat.max_eq_right (by omega)]; exact cmpSizes_lt cs cs' n m f g w hc hc' hm hnm
  · rw [Nat.max_eq_left hnm]; exact cmpSizes_ge cs cs' n m f g w hc hc' hn hnm

end Go.Proofs.Ytpcnmolncoaddaa
