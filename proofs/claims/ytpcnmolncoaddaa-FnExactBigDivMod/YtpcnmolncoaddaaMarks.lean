import Derived.Test.YtpcnmolncoaddaaMag
namespace Go.Proofs.Ytpcnmolncoaddaa
open Go.RowKit Go.Joins

/-- Nothing below B has turned, and no block but the slice's own. -/
structure Chg (B : Nat) (v : Value) (n : Nat) (w w' : World) : Prop where
  bel : Below B w w'
  size : w'.heap.size = w.heap.size
  block : ∀ x, (0 < n → v.ownBlock ≠ some x) → w'.heap[x]? = w.heap[x]?

theorem chg_refl (B : Nat) (v : Value) (n : Nat) (w : World) : Chg B v n w w := ⟨Below.refl _ _, rfl, fun _ _ => rfl⟩

theorem Own.at {B w v n f} (h : Own B w v n f) (hn : 0 < n) : ∃ b, v.ownBlock = some b ∧ B ≤ b ∧ b < w.heap.size := by
  obtain ⟨a, c, rfl, h1, h2, h3, h4⟩ := h
  obtain ⟨b, off, rfl, h7, h5, h6⟩ := h4 hn
  exact ⟨b, rfl, h7, block_lt_of_cell (h5 0 hn)⟩

set_option maxHeartbeats 400000 in
theorem mark_some (b off n c k0 : Nat) (f : Nat → Nat) (w : World) (hk : k0 + n < 4294967296) (hp : 0 < n)
    (hc : ∀ i, i < n → w.cell? ⟨b, off + i, none⟩ = some (.int .u32 (f i))) (hf : ∀ i, i < n → w.frozen? ⟨b, off + i, none⟩ = false) :
    Calls Try.prog 78 #[.slice (some ⟨b, off, none⟩) n c, .int .i64 k0] w fun e w' => e = .returned (.int .i64 ((k0 + n : Nat) : Int)) ∧
      (∀ i, i < n → w'.cell? ⟨b, off + i, none⟩ = some (.int .u32 ((k0 + i : Nat) : Int))) ∧ (∀ i, i < n → w'.frozen? ⟨b, off + i, none⟩ = false) ∧ Only b w w' := by
  go_enter Try.func78, Try.ntmps78
  go_wp2
  go_loopw [1, 5] (fun k i wr => ∃ j : Nat, j ≤ n ∧ i = .int .i64 j ∧ k = .int .i64 ((k0 + j : Nat) : Int) ∧ (∀ i, i < n → wr.cell? ⟨b, off + i, none⟩ = some (.int .u32 ((if i < j then k0 + i else f i : Nat) : Int))) ∧ (∀ i, i < n → wr.frozen? ⟨b, off + i, none⟩ = false) ∧ Only b w wr) (fun _ i _ => n - (intOf i).toNat)
  case atStart => exact ⟨0, Nat.zero_le _, rfl, rfl, fun i hi => by simpa using hc i hi, hf, Only.refl _ _⟩
  case round =>
    obtain ⟨j, hj, rfl, rfl, hcc, hff, hoo⟩ := hrel
    by_cases hlt : j < n
    · have g1 := hcc j hlt
      have g2 := hff j hlt
      have R : Hid (∀ i, i < n → (wr.setCell ⟨b, off + j, none⟩ (.int .u32 ((k0 : Int) + (j : Int)))).cell? ⟨b, off + i, none⟩ = some (.int .u32 ((if i < j + 1 then k0 + i else f i : Nat) : Int))) := by
        intro i hi
        by_cases e : i = j
        · subst e
          rw [World.cell?_setCell_same _ _ _ g1]; simp
        · rw [World.cell?_setCell_other _ _ _ _ (fun h => e (by have h' : off + j = off + i := congrArg Addr.off h; omega)), hcc i hi]
          by_cases h2 : i < j
          · rw [if_pos h2, if_pos (by omega)]
          · rw [if_neg h2, if_neg (by omega)]
      have R2 : Hid (∀ i, i < n → (wr.setCell ⟨b, off + j, none⟩ (.int .u32 ((k0 : Int) + (j : Int)))).frozen? ⟨b, off + i, none⟩ = false) := by
        intro i hi
        rw [World.frozen?_setCell]; exact hff i hi
      clear hcc hff hc hf
      go_wp2
      go_roundw
      case rel => exact ⟨j + 1, by omega, by go_num, by go_num, R.out, R2.out, hoo.trans (Only.setCell wr ⟨b, off + j, none⟩ _)⟩
      case measure => simp [intOf]; omega
    · have : j = n := by omega
      subst this
      go_wp2
      go_ret
      exact ⟨rfl, fun i hi => by have := hcc i hi; rwa [if_pos hi] at this, hff, hoo⟩

set_option maxHeartbeats 400000 in
theorem mark_none (a : Option Addr) (n c k0 : Nat) (w : World) (hz : n ≤ 0) :
    Calls Try.prog 78 #[.slice a n c, .int .i64 k0] w fun e w' => e = .returned (.int .i64 k0) ∧ w = w' := by
  go_enter Try.func78, Try.ntmps78
  go_wp2
  go_loop [1, 5] (fun k i => i = .int .i64 0 ∧ k = .int .i64 k0) (fun _ _ => 0)
  case atStart => exact ⟨rfl, rfl⟩
  case round =>
    obtain ⟨rfl, rfl⟩ := hrel
    go_wp2
    go_ret
    exact ⟨rfl, rfl⟩

theorem markU_any {B : Nat} {v : Value} {n : Nat} {f : Nat → Nat} {w : World} (k0 : Nat) (ho : Own B w v n f) (hk : k0 + n < 4294967296) :
    Calls Try.prog 78 #[v, .int .i64 k0] w fun e w' => e = .returned (.int .i64 ((k0 + n : Nat) : Int)) ∧ Own B w' v n (fun i => k0 + i) ∧ Chg B v n w w' := by
  obtain ⟨a, c, rfl, h1, h2, h3, h4⟩ := id ho
  rcases Nat.eq_zero_or_pos n with h0 | hp
  · refine (mark_none a n c k0 w (by omega)).mono ?_
    rintro e w' ⟨rfl, rfl⟩
    subst h0
    exact ⟨rfl, ⟨a, c, rfl, h1, h2, fun i hi => by omega, fun h => by omega⟩, chg_refl _ _ _ _⟩
  · obtain ⟨b, off, rfl, h7, h5, h6⟩ := h4 hp
    refine (mark_some b off n c k0 f w hk hp h5 h6).mono ?_
    rintro e w' ⟨rfl, g1, g2, g3⟩
    refine ⟨rfl, ⟨_, c, rfl, h1, h2, fun i hi => by show k0 + i < _; omega, fun _ => ⟨b, off, rfl, h7, g1, g2⟩⟩, g3.below h7, g3.size, fun x hx => g3.block x (fun e => hx hp (by rw [e]; rfl))⟩

set_option maxHeartbeats 400000 in
theorem held_some (b off n c k0 : Nat) (w : World) (hk : k0 + n < 4294967296) (hp : 0 < n)
    (hc : ∀ i, i < n → w.cell? ⟨b, off + i, none⟩ = some (.int .u32 ((k0 + i : Nat) : Int))) :
    Calls Try.prog 79 #[.slice (some ⟨b, off, none⟩) n c, .int .i64 k0] w fun e w' => e = .returned (.int .i64 ((k0 + n : Nat) : Int)) ∧ w = w' := by
  go_enter Try.func79, Try.ntmps79
  go_wp2
  go_loop [1, 5] (fun k i => ∃ j : Nat, j ≤ n ∧ i = .int .i64 j ∧ k = .int .i64 ((k0 + j : Nat) : Int)) (fun _ i => n - (intOf i).toNat)
  case atStart => exact ⟨0, Nat.zero_le _, rfl, rfl⟩
  case round =>
    obtain ⟨j, hj, rfl, rfl⟩ := hrel
    by_cases hlt : j < n
    · have g1 : w.cell? ⟨b, off + j, none⟩ = some (.int .u32 ((k0 : Int) + (j : Int))) := by simpa using hc j hlt
      clear hc
      go_wp2
      go_round
      case rel => exact ⟨j + 1, by omega, by go_num, by go_num⟩
      case measure => simp [intOf]; omega
    · have : j = n := by omega
      subst this
      go_wp2
      go_ret
      exact ⟨rfl, rfl⟩

set_option maxHeartbeats 400000 in
theorem held_none (a : Option Addr) (n c k0 : Nat) (w : World) (hz : n ≤ 0) :
    Calls Try.prog 79 #[.slice a n c, .int .i64 k0] w fun e w' => e = .returned (.int .i64 k0) ∧ w = w' := by
  go_enter Try.func79, Try.ntmps79
  go_wp2
  go_loop [1, 5] (fun k i => i = .int .i64 0 ∧ k = .int .i64 k0) (fun _ _ => 0)
  case atStart => exact ⟨rfl, rfl⟩
  case round =>
    obtain ⟨rfl, rfl⟩ := hrel
    go_wp2
    go_ret
    exact ⟨rfl, rfl⟩

theorem heldU_any {v : Value} {n : Nat} {w : World} (k0 : Nat) (ho : Lim w v n (fun i => k0 + i)) (hk : k0 + n < 4294967296) :
    Calls Try.prog 79 #[v, .int .i64 k0] w fun e w' => e = .returned (.int .i64 ((k0 + n : Nat) : Int)) ∧ w = w' := by
  obtain ⟨a, c, rfl, h1, h2, h3, h4⟩ := ho
  rcases Nat.eq_zero_or_pos n with h0 | hp
  · refine (held_none a n c k0 w (by omega)).mono ?_
    rintro e w' ⟨rfl, rfl⟩
    subst h0
    exact ⟨rfl, rfl⟩
  · obtain ⟨b, off, rfl, h5⟩ := h4 hp
    exact held_some b off n c k0 w hk hp h5


set_option maxHeartbeats 400000 in
theorem markBig_any (m : Bool) {B : Nat} {v : Value} {n : Nat} {f : Nat → Nat} {w : World} (k0 : Nat) (ho : Own B w v n f) (hk : k0 + n < 4294967296) (hB : B ≤ w.heap.size) :
    Calls Try.prog 36 #[.agg #[.bool m, v], .int .i64 k0] w fun e w' => e = .returned (.int .i64 ((k0 + n : Nat) : Int)) ∧ Own B w' v n (fun i => k0 + i) ∧ Below B w w' ∧ ∀ x, x < w.heap.size → (0 < n → v.ownBlock ≠ some x) → w'.heap[x]? = w.heap[x]? := by
  obtain ⟨a, c, rfl, -⟩ := id ho
  go_enter Try.func36, Try.ntmps36
  go_wp2_with fail
  refine (markU_any k0 (ho.below (below_alloc1 _ _)) hk).mono ?_
  rintro e w1 ⟨rfl, ho1, hc1⟩
  go_wp2_with fail
  go_ret
  refine ⟨rfl, ho1, ((below_alloc1 w _).mono hB).trans hc1.bel, fun x hx hne => ?_⟩
  rw [hc1.block x hne]
  exact Below.heap_alloc _ _ _ hx

set_option maxHeartbeats 400000 in
theorem heldBig_any (m : Bool) {v : Value} {n : Nat} {w : World} (k0 : Nat) (ho : Lim w v n (fun i => k0 + i)) (hk : k0 + n < 4294967296) :
    Calls Try.prog 37 #[.agg #[.bool m, v], .int .i64 k0] w fun e w' => e = .returned (.int .i64 ((k0 + n : Nat) : Int)) ∧ Below w.heap.size w w' := by
  obtain ⟨a, c, rfl, -⟩ := id ho
  go_enter Try.func37, Try.ntmps37
  go_wp2_with fail
  refine (heldU_any k0 (ho.below (below_alloc1 _ _)) hk).mono ?_
  rintro e w1 ⟨rfl, rfl⟩
  go_wp2_with fail
  go_ret
  exact ⟨rfl, below_alloc1 _ _⟩

end Go.Proofs.Ytpcnmolncoaddaa
