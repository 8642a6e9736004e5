import Derived.Test.YtplhjcohkjomgaaDoorAO
namespace Go.Proofs.YtplhjcohkjomgaaDoor
open Go.RowKit Go.Joins

set_option maxHeartbeats 1000000 in
set_option maxRecDepth 100000 in
theorem mark0 (ao : Option Addr) (n cp : Nat) (w : World) (hn : n = 0) : Calls Tryd.prog 27 #[.slice ao n cp, .int .i64 1] w fun e w' => e = .returned (.int .i64 1) ∧ w = w' := by
  subst hn
  go_enter Tryd.func27, Tryd.ntmps27
  go_wp2_with fail
  go_loop [1, 5] (fun k i => i = .int .i64 0 ∧ k = .int .i64 1) (fun _ _ => 0)
  case atStart => exact ⟨rfl, rfl⟩
  case round =>
    obtain ⟨rfl, rfl⟩ := hrel
    go_wp2_with fail
    go_ret
    exact ⟨rfl, rfl⟩

set_option maxHeartbeats 1000000 in
set_option maxRecDepth 100000 in
theorem held0 (ao : Option Addr) (n cp : Nat) (w : World) (hn : n = 0) : Calls Tryd.prog 28 #[.slice ao n cp, .int .i64 1] w fun e w' => e = .returned (.int .i64 1) ∧ w = w' := by
  subst hn
  go_enter Tryd.func28, Tryd.ntmps28
  go_wp2_with fail
  go_loop [1, 5] (fun k i => i = .int .i64 0 ∧ k = .int .i64 1) (fun _ _ => 0)
  case atStart => exact ⟨rfl, rfl⟩
  case round =>
    obtain ⟨rfl, rfl⟩ := hrel
    go_wp2_with fail
    go_ret
    exact ⟨rfl, rfl⟩

set_option maxHeartbeats 1000000 in
set_option maxRecDepth 100000 in
theorem heldToks (g n cp : Nat) (w : World) (hn : n ≤ 1048576) (hg : g < w.heap.size) (hR : Row w g n mk) :
    Calls Tryd.prog 28 #[.slice (some ⟨g, 0, none⟩) n cp, .int .i64 1] w fun e w' => e = .returned (.int .i64 ((1 + n * 4 : Nat) : Int)) ∧ Below w.heap.size w w' := by
  have HR := hide hR
  clear hR
  go_enter Tryd.func28, Tryd.ntmps28
  go_wp2_with fail
  go_loopw [1, 5] (fun k i wr => ∃ (j K : Nat), j ≤ n ∧ Hid (K = 1 + j * 4) ∧ i = .int .i64 j ∧ k = .int .i64 K ∧ Below w.heap.size w wr) (fun _ i _ => n - (intOf i).toNat)
  case atStart => exact ⟨0, 1, Nat.zero_le _, rfl, rfl, rfl, Below.refl _ _⟩
  case round =>
    obtain ⟨j, K, hj, hK, rfl, rfl, hb⟩ := hrel
    have hKb : K ≤ 4194305 := by have := hK.out; omega
    by_cases hlt : j < n
    · have hlt' : (j : Int) < n := by omega
      have hrow : ∀ w1 : World, Below w.heap.size w w1 → w1.cell? ⟨g, j * 4, none⟩ = some (.int .i64 K) ∧ w1.cell? ⟨g, j * 4 + 1, none⟩ = some (.string (mt (K + 1))) ∧ w1.cell? ⟨g, j * 4 + 2, none⟩ = some (.int .i64 ((K : Int) + 1 + 1)) ∧ w1.cell? ⟨g, j * 4 + 3, none⟩ = some (.int .i64 ((K : Int) + 1 + 1 + 1)) := fun w1 b1 => by
        have h := HR.out.keep (b1.block g hg) j hlt
        unfold mk at h
        rw [← hK.out] at h
        exact h
      have HROW := hide hrow
      obtain ⟨x0, x1, x2, x3⟩ := HROW.out wr hb
      have HM : Hid (∀ w1, Calls Tryd.prog 54 #[.int .i64 ((K : Int) + 1)] w1 fun e w' => e = .returned (.string (mt (K + 1))) ∧ Below w1.heap.size w1 w') := fun w1 => markText (K + 1) w1 (by omega) (by omega)
      have hd0 : wr.drew.cell? ⟨g, j * 4 + 1, none⟩ = some (.string (mt (K + 1))) := x1
      have hgr : g < wr.heap.size := Nat.lt_of_lt_of_le hg hb.size
      clear hrow
      go_wp2_with fail
      go_region_held3 (fun w' => w'.cell? ⟨g, j * 4 + 1, none⟩ = some (.string (mt (K + 1)))) (first | exact hd0 | exact k6) (first
        | (go_at_call 54; refine (HM.out _).mono ?_; rintro e w6 ⟨rfl, b6⟩; have k6 : w6.cell? ⟨g, j * 4 + 1, none⟩ = some (.string (mt (K + 1))) := (b6.cell (p := ⟨g, j * 4 + 1, none⟩) hgr).trans x1))
      all_goals
        have hb6 := hb.drew.trans (b6.mono hb.size)
        obtain ⟨y0, y1, y2, y3⟩ := HROW.out _ hb6
        clear x0 x1 x2 x3
        go_wp2_with fail
        go_roundw
        case rel =>
          have hK := hK.out
          exact ⟨j + 1, K + 4, by omega, by unfold Hid; omega, by go_num, by go_num, hb6⟩
        case measure => simp [intOf]; omega
    · have hlt' : ¬ (j : Int) < n := by omega
      obtain rfl : j = n := by omega
      go_wp2_with fail
      go_ret
      exact ⟨congrArg (fun z => Ending.returned (.int .i64 z)) (show (K : Int) = 1 + (j : Int) * 4 by have := hK.out; omega), hb⟩

/-- A slice of n tokens of its own, from block B on. -/
def Mine (B : Nat) (w : World) (ao : Option Addr) (n : Nat) (f : Nat → Tq) : Prop := 0 < n → ∃ g, ao = some ⟨g, 0, none⟩ ∧ Row w g n f ∧ g < w.heap.size ∧ B ≤ g ∧ ∀ o, w.frozen? ⟨g, o, none⟩ = false

set_option maxHeartbeats 1000000 in
set_option maxRecDepth 100000 in
theorem markRes (q1 q2 q3 : Int) (B : Nat) (ao : Option Addr) (n cp : Nat) (f : Nat → Tq) (w : World) (hn : n ≤ 1048576) (hB : B ≤ w.heap.size) (h : Mine B w ao n f) :
    Calls Tryd.prog 10 #[.agg #[.int .i64 q1, .int .i64 q2, .int .i64 q3, .slice ao n cp], .int .i64 1] w fun e w' => e = .returned (.int .i64 ((1 + n * 4 : Nat) : Int)) ∧ Toks w' ao n mk ∧ Below B w w' ∧ ∀ x, x < w.heap.size → (∀ g, ao = some ⟨g, 0, none⟩ → g ≠ x) → w'.heap[x]? = w.heap[x]? := by
  have b0 := below_alloc1 w (.cells #[.int .i64 q1, .int .i64 q2, .int .i64 q3, .slice ao n cp] 24)
  have h1 : Calls Tryd.prog 27 #[.slice ao n cp, .int .i64 1] (w.alloc (.cells #[.int .i64 q1, .int .i64 q2, .int .i64 q3, .slice ao n cp] 24)) fun e w' => e = .returned (.int .i64 ((1 + n * 4 : Nat) : Int)) ∧ Toks w' ao n mk ∧ Below B w w' ∧ ∀ x, x < w.heap.size → (∀ g, ao = some ⟨g, 0, none⟩ → g ≠ x) → w'.heap[x]? = w.heap[x]? := by
    rcases Nat.eq_zero_or_pos n with h0 | hp
    · refine (mark0 ao n cp _ h0).mono ?_
      rintro e w' ⟨rfl, rfl⟩
      subst h0
      exact ⟨rfl, fun h => by omega, b0.mono hB, fun x hx _ => b0.block x hx⟩
    · obtain ⟨g, rfl, hR, hg, hBg, hF⟩ := h hp
      refine (markToks g n cp f _ hn (Nat.lt_of_lt_of_le hg b0.size) (hR.keep (b0.block g hg)) (fun o => (b0.frozen (p := ⟨g, o, none⟩) hg).trans (hF o))).mono ?_
      rintro e w' ⟨rfl, hR', hG⟩
      refine ⟨rfl, fun _ => ⟨g, rfl, hR', Nat.lt_of_lt_of_le (Nat.lt_of_lt_of_le hg b0.size) hG.size⟩, ?_, ?_⟩
      · exact (b0.mono hB).grown hG (Nat.le_trans hB b0.size) (fun k hk => by cases hk; exact hBg)
      · exact fun x hx hne => (hG.block x (Nat.lt_of_lt_of_le hx b0.size) (fun e => hne g rfl (by cases e; rfl))).trans (b0.block x hx)
  have H1 := hide h1
  clear h1 h
  go_enter Tryd.func10, Tryd.ntmps10
  go_wp2_with fail
  refine H1.out.mono ?_
  rintro e w2 ⟨rfl, h2, b2, k2⟩
  have K2 := hide k2
  clear k2
  go_wp2_with fail
  go_ret
  exact ⟨rfl, h2, b2, K2.out⟩

set_option maxHeartbeats 1000000 in
set_option maxRecDepth 100000 in
theorem heldRes (q1 q2 q3 : Int) (ao : Option Addr) (n cp : Nat) (w : World) (hn : n ≤ 1048576) (h : Toks w ao n mk) :
    Calls Tryd.prog 11 #[.agg #[.int .i64 q1, .int .i64 q2, .int .i64 q3, .slice ao n cp], .int .i64 1] w fun e w' => e = .returned (.int .i64 ((1 + n * 4 : Nat) : Int)) ∧ Below w.heap.size w w' := by
  have b0 := below_alloc1 w (.cells #[.int .i64 q1, .int .i64 q2, .int .i64 q3, .slice ao n cp] 24)
  have h1 : Calls Tryd.prog 28 #[.slice ao n cp, .int .i64 1] (w.alloc (.cells #[.int .i64 q1, .int .i64 q2, .int .i64 q3, .slice ao n cp] 24)) fun e w' => e = .returned (.int .i64 ((1 + n * 4 : Nat) : Int)) ∧ Below w.heap.size w w' := by
    rcases Nat.eq_zero_or_pos n with h0 | hp
    · refine (held0 ao n cp _ h0).mono ?_
      rintro e w' ⟨rfl, rfl⟩
      subst h0
      exact ⟨rfl, b0⟩
    · obtain ⟨g, rfl, hR, hg⟩ := h hp
      refine (heldToks g n cp _ hn (Nat.lt_of_lt_of_le hg b0.size) (hR.keep (b0.block g hg))).mono ?_
      rintro e w' ⟨rfl, hb⟩
      exact ⟨rfl, b0.trans (hb.mono b0.size)⟩
  have H1 := hide h1
  clear h1 h
  obtain ⟨Z, hZ⟩ : ∃ Z : Int, Z = ((1 + n * 4 : Nat) : Int) := ⟨_, rfl⟩
  have hZ0 : ¬ Z < 0 := by omega
  rw [← hZ] at H1 ⊢
  clear hZ
  go_enter Tryd.func11, Tryd.ntmps11
  go_wp2_with fail
  refine H1.out.mono ?_
  rintro e w2 ⟨rfl, b2⟩
  go_wp2_with fail
  go_ret
  exact ⟨rfl, b2⟩

end Go.Proofs.YtplhjcohkjomgaaDoor
