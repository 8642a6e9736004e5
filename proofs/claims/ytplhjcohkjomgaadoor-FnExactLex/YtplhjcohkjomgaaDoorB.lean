import Derived.Test.YtplhjcohkjomgaaDoorA
namespace Go.Proofs.YtplhjcohkjomgaaDoor
open Go.RowKit Go.Joins

/-- From a place on n bytes are of a class, and no more. -/
structure Run (p : Nat → Bool) (s : ByteArray) (at' n : Nat) : Prop where
  le : at' + n ≤ s.size
  all : ∀ i, i < n → p (bt s (at' + i)) = true
  stop : at' + n < s.size → p (bt s (at' + n)) = false

theorem Run.unique {p s a n m} (h : Run p s a n) (k : Run p s a m) : n = m := by
  apply Decidable.byContradiction
  intro hne
  by_cases hl : n < m
  · have h1 := k.all n hl
    rw [h.stop (by have := k.le; omega)] at h1
    cases h1
  · have h1 := h.all m (by omega)
    rw [k.stop (by have := h.le; omega)] at h1
    cases h1

theorem mRun0 (s : ByteArray) (a : Nat) (w : World) (hs : s.size ≤ 1048576) (ha : a ≤ s.size) : Calls Tryd.prog 41 #[.string s, .int .i64 a, .int .i64 0] w fun e w' => (∃ n : Nat, e = .returned (.int .i64 n) ∧ Run ins s a n) ∧ w' = w := by
  go_enter Tryd.func41, Tryd.ntmps41
  go_wp2_with fail
  go_loop [7] (fun s7 => ∃ k : Nat, a + k ≤ s.size ∧ s7 = .int .i64 k ∧ Hid (∀ i, i < k → ins (bt s (a + i)) = true)) (fun s7 => s.size - (intOf s7).toNat)
  case atStart => exact ⟨0, by omega, rfl, fun i hi => by omega⟩
  case round =>
    obtain ⟨k, hk, rfl, hn⟩ := hrel
    by_cases hlt : a + k < s.size
    · have hb := hide (bt_in hlt)
      rcases hi : ins (bt s (a + k)) with _ | _
      · go_wp2_with fail
        refine (mInside _ _).mono ?_
        rintro e w1 ⟨rfl, rfl⟩
        rw [hb.out, hi]
        go_wp2_with fail
        go_ret
        exact ⟨⟨k, rfl, hk, hn.out, fun _ => hi⟩, rfl⟩
      · go_wp2_with fail
        refine (mInside _ _).mono ?_
        rintro e w1 ⟨rfl, rfl⟩
        rw [hb.out, hi]
        go_wp2_with fail
        go_round
        case rel =>
          refine ⟨k + 1, by omega, by go_num, fun i hi' => ?_⟩
          by_cases h : i = k
          · rw [h]; exact hi
          · exact hn.out i (by omega)
        case measure => simp [intOf]; omega
    · go_wp2_with fail
      go_ret
      exact ⟨⟨k, rfl, hk, hn.out, fun h => by omega⟩, rfl⟩

theorem mRun1 (s : ByteArray) (a : Nat) (w : World) (hs : s.size ≤ 1048576) (ha : a ≤ s.size) : Calls Tryd.prog 41 #[.string s, .int .i64 a, .int .i64 1] w fun e w' => (∃ n : Nat, e = .returned (.int .i64 n) ∧ Run sym s a n) ∧ w' = w := by
  go_enter Tryd.func41, Tryd.ntmps41
  go_wp2_with fail
  go_loop [7] (fun s7 => ∃ k : Nat, a + k ≤ s.size ∧ s7 = .int .i64 k ∧ Hid (∀ i, i < k → sym (bt s (a + i)) = true)) (fun s7 => s.size - (intOf s7).toNat)
  case atStart => exact ⟨0, by omega, rfl, fun i hi => by omega⟩
  case round =>
    obtain ⟨k, hk, rfl, hn⟩ := hrel
    by_cases hlt : a + k < s.size
    · have hb := hide (bt_in hlt)
      rcases hi : sym (bt s (a + k)) with _ | _
      · go_wp2_with fail
        refine (mSymbol _ _).mono ?_
        rintro e w1 ⟨rfl, rfl⟩
        rw [hb.out, hi]
        go_wp2_with fail
        go_ret
        exact ⟨⟨k, rfl, hk, hn.out, fun _ => hi⟩, rfl⟩
      · go_wp2_with fail
        refine (mSymbol _ _).mono ?_
        rintro e w1 ⟨rfl, rfl⟩
        rw [hb.out, hi]
        go_wp2_with fail
        go_round
        case rel =>
          refine ⟨k + 1, by omega, by go_num, fun i hi' => ?_⟩
          by_cases h : i = k
          · rw [h]; exact hi
          · exact hn.out i (by omega)
        case measure => simp [intOf]; omega
    · go_wp2_with fail
      go_ret
      exact ⟨⟨k, rfl, hk, hn.out, fun h => by omega⟩, rfl⟩

theorem mRun2 (s : ByteArray) (a : Nat) (w : World) (hs : s.size ≤ 1048576) (ha : a ≤ s.size) : Calls Tryd.prog 41 #[.string s, .int .i64 a, .int .i64 2] w fun e w' => (∃ n : Nat, e = .returned (.int .i64 n) ∧ Run dig s a n) ∧ w' = w := by
  go_enter Tryd.func41, Tryd.ntmps41
  go_wp2_with fail
  go_loop [7] (fun s7 => ∃ k : Nat, a + k ≤ s.size ∧ s7 = .int .i64 k ∧ Hid (∀ i, i < k → dig (bt s (a + i)) = true)) (fun s7 => s.size - (intOf s7).toNat)
  case atStart => exact ⟨0, by omega, rfl, fun i hi => by omega⟩
  case round =>
    obtain ⟨k, hk, rfl, hn⟩ := hrel
    by_cases hlt : a + k < s.size
    · have hb := hide (bt_in hlt)
      rcases hi : dig (bt s (a + k)) with _ | _
      · go_wp2_with fail
        refine (mDigit _ _).mono ?_
        rintro e w1 ⟨rfl, rfl⟩
        rw [hb.out, hi]
        go_wp2_with fail
        go_ret
        exact ⟨⟨k, rfl, hk, hn.out, fun _ => hi⟩, rfl⟩
      · go_wp2_with fail
        refine (mDigit _ _).mono ?_
        rintro e w1 ⟨rfl, rfl⟩
        rw [hb.out, hi]
        go_wp2_with fail
        go_round
        case rel =>
          refine ⟨k + 1, by omega, by go_num, fun i hi' => ?_⟩
          by_cases h : i = k
          · rw [h]; exact hi
          · exact hn.out i (by omega)
        case measure => simp [intOf]; omega
    · go_wp2_with fail
      go_ret
      exact ⟨⟨k, rfl, hk, hn.out, fun h => by omega⟩, rfl⟩

end Go.Proofs.YtplhjcohkjomgaaDoor
