import Derived.Test.YtplhjcohkjomgaaDoorG
namespace Go.Proofs.YtplhjcohkjomgaaDoor
open Go.RowKit Go.Joins

theorem below_alloc1 (w : World) (o : Obj) : Below w.heap.size w (w.alloc o) := ⟨rfl, rfl, rfl, by simp, fun b hb => Below.heap_alloc _ _ _ hb⟩

/-- The texts that are kept, by their place. -/
def wordAt (j : Nat) : ByteArray := (([⟨#[99, 97, 115, 101]⟩, ⟨#[99, 108, 97, 115, 115]⟩, ⟨#[100, 97, 116, 97]⟩, ⟨#[100, 101, 114, 105, 118, 105, 110, 103]⟩, ⟨#[101, 108, 115, 101]⟩, ⟨#[105, 102]⟩, ⟨#[105, 109, 112, 111, 114, 116]⟩, ⟨#[105, 110]⟩, ⟨#[105, 110, 102, 105, 120]⟩, ⟨#[105, 110, 102, 105, 120, 108]⟩, ⟨#[105, 110, 102, 105, 120, 114]⟩, ⟨#[105, 110, 115, 116, 97, 110, 99, 101]⟩, ⟨#[108, 101, 116]⟩, ⟨#[109, 111, 100, 117, 108, 101]⟩, ⟨#[111, 102]⟩, ⟨#[116, 104, 101, 110]⟩, ⟨#[119, 104, 101, 114, 101]⟩, ⟨#[95]⟩] : List ByteArray)[j]?).getD ⟨#[]⟩
def word (t : ByteArray) : Bool := (List.range 18).any (fun j => (wordAt j).toList == t.toList)

theorem word_cell (w : World) (j : Nat) (hj : j < 18) : (w.alloc (.cells #[.string ⟨#[99, 97, 115, 101]⟩, .string ⟨#[99, 108, 97, 115, 115]⟩, .string ⟨#[100, 97, 116, 97]⟩, .string ⟨#[100, 101, 114, 105, 118, 105, 110, 103]⟩, .string ⟨#[101, 108, 115, 101]⟩, .string ⟨#[105, 102]⟩, .string ⟨#[105, 109, 112, 111, 114, 116]⟩, .string ⟨#[105, 110]⟩, .string ⟨#[105, 110, 102, 105, 120]⟩, .string ⟨#[105, 110, 102, 105, 120, 108]⟩, .string ⟨#[105, 110, 102, 105, 120, 114]⟩, .string ⟨#[105, 110, 115, 116, 97, 110, 99, 101]⟩, .string ⟨#[108, 101, 116]⟩, .string ⟨#[109, 111, 100, 117, 108, 101]⟩, .string ⟨#[111, 102]⟩, .string ⟨#[116, 104, 101, 110]⟩, .string ⟨#[119, 104, 101, 114, 101]⟩, .string ⟨#[95]⟩] 9)).cell? ⟨w.heap.size, j, none⟩ = some (.string (wordAt j)) := by
  rcases j with _ | _ | _ | _ | _ | _ | _ | _ | _ | _ | _ | _ | _ | _ | _ | _ | _ | _ | j
  · simp [wordAt]
  · simp [wordAt]
  · simp [wordAt]
  · simp [wordAt]
  · simp [wordAt]
  · simp [wordAt]
  · simp [wordAt]
  · simp [wordAt]
  · simp [wordAt]
  · simp [wordAt]
  · simp [wordAt]
  · simp [wordAt]
  · simp [wordAt]
  · simp [wordAt]
  · simp [wordAt]
  · simp [wordAt]
  · simp [wordAt]
  · simp [wordAt]
  · omega

set_option maxHeartbeats 1000000 in
set_option maxRecDepth 100000 in
theorem mWord (t : ByteArray) (w : World) : Calls Tryd.prog 44 #[.string t] w fun e w' => e = .returned (.bool (word t)) ∧ Below w.heap.size w w' := by
  have hc := hide (word_cell w)
  go_enter Tryd.func44, Tryd.ntmps44
  go_wp2_with fail
  go_loop [7] (fun s7 => ∃ k : Nat, k ≤ 18 ∧ s7 = .int .i64 k ∧ Hid (∀ j, j < k → ((wordAt j).toList == t.toList) = false)) (fun s7 => 18 - (intOf s7).toNat)
  case atStart => exact ⟨0, by omega, rfl, fun j hj => by omega⟩
  case round =>
    obtain ⟨k, hk, rfl, hn⟩ := hrel
    by_cases hlt : k < 18
    · have c1 := hc.out k hlt
      rcases q : ((wordAt k).toList == t.toList) with _ | _
      · go_wp2_with fail
        go_round
        case rel =>
          refine ⟨k + 1, by omega, by go_num, fun j hj => ?_⟩
          by_cases h : j = k
          · rw [h]; exact q
          · exact hn.out j (by omega)
        case measure => simp [intOf]; omega
      · go_wp2_with fail
        go_ret
        refine ⟨ret_b ?_, below_alloc1 _ _⟩
        symm
        unfold word
        rw [List.any_eq_true]
        exact ⟨k, List.mem_range.2 hlt, q⟩
    · obtain rfl : k = 18 := by omega
      go_wp2_with fail
      go_ret
      refine ⟨ret_b ?_, below_alloc1 _ _⟩
      symm
      unfold word
      rw [List.any_eq_false]
      intro j hj
      rw [hn.out j (List.mem_range.1 hj)]
      decide

/-- The texts that are kept, by their place. -/
def markAt (j : Nat) : ByteArray := (([⟨#[61]⟩, ⟨#[124]⟩, ⟨#[45, 62]⟩, ⟨#[60, 45]⟩, ⟨#[92]⟩, ⟨#[58, 58]⟩, ⟨#[61, 62]⟩, ⟨#[46, 46]⟩, ⟨#[64]⟩, ⟨#[126]⟩, ⟨#[33]⟩] : List ByteArray)[j]?).getD ⟨#[]⟩
def mark (t : ByteArray) : Bool := (List.range 11).any (fun j => (markAt j).toList == t.toList)

theorem mark_cell (w : World) (j : Nat) (hj : j < 11) : (w.alloc (.cells #[.string ⟨#[61]⟩, .string ⟨#[124]⟩, .string ⟨#[45, 62]⟩, .string ⟨#[60, 45]⟩, .string ⟨#[92]⟩, .string ⟨#[58, 58]⟩, .string ⟨#[61, 62]⟩, .string ⟨#[46, 46]⟩, .string ⟨#[64]⟩, .string ⟨#[126]⟩, .string ⟨#[33]⟩] 9)).cell? ⟨w.heap.size, j, none⟩ = some (.string (markAt j)) := by
  rcases j with _ | _ | _ | _ | _ | _ | _ | _ | _ | _ | _ | j
  · simp [markAt]
  · simp [markAt]
  · simp [markAt]
  · simp [markAt]
  · simp [markAt]
  · simp [markAt]
  · simp [markAt]
  · simp [markAt]
  · simp [markAt]
  · simp [markAt]
  · simp [markAt]
  · omega

set_option maxHeartbeats 1000000 in
set_option maxRecDepth 100000 in
theorem mMark (t : ByteArray) (w : World) : Calls Tryd.prog 49 #[.string t] w fun e w' => e = .returned (.bool (mark t)) ∧ Below w.heap.size w w' := by
  have hc := hide (mark_cell w)
  go_enter Tryd.func49, Tryd.ntmps49
  go_wp2_with fail
  go_loop [7] (fun s7 => ∃ k : Nat, k ≤ 11 ∧ s7 = .int .i64 k ∧ Hid (∀ j, j < k → ((markAt j).toList == t.toList) = false)) (fun s7 => 11 - (intOf s7).toNat)
  case atStart => exact ⟨0, by omega, rfl, fun j hj => by omega⟩
  case round =>
    obtain ⟨k, hk, rfl, hn⟩ := hrel
    by_cases hlt : k < 11
    · have c1 := hc.out k hlt
      rcases q : ((markAt k).toList == t.toList) with _ | _
      · go_wp2_with fail
        go_round
        case rel =>
          refine ⟨k + 1, by omega, by go_num, fun j hj => ?_⟩
          by_cases h : j = k
          · rw [h]; exact q
          · exact hn.out j (by omega)
        case measure => simp [intOf]; omega
      · go_wp2_with fail
        go_ret
        refine ⟨ret_b ?_, below_alloc1 _ _⟩
        symm
        unfold mark
        rw [List.any_eq_true]
        exact ⟨k, List.mem_range.2 hlt, q⟩
    · obtain rfl : k = 11 := by omega
      go_wp2_with fail
      go_ret
      refine ⟨ret_b ?_, below_alloc1 _ _⟩
      symm
      unfold mark
      rw [List.any_eq_false]
      intro j hj
      rw [hn.out j (List.mem_range.1 hj)]
      decide

end Go.Proofs.YtplhjcohkjomgaaDoor
