import Derived.Test.YtjdncofdjabkiaaDoorQ05
namespace Go.Proofs.YtjdncofdjabkiaaDoor
open Go.RowKit Go.Joins

/-- A function value that tells a class of runes. -/
def ClassFn (f : Nat) (p : Nat → Bool) : Prop := ∀ (c : Nat) (w : World), c ≤ 2147483647 → Calls Tryd.prog f #[.int .i32 c] w fun e w' => e = .returned (.bool (p c)) ∧ Below w.heap.size w w'

theorem class81 : ClassFn 81 ins := fun c w _ => (iCont c w).mono (by rintro e w' ⟨rfl, rfl⟩; exact ⟨rfl, Below.refl _ _⟩)
theorem class65 : ClassFn 65 dig := fun c w _ => (iDigit c w).mono (by rintro e w' ⟨rfl, rfl⟩; exact ⟨rfl, Below.refl _ _⟩)
theorem class86 : ClassFn 86 (fun c => c != 10) := fun c w _ => (iStays c w).mono (by rintro e w' ⟨rfl, rfl⟩; exact ⟨rfl, Below.refl _ _⟩)
theorem class68 : ClassFn 68 sym := fun c w h => iSymbol c w h

set_option maxHeartbeats 1000000 in
set_option maxRecDepth 100000 in
theorem iRun81 (p : Nat → Bool) (hf : ClassFn 81 p) (hp : ∀ c, 128 ≤ c → p c = p 128) (s : ByteArray) (w : World) :
    Calls Tryd.prog 80 #[.string s, .func (.func 81) #[] #[]] w fun e w' => e = .returned (.int .i64 (rl p s 0)) ∧ Below w.heap.size w w' := by
  go_enter Tryd.func80, Tryd.ntmps80
  go_wp2_with fail
  go_loopw [5, 6] (fun _ _ wr => ∃ pos : Nat, pos ≤ s.size ∧ wr.heap[w.heap.size]? = some (.stringIter s pos) ∧ Below w.heap.size w wr ∧ Hid (∀ i, i < pos → p (bt s i) = true)) (fun _ _ wr => s.size - wr.iterPos w.heap.size)
  case atStart => exact ⟨0, Nat.zero_le _, heap_new w _, below_alloc1 _ _, fun i hi => by omega⟩
  case round =>
    obtain ⟨pos, hpos, hit, hb, hall⟩ := hrel
    by_cases hlt : pos < s.size
    · have hnx : ∀ ty, (Instr.next (.pointer (some ⟨w.heap.size, 0, none⟩)) true ty).run Tryd.prog wr = _ := fun ty => Lib.run_next_any_at wr w.heap.size s pos ty hit hlt
      have hD : (Utf8.decode s pos).1 ≤ 2147483647 ∧ 1 ≤ (Utf8.decode s pos).2 ∧ pos + (Utf8.decode s pos).2 ≤ s.size ∧ p (Utf8.decode s pos).1 = p (bt s pos) ∧ (p (bt s pos) = true → ∀ j, j < (Utf8.decode s pos).2 → p (bt s (pos + j)) = true) := by
        by_cases hl : bt s pos < 128
        · rw [dec_low hlt hl]
          refine ⟨by simp only; omega, Nat.le_refl _, by simp only; omega, rfl, fun h j hj => ?_⟩
          simp only at hj
          obtain rfl : j = 0 := by omega
          exact h
        · obtain ⟨h1, h2, h3, h4, h5⟩ := dec_high hlt (by omega)
          refine ⟨by omega, h3, h4, (hp _ h1).trans (hp (bt s pos) (by omega)).symm, fun h j hj => ?_⟩
          rcases Nat.eq_zero_or_pos j with rfl | h0
          · exact h
          · rw [hp _ (h5 j h0 hj), ← hp (bt s pos) (by omega)]; exact h
      obtain ⟨d1, d2, d3, d4, d5⟩ := hD
      generalize (Utf8.decode s pos).1 = c at *
      generalize (Utf8.decode s pos).2 = wd at *
      have hit2 := Lib.iterAt_heap wr w.heap.size s pos (pos + wd) hit
      have hb2 := Lib.below_iterAt hb (k := w.heap.size) (Nat.le_refl _) s (pos + wd)
      have hz2 := hb2.size
      have hc := hf c (wr.iterAt w.heap.size s (pos + wd)) d1
      rcases q : p c with _ | _
      · have hr : Run p s 0 pos := ⟨by omega, fun i hi => by rw [Nat.zero_add]; exact hall.out i hi, fun _ => by rw [Nat.zero_add, ← d4]; exact q⟩
        have HR := hide hr.rl
        rw [q] at hc
        clear d4 d5 hr
        go_wp2_with fail
        refine hc.mono ?_
        rintro e w3 ⟨rfl, b3⟩
        go_wp2_with fail
        go_ret
        exact ⟨by rw [← HR.out]; rfl, hb2.trans (b3.mono hz2)⟩
      · have HD := hide (d5 (by rw [← d4]; exact q))
        rw [q] at hc
        clear d4 d5
        go_wp2_with fail
        refine hc.mono ?_
        rintro e w3 ⟨rfl, b3⟩
        have hit3 : w3.heap[w.heap.size]? = some (.stringIter s (pos + wd)) := (b3.block _ (Array.getElem?_eq_some_iff.1 hit2).1).trans hit2
        go_wp2_with fail
        go_roundw
        case rel =>
          refine ⟨pos + wd, by omega, hit3, hb2.trans (b3.mono hz2), fun i hi => ?_⟩
          by_cases h : i < pos
          · exact hall.out i h
          · have := HD.out (i - pos) (by omega)
            rwa [show pos + (i - pos) = i by omega] at this
        case measure =>
          simp only [World.iterPos, hit3, hit]
          omega
    · have hnx : ∀ ty, (Instr.next (.pointer (some ⟨w.heap.size, 0, none⟩)) true ty).run Tryd.prog wr = _ := fun ty => Lib.run_next_end_at wr w.heap.size s pos ty hit hlt
      have hr : Run p s 0 s.size := ⟨by omega, fun i hi => by rw [Nat.zero_add]; exact hall.out i (by omega), fun h => by omega⟩
      have HR := hide hr.rl
      clear hr
      go_wp2_with fail
      go_ret
      exact ⟨by rw [← HR.out]; rfl, hb⟩


set_option maxHeartbeats 1000000 in
set_option maxRecDepth 100000 in
theorem iRun65 (p : Nat → Bool) (hf : ClassFn 65 p) (hp : ∀ c, 128 ≤ c → p c = p 128) (s : ByteArray) (w : World) :
    Calls Tryd.prog 80 #[.string s, .func (.func 65) #[] #[]] w fun e w' => e = .returned (.int .i64 (rl p s 0)) ∧ Below w.heap.size w w' := by
  go_enter Tryd.func80, Tryd.ntmps80
  go_wp2_with fail
  go_loopw [5, 6] (fun _ _ wr => ∃ pos : Nat, pos ≤ s.size ∧ wr.heap[w.heap.size]? = some (.stringIter s pos) ∧ Below w.heap.size w wr ∧ Hid (∀ i, i < pos → p (bt s i) = true)) (fun _ _ wr => s.size - wr.iterPos w.heap.size)
  case atStart => exact ⟨0, Nat.zero_le _, heap_new w _, below_alloc1 _ _, fun i hi => by omega⟩
  case round =>
    obtain ⟨pos, hpos, hit, hb, hall⟩ := hrel
    by_cases hlt : pos < s.size
    · have hnx : ∀ ty, (Instr.next (.pointer (some ⟨w.heap.size, 0, none⟩)) true ty).run Tryd.prog wr = _ := fun ty => Lib.run_next_any_at wr w.heap.size s pos ty hit hlt
      have hD : (Utf8.decode s pos).1 ≤ 2147483647 ∧ 1 ≤ (Utf8.decode s pos).2 ∧ pos + (Utf8.decode s pos).2 ≤ s.size ∧ p (Utf8.decode s pos).1 = p (bt s pos) ∧ (p (bt s pos) = true → ∀ j, j < (Utf8.decode s pos).2 → p (bt s (pos + j)) = true) := by
        by_cases hl : bt s pos < 128
        · rw [dec_low hlt hl]
          refine ⟨by simp only; omega, Nat.le_refl _, by simp only; omega, rfl, fun h j hj => ?_⟩
          simp only at hj
          obtain rfl : j = 0 := by omega
          exact h
        · obtain ⟨h1, h2, h3, h4, h5⟩ := dec_high hlt (by omega)
          refine ⟨by omega, h3, h4, (hp _ h1).trans (hp (bt s pos) (by omega)).symm, fun h j hj => ?_⟩
          rcases Nat.eq_zero_or_pos j with rfl | h0
          · exact h
          · rw [hp _ (h5 j h0 hj), ← hp (bt s pos) (by omega)]; exact h
      obtain ⟨d1, d2, d3, d4, d5⟩ := hD
      generalize (Utf8.decode s pos).1 = c at *
      generalize (Utf8.decode s pos).2 = wd at *
      have hit2 := Lib.iterAt_heap wr w.heap.size s pos (pos + wd) hit
      have hb2 := Lib.below_iterAt hb (k := w.heap.size) (Nat.le_refl _) s (pos + wd)
      have hz2 := hb2.size
      have hc := hf c (wr.iterAt w.heap.size s (pos + wd)) d1
      rcases q : p c with _ | _
      · have hr : Run p s 0 pos := ⟨by omega, fun i hi => by rw [Nat.zero_add]; exact hall.out i hi, fun _ => by rw [Nat.zero_add, ← d4]; exact q⟩
        have HR := hide hr.rl
        rw [q] at hc
        clear d4 d5 hr
        go_wp2_with fail
        refine hc.mono ?_
        rintro e w3 ⟨rfl, b3⟩
        go_wp2_with fail
        go_ret
        exact ⟨by rw [← HR.out]; rfl, hb2.trans (b3.mono hz2)⟩
      · have HD := hide (d5 (by rw [← d4]; exact q))
        rw [q] at hc
        clear d4 d5
        go_wp2_with fail
        refine hc.mono ?_
        rintro e w3 ⟨rfl, b3⟩
        have hit3 : w3.heap[w.heap.size]? = some (.stringIter s (pos + wd)) := (b3.block _ (Array.getElem?_eq_some_iff.1 hit2).1).trans hit2
        go_wp2_with fail
        go_roundw
        case rel =>
          refine ⟨pos + wd, by omega, hit3, hb2.trans (b3.mono hz2), fun i hi => ?_⟩
          by_cases h : i < pos
          · exact hall.out i h
          · have := HD.out (i - pos) (by omega)
            rwa [show pos + (i - pos) = i by omega] at this
        case measure =>
          simp only [World.iterPos, hit3, hit]
          omega
    · have hnx : ∀ ty, (Instr.next (.pointer (some ⟨w.heap.size, 0, none⟩)) true ty).run Tryd.prog wr = _ := fun ty => Lib.run_next_end_at wr w.heap.size s pos ty hit hlt
      have hr : Run p s 0 s.size := ⟨by omega, fun i hi => by rw [Nat.zero_add]; exact hall.out i (by omega), fun h => by omega⟩
      have HR := hide hr.rl
      clear hr
      go_wp2_with fail
      go_ret
      exact ⟨by rw [← HR.out]; rfl, hb⟩


set_option maxHeartbeats 1000000 in
set_option maxRecDepth 100000 in
theorem iRun86 (p : Nat → Bool) (hf : ClassFn 86 p) (hp : ∀ c, 128 ≤ c → p c = p 128) (s : ByteArray) (w : World) :
    Calls Tryd.prog 80 #[.string s, .func (.func 86) #[] #[]] w fun e w' => e = .returned (.int .i64 (rl p s 0)) ∧ Below w.heap.size w w' := by
  go_enter Tryd.func80, Tryd.ntmps80
  go_wp2_with fail
  go_loopw [5, 6] (fun _ _ wr => ∃ pos : Nat, pos ≤ s.size ∧ wr.heap[w.heap.size]? = some (.stringIter s pos) ∧ Below w.heap.size w wr ∧ Hid (∀ i, i < pos → p (bt s i) = true)) (fun _ _ wr => s.size - wr.iterPos w.heap.size)
  case atStart => exact ⟨0, Nat.zero_le _, heap_new w _, below_alloc1 _ _, fun i hi => by omega⟩
  case round =>
    obtain ⟨pos, hpos, hit, hb, hall⟩ := hrel
    by_cases hlt : pos < s.size
    · have hnx : ∀ ty, (Instr.next (.pointer (some ⟨w.heap.size, 0, none⟩)) true ty).run Tryd.prog wr = _ := fun ty => Lib.run_next_any_at wr w.heap.size s pos ty hit hlt
      have hD : (Utf8.decode s pos).1 ≤ 2147483647 ∧ 1 ≤ (Utf8.decode s pos).2 ∧ pos + (Utf8.decode s pos).2 ≤ s.size ∧ p (Utf8.decode s pos).1 = p (bt s pos) ∧ (p (bt s pos) = true → ∀ j, j < (Utf8.decode s pos).2 → p (bt s (pos + j)) = true) := by
        by_cases hl : bt s pos < 128
        · rw [dec_low hlt hl]
          refine ⟨by simp only; omega, Nat.le_refl _, by simp only; omega, rfl, fun h j hj => ?_⟩
          simp only at hj
          obtain rfl : j = 0 := by omega
          exact h
        · obtain ⟨h1, h2, h3, h4, h5⟩ := dec_high hlt (by omega)
          refine ⟨by omega, h3, h4, (hp _ h1).trans (hp (bt s pos) (by omega)).symm, fun h j hj => ?_⟩
          rcases Nat.eq_zero_or_pos j with rfl | h0
          · exact h
          · rw [hp _ (h5 j h0 hj), ← hp (bt s pos) (by omega)]; exact h
      obtain ⟨d1, d2, d3, d4, d5⟩ := hD
      generalize (Utf8.decode s pos).1 = c at *
      generalize (Utf8.decode s pos).2 = wd at *
      have hit2 := Lib.iterAt_heap wr w.heap.size s pos (pos + wd) hit
      have hb2 := Lib.below_iterAt hb (k := w.heap.size) (Nat.le_refl _) s (pos + wd)
      have hz2 := hb2.size
      have hc := hf c (wr.iterAt w.heap.size s (pos + wd)) d1
      rcases q : p c with _ | _
      · have hr : Run p s 0 pos := ⟨by omega, fun i hi => by rw [Nat.zero_add]; exact hall.out i hi, fun _ => by rw [Nat.zero_add, ← d4]; exact q⟩
        have HR := hide hr.rl
        rw [q] at hc
        clear d4 d5 hr
        go_wp2_with fail
        refine hc.mono ?_
        rintro e w3 ⟨rfl, b3⟩
        go_wp2_with fail
        go_ret
        exact ⟨by rw [← HR.out]; rfl, hb2.trans (b3.mono hz2)⟩
      · have HD := hide (d5 (by rw [← d4]; exact q))
        rw [q] at hc
        clear d4 d5
        go_wp2_with fail
        refine hc.mono ?_
        rintro e w3 ⟨rfl, b3⟩
        have hit3 : w3.heap[w.heap.size]? = some (.stringIter s (pos + wd)) := (b3.block _ (Array.getElem?_eq_some_iff.1 hit2).1).trans hit2
        go_wp2_with fail
        go_roundw
        case rel =>
          refine ⟨pos + wd, by omega, hit3, hb2.trans (b3.mono hz2), fun i hi => ?_⟩
          by_cases h : i < pos
          · exact hall.out i h
          · have := HD.out (i - pos) (by omega)
            rwa [show pos + (i - pos) = i by omega] at this
        case measure =>
          simp only [World.iterPos, hit3, hit]
          omega
    · have hnx : ∀ ty, (Instr.next (.pointer (some ⟨w.heap.size, 0, none⟩)) true ty).run Tryd.prog wr = _ := fun ty => Lib.run_next_end_at wr w.heap.size s pos ty hit hlt
      have hr : Run p s 0 s.size := ⟨by omega, fun i hi => by rw [Nat.zero_add]; exact hall.out i (by omega), fun h => by omega⟩
      have HR := hide hr.rl
      clear hr
      go_wp2_with fail
      go_ret
      exact ⟨by rw [← HR.out]; rfl, hb⟩


set_option maxHeartbeats 1000000 in
set_option maxRecDepth 100000 in
theorem iRun68 (p : Nat → Bool) (hf : ClassFn 68 p) (hp : ∀ c, 128 ≤ c → p c = p 128) (s : ByteArray) (w : World) :
    Calls Tryd.prog 80 #[.string s, .func (.func 68) #[] #[]] w fun e w' => e = .returned (.int .i64 (rl p s 0)) ∧ Below w.heap.size w w' := by
  go_enter Tryd.func80, Tryd.ntmps80
  go_wp2_with fail
  go_loopw [5, 6] (fun _ _ wr => ∃ pos : Nat, pos ≤ s.size ∧ wr.heap[w.heap.size]? = some (.stringIter s pos) ∧ Below w.heap.size w wr ∧ Hid (∀ i, i < pos → p (bt s i) = true)) (fun _ _ wr => s.size - wr.iterPos w.heap.size)
  case atStart => exact ⟨0, Nat.zero_le _, heap_new w _, below_alloc1 _ _, fun i hi => by omega⟩
  case round =>
    obtain ⟨pos, hpos, hit, hb, hall⟩ := hrel
    by_cases hlt : pos < s.size
    · have hnx : ∀ ty, (Instr.next (.pointer (some ⟨w.heap.size, 0, none⟩)) true ty).run Tryd.prog wr = _ := fun ty => Lib.run_next_any_at wr w.heap.size s pos ty hit hlt
      have hD : (Utf8.decode s pos).1 ≤ 2147483647 ∧ 1 ≤ (Utf8.decode s pos).2 ∧ pos + (Utf8.decode s pos).2 ≤ s.size ∧ p (Utf8.decode s pos).1 = p (bt s pos) ∧ (p (bt s pos) = true → ∀ j, j < (Utf8.decode s pos).2 → p (bt s (pos + j)) = true) := by
        by_cases hl : bt s pos < 128
        · rw [dec_low hlt hl]
          refine ⟨by simp only; omega, Nat.le_refl _, by simp only; omega, rfl, fun h j hj => ?_⟩
          simp only at hj
          obtain rfl : j = 0 := by omega
          exact h
        · obtain ⟨h1, h2, h3, h4, h5⟩ := dec_high hlt (by omega)
          refine ⟨by omega, h3, h4, (hp _ h1).trans (hp (bt s pos) (by omega)).symm, fun h j hj => ?_⟩
          rcases Nat.eq_zero_or_pos j with rfl | h0
          · exact h
          · rw [hp _ (h5 j h0 hj), ← hp (bt s pos) (by omega)]; exact h
      obtain ⟨d1, d2, d3, d4, d5⟩ := hD
      generalize (Utf8.decode s pos).1 = c at *
      generalize (Utf8.decode s pos).2 = wd at *
      have hit2 := Lib.iterAt_heap wr w.heap.size s pos (pos + wd) hit
      have hb2 := Lib.below_iterAt hb (k := w.heap.size) (Nat.le_refl _) s (pos + wd)
      have hz2 := hb2.size
      have hc := hf c (wr.iterAt w.heap.size s (pos + wd)) d1
      rcases q : p c with _ | _
      · have hr : Run p s 0 pos := ⟨by omega, fun i hi => by rw [Nat.zero_add]; exact hall.out i hi, fun _ => by rw [Nat.zero_add, ← d4]; exact q⟩
        have HR := hide hr.rl
        rw [q] at hc
        clear d4 d5 hr
        go_wp2_with fail
        refine hc.mono ?_
        rintro e w3 ⟨rfl, b3⟩
        go_wp2_with fail
        go_ret
        exact ⟨by rw [← HR.out]; rfl, hb2.trans (b3.mono hz2)⟩
      · have HD := hide (d5 (by rw [← d4]; exact q))
        rw [q] at hc
        clear d4 d5
        go_wp2_with fail
        refine hc.mono ?_
        rintro e w3 ⟨rfl, b3⟩
        have hit3 : w3.heap[w.heap.size]? = some (.stringIter s (pos + wd)) := (b3.block _ (Array.getElem?_eq_some_iff.1 hit2).1).trans hit2
        go_wp2_with fail
        go_roundw
        case rel =>
          refine ⟨pos + wd, by omega, hit3, hb2.trans (b3.mono hz2), fun i hi => ?_⟩
          by_cases h : i < pos
          · exact hall.out i h
          · have := HD.out (i - pos) (by omega)
            rwa [show pos + (i - pos) = i by omega] at this
        case measure =>
          simp only [World.iterPos, hit3, hit]
          omega
    · have hnx : ∀ ty, (Instr.next (.pointer (some ⟨w.heap.size, 0, none⟩)) true ty).run Tryd.prog wr = _ := fun ty => Lib.run_next_end_at wr w.heap.size s pos ty hit hlt
      have hr : Run p s 0 s.size := ⟨by omega, fun i hi => by rw [Nat.zero_add]; exact hall.out i (by omega), fun h => by omega⟩
      have HR := hide hr.rl
      clear hr
      go_wp2_with fail
      go_ret
      exact ⟨by rw [← HR.out]; rfl, hb⟩


theorem high_ins : ∀ c, 128 ≤ c → ins c = ins 128 := fun c h => by
  rw [show ins 128 = false from rfl]
  simp [ins, sml, cap, dig]; omega
theorem high_dig : ∀ c, 128 ≤ c → dig c = dig 128 := fun c h => by
  rw [show dig 128 = false from rfl]
  simp [dig]; omega
theorem high_line : ∀ c, 128 ≤ c → (c != 10) = ((128 : Nat) != 10) := fun c h => by
  have : (c != 10) = true := by simp; omega
  rw [this]; rfl
theorem high_sym : ∀ c, 128 ≤ c → sym c = sym 128 := fun c h => by
  rw [show sym 128 = false from rfl]
  simp [sym]; omega

end Go.Proofs.YtjdncofdjabkiaaDoor

