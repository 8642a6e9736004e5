import Derived.Test.YtjfoagmenehapaaGreatDoorQ09
import Derived.Test.YtjfoagmenehapaaGreatDoorQ07
namespace Go.Proofs.YtjfoagmenehapaaGreatDoor
open Go.RowKit Go.Joins

/-- A function value that tells a class of runes. -/
def ClassFn (f : Nat) (p : Nat → Bool) : Prop := ∀ (c : Nat) (w : World), c ≤ 2147483647 → Calls Tryz.prog f #[.int .i32 c] w fun e w' => e = .returned (.bool (p c)) ∧ Below w.heap.size w w'

theorem class81 : ClassFn 143 ins := fun c w _ => (iCont c w).mono (by rintro e w' ⟨rfl, rfl⟩; exact ⟨rfl, Below.refl _ _⟩)
theorem class65 : ClassFn 113 dig := fun c w _ => (iDigit c w).mono (by rintro e w' ⟨rfl, rfl⟩; exact ⟨rfl, Below.refl _ _⟩)
theorem class86 : ClassFn 148 (fun c => c != 10) := fun c w _ => (iStays c w).mono (by rintro e w' ⟨rfl, rfl⟩; exact ⟨rfl, Below.refl _ _⟩)
theorem class68 : ClassFn 116 sym := fun c w h => iSymbol c w h

set_option maxHeartbeats 1000000 in
set_option maxRecDepth 100000 in
theorem iRun81 (p : Nat → Bool) (hf : ClassFn 143 p) (hp : ∀ c, 128 ≤ c → p c = p 128) (s : ByteArray) (w : World) :
    Calls Tryz.prog 142 #[.string s, .func (.func 143) #[] #[]] w fun e w' => e = .returned (.int .i64 (rl p s 0)) ∧ Below w.heap.size w w' := by
  go_enter Tryz.func142, Tryz.ntmps142
  go_wp2_with fail
  go_loopw [5, 6] (fun _ _ wr => ∃ pos : Nat, pos ≤ s.size ∧ wr.heap[w.heap.size]? = some (.stringIter s pos) ∧ Below w.heap.size w wr ∧ Hid (∀ i, i < pos → p (bt s i) = true)) (fun _ _ wr => s.size - wr.iterPos w.heap.size)
  case atStart => exact ⟨0, Nat.zero_le _, heap_new w _, below_alloc1 _ _, fun i hi => by omega⟩
  case round =>
    obtain ⟨pos, hpos, hit, hb, hall⟩ := hrel
    by_cases hlt : pos < s.size
    · have hnx : ∀ ty, (Instr.next (.pointer (some ⟨w.heap.size, 0, none⟩)) true ty).run Tryz.prog wr = _ := fun ty => Lib.run_next_any_at wr w.heap.size s pos ty hit hlt
      have hD : (Utf8.decode s pos).1 ≤ 2147483647 ∧ 1 ≤ (Utf8.decode s pos).2 ∧ pos + (Utf8.decode s pos).2 ≤ s.size ∧ p (Utf8.decode s pos).1 = p (bt s pos) ∧ (p (bt s pos) = true → ∀ j, j < (Utf8.decode s pos).2 → p (bt s (pos + j)) = true) := by
        by_cases hl : bt s pos < 128
        · rw [dec_low hlt hl]
          refine ⟨by simp only; omega, Nat.le_refl _, by simp only; omega, rfl, fun h j hj => ?_⟩
          simp only at hj
          obtain rfl : j = 0 := by omega
          exact h
        · obtain ⟨h1, h2, h3, h4, h5⟩ := dec_high hlt (by omega)
          refine ⟨by omega, h3, h4, (hp _ h1).trans (hp (bt s pos) (by omega)).symm, fun h j hj => ?_⟩
          rcases Nat.eq_zero_or_pos j with rfl | h0
          · exact h
          · rw [hp _ (h5 j h0 hj), ← hp (bt s pos) (by omega)]; exact h
      obtain ⟨d1, d2, d3, d4, d5⟩ := hD
      generalize (Utf8.decode s pos).1 = c at *
      generalize (Utf8.decode s pos).2 = wd at *
      have hit2 := Lib.iterAt_heap wr w.heap.size s pos (pos + wd) hit
      have hb2 := Lib.below_iterAt hb (k := w.heap.size) (Nat.le_refl _) s (pos + wd)
      have hz2 := hb2.size
      have hc := hf c (wr.iterAt w.heap.size s (pos + wd)) d1
      rcases q : p c with _ | _
      · have hr : Run p s 0 pos := ⟨by omega, fun i hi => by rw [Nat.zero_add]; exact hall.out i hi, fun _ => by rw [Nat.zero_add, ← d4]; exact q⟩
        have HR := hide hr.rl
        rw [q] at hc
        clear d4 d5 hr
        go_wp2_with fail
        refine hc.mono ?_
        rintro e w3 ⟨rfl, b3⟩
        go_wp2_with fail
        go_ret
        exact ⟨by rw [← HR.out]; rfl, hb2.trans (b3.mono hz2)⟩
      · have HD := hide (d5 (by rw [← d4]; exact q))
        rw [q] at hc
        clear d4 d5
        go_wp2_with fail
        refine hc.mono ?_
        rintro e w3 ⟨rfl, b3⟩
        have hit3 : w3.heap[w.heap.size]? = some (.stringIter s (pos + wd)) := (b3.block _ (Array.getElem?_eq_some_iff.1 hit2).1).trans hit2
        go_wp2_with fail
        go_roundw
        case rel =>
          refine ⟨pos + wd, by omega, hit3, hb2.trans (b3.mono hz2), fun i hi => ?_⟩
          by_cases h : i < pos
          · exact hall.out i h
          · have := HD.out (i - pos) (by omega)
            rwa [show pos + (i - pos) = i by omega] at this
        case measure =>
          simp only [World.iterPos, hit3, hit]
          omega
    · have hnx : ∀ ty, (Instr.next (.pointer (some ⟨w.heap.size, 0, none⟩)) true ty).run Tryz.prog wr = _ := fun ty => Lib.run_next_end_at wr w.heap.size s pos ty hit hlt
      have hr : Run p s 0 s.size := ⟨by omega, fun i hi => by rw [Nat.zero_add]; exact hall.out i (by omega), fun h => by omega⟩
      have HR := hide hr.rl
      clear hr
      go_wp2_with fail
      go_ret
      exact ⟨by rw [← HR.out]; rfl, hb⟩


set_option maxHeartbeats 1000000 in
set_option maxRecDepth 100000 in
theorem iRun65 (p : Nat → Bool) (hf : ClassFn 113 p) (hp : ∀ c, 128 ≤ c → p c = p 128) (s : ByteArray) (w : World) :
    Calls Tryz.prog 142 #[.string s, .func (.func 113) #[] #[]] w fun e w' => e = .returned (.int .i64 (rl p s 0)) ∧ Below w.heap.size w w' := by
  go_enter Tryz.func142, Tryz.ntmps142
  go_wp2_with fail
  go_loopw [5, 6] (fun _ _ wr => ∃ pos : Nat, pos ≤ s.size ∧ wr.heap[w.heap.size]? = some (.stringIter s pos) ∧ Below w.heap.size w wr ∧ Hid (∀ i, i < pos → p (bt s i) = true)) (fun _ _ wr => s.size - wr.iterPos w.heap.size)
  case atStart => exact ⟨0, Nat.zero_le _, heap_new w _, below_alloc1 _ _, fun i hi => by omega⟩
  case round =>
    obtain ⟨pos, hpos, hit, hb, hall⟩ := hrel
    by_cases hlt : pos < s.size
    · have hnx : ∀ ty, (Instr.next (.pointer (some ⟨w.heap.size, 0, none⟩)) true ty).run Tryz.prog wr = _ := fun ty => Lib.run_next_any_at wr w.heap.size s pos ty hit hlt
      have hD : (Utf8.decode s pos).1 ≤ 2147483647 ∧ 1 ≤ (Utf8.decode s pos).2 ∧ pos + (Utf8.decode s pos).2 ≤ s.size ∧ p (Utf8.decode s pos).1 = p (bt s pos) ∧ (p (bt s pos) = true → ∀ j, j < (Utf8.decode s pos).2 → p (bt s (pos + j)) = true) := by
        by_cases hl : bt s pos < 128
        · rw [dec_low hlt hl]
          refine ⟨by simp only; omega, Nat.le_refl _, by simp only; omega, rfl, fun h j hj => ?_⟩
          simp only at hj
          obtain rfl : j = 0 := by omega
          exact h
        · obtain ⟨h1, h2, h3, h4, h5⟩ := dec_high hlt (by omega)
          refine ⟨by omega, h3, h4, (hp _ h1).trans (hp (bt s pos) (by omega)).symm, fun h j hj => ?_⟩
          rcases Nat.eq_zero_or_pos j with rfl | h0
          · exact h
          · rw [hp _ (h5 j h0 hj), ← hp (bt s pos) (by omega)]; exact h
      obtain ⟨d1, d2, d3, d4, d5⟩ := hD
      generalize (Utf8.decode s pos).1 = c at *
      generalize (Utf8.decode s pos).2 = wd at *
      have hit2 := Lib.iterAt_heap wr w.heap.size s pos (pos + wd) hit
      have hb2 := Lib.below_iterAt hb (k := w.heap.size) (Nat.le_refl _) s (pos + wd)
      have hz2 := hb2.size
      have hc := hf c (wr.iterAt w.heap.size s (pos + wd)) d1
      rcases q : p c with _ | _
      · have hr : Run p s 0 pos := ⟨by omega, fun i hi => by rw [Nat.zero_add]; exact hall.out i hi, fun _ => by rw [Nat.zero_add, ← d4]; exact q⟩
        have HR := hide hr.rl
        rw [q] at hc
        clear d4 d5 hr
        go_wp2_with fail
        refine hc.mono ?_
        rintro e w3 ⟨rfl, b3⟩
        go_wp2_with fail
        go_ret
        exact ⟨by rw [← HR.out]; rfl, hb2.trans (b3.mono hz2)⟩
      · have HD := hide (d5 (by rw [← d4]; exact q))
        rw [q] at hc
        clear d4 d5
        go_wp2_with fail
        refine hc.mono ?_
        rintro e w3 ⟨rfl, b3⟩
        have hit3 : w3.heap[w.heap.size]? = some (.stringIter s (pos + wd)) := (b3.block _ (Array.getElem?_eq_some_iff.1 hit2).1).trans hit2
        go_wp2_with fail
        go_roundw
        case rel =>
          refine ⟨pos + wd, by omega, hit3, hb2.trans (b3.mono hz2), fun i hi => ?_⟩
          by_cases h : i < pos
          · exact hall.out i h
          · have := HD.out (i - pos) (by omega)
            rwa [show pos + (i - pos) = i by omega] at this
        case measure =>
          simp only [World.iterPos, hit3, hit]
          omega
    · have hnx : ∀ ty, (Instr.next (.pointer (some ⟨w.heap.size, 0, none⟩)) true ty).run Tryz.prog wr = _ := fun ty => Lib.run_next_end_at wr w.heap.size s pos ty hit hlt
      have hr : Run p s 0 s.size := ⟨by omega, fun i hi => by rw [Nat.zero_add]; exact hall.out i (by omega), fun h => by omega⟩
      have HR := hide hr.rl
      clear hr
      go_wp2_with fail
      go_ret
      exact ⟨by rw [← HR.out]; rfl, hb⟩


set_option maxHeartbeats 1000000 in
set_option maxRecDepth 100000 in
theorem iRun86 (p : Nat → Bool) (hf : ClassFn 148 p) (hp : ∀ c, 128 ≤ c → p c = p 128) (s : ByteArray) (w : World) :
    Calls Tryz.prog 142 #[.string s, .func (.func 148) #[] #[]] w fun e w' => e = .returned (.int .i64 (rl p s 0)) ∧ Below w.heap.size w w' := by
  go_enter Tryz.func142, Tryz.ntmps142
  go_wp2_with fail
  go_loopw [5, 6] (fun _ _ wr => ∃ pos : Nat, pos ≤ s.size ∧ wr.heap[w.heap.size]? = some (.stringIter s pos) ∧ Below w.heap.size w wr ∧ Hid (∀ i, i < pos → p (bt s i) = true)) (fun _ _ wr => s.size - wr.iterPos w.heap.size)
  case atStart => exact ⟨0, Nat.zero_le _, heap_new w _, below_alloc1 _ _, fun i hi => by omega⟩
  case round =>
    obtain ⟨pos, hpos, hit, hb, hall⟩ := hrel
    by_cases hlt : pos < s.size
    · have hnx : ∀ ty, (Instr.next (.pointer (some ⟨w.heap.size, 0, none⟩)) true ty).run Tryz.prog wr = _ := fun ty => Lib.run_next_any_at wr w.heap.size s pos ty hit hlt
      have hD : (Utf8.decode s pos).1 ≤ 2147483647 ∧ 1 ≤ (Utf8.decode s pos).2 ∧ pos + (Utf8.decode s pos).2 ≤ s.size ∧ p (Utf8.decode s pos).1 = p (bt s pos) ∧ (p (bt s pos) = true → ∀ j, j < (Utf8.decode s pos).2 → p (bt s (pos + j)) = true) := by
        by_cases hl : bt s pos < 128
        · rw [dec_low hlt hl]
          refine ⟨by simp only; omega, Nat.le_refl _, by simp only; omega, rfl, fun h j hj => ?_⟩
          simp only at hj
          obtain rfl : j = 0 := by omega
          exact h
        · obtain ⟨h1, h2, h3, h4, h5⟩ := dec_high hlt (by omega)
          refine ⟨by omega, h3, h4, (hp _ h1).trans (hp (bt s pos) (by omega)).symm, fun h j hj => ?_⟩
          rcases Nat.eq_zero_or_pos j with rfl | h0
          · exact h
          · rw [hp _ (h5 j h0 hj), ← hp (bt s pos) (by omega)]; exact h
      obtain ⟨d1, d2, d3, d4, d5⟩ := hD
      generalize (Utf8.decode s pos).1 = c at *
      generalize (Utf8.decode s pos).2 = wd at *
      have hit2 := Lib.iterAt_heap wr w.heap.size s pos (pos + wd) hit
      have hb2 := Lib.below_iterAt hb (k := w.heap.size) (Nat.le_refl _) s (pos + wd)
      have hz2 := hb2.size
      have hc := hf c (wr.iterAt w.heap.size s (pos + wd)) d1
      rcases q : p c with _ | _
      · have hr : Run p s 0 pos := ⟨by omega, fun i hi => by rw [Nat.zero_add]; exact hall.out i hi, fun _ => by rw [Nat.zero_add, ← d4]; exact q⟩
        have HR := hide hr.rl
        rw [q] at hc
        clear d4 d5 hr
        go_wp2_with fail
        refine hc.mono ?_
        rintro e w3 ⟨rfl, b3⟩
        go_wp2_with fail
        go_ret
        exact ⟨by rw [← HR.out]; rfl, hb2.trans (b3.mono hz2)⟩
      · have HD := hide (d5 (by rw [← d4]; exact q))
        rw [q] at hc
        clear d4 d5
        go_wp2_with fail
        refine hc.mono ?_
        rintro e w3 ⟨rfl, b3⟩
        have hit3 : w3.heap[w.heap.size]? = some (.stringIter s (pos + wd)) := (b3.block _ (Array.getElem?_eq_some_iff.1 hit2).1).trans hit2
        go_wp2_with fail
        go_roundw
        case rel =>
          refine ⟨pos + wd, by omega, hit3, hb2.trans (b3.mono hz2), fun i hi => ?_⟩
          by_cases h : i < pos
          · exact hall.out i h
          · have := HD.out (i - pos) (by omega)
            rwa [show pos + (i - pos) = i by omega] at this
        case measure =>
          simp only [World.iterPos, hit3, hit]
          omega
    · have hnx : ∀ ty, (Instr.next (.pointer (some ⟨w.heap.size, 0, none⟩)) true ty).run Tryz.prog wr = _ := fun ty => Lib.run_next_end_at wr w.heap.size s pos ty hit hlt
      have hr : Run p s 0 s.size := ⟨by omega, fun i hi => by rw [Nat.zero_add]; exact hall.out i (by omega), fun h => by omega⟩
      have HR := hide hr.rl
      clear hr
      go_wp2_with fail
      go_ret
      exact ⟨by rw [← HR.out]; rfl, hb⟩


set_option maxHeartbeats 1000000 in
set_option maxRecDepth 100000 in
theorem iRun68 (p : Nat → Bool) (hf : ClassFn 116 p) (hp : ∀ c, 128 ≤ c → p c = p 128) (s : ByteArray) (w : World) :
    Calls Tryz.prog 142 #[.string s, .func (.func 116) #[] #[]] w fun e w' => e = .returned (.int .i64 (rl p s 0)) ∧ Below w.heap.size w w' := by
  go_enter Tryz.func142, Tryz.ntmps142
  go_wp2_with fail
  go_loopw [5, 6] (fun _ _ wr => ∃ pos : Nat, pos ≤ s.size ∧ wr.heap[w.heap.size]? = some (.stringIter s pos) ∧ Below w.heap.size w wr ∧ Hid (∀ i, i < pos → p (bt s i) = true)) (fun _ _ wr => s.size - wr.iterPos w.heap.size)
  case atStart => exact ⟨0, Nat.zero_le _, heap_new w _, below_alloc1 _ _, fun i hi => by omega⟩
  case round =>
    obtain ⟨pos, hpos, hit, hb, hall⟩ := hrel
    by_cases hlt : pos < s.size
    · have hnx : ∀ ty, (Instr.next (.pointer (some ⟨w.heap.size, 0, none⟩)) true ty).run Tryz.prog wr = _ := fun ty => Lib.run_next_any_at wr w.heap.size s pos ty hit hlt
      have hD : (Utf8.decode s pos).1 ≤ 2147483647 ∧ 1 ≤ (Utf8.decode s pos).2 ∧ pos + (Utf8.decode s pos).2 ≤ s.size ∧ p (Utf8.decode s pos).1 = p (bt s pos) ∧ (p (bt s pos) = true → ∀ j, j < (Utf8.decode s pos).2 → p (bt s (pos + j)) = true) := by
        by_cases hl : bt s pos < 128
        · rw [dec_low hlt hl]
          refine ⟨by simp only; omega, Nat.le_refl _, by simp only; omega, rfl, fun h j hj => ?_⟩
          simp only at hj
          obtain rfl : j = 0 := by omega
          exact h
        · obtain ⟨h1, h2, h3, h4, h5⟩ := dec_high hlt (by omega)
          refine ⟨by omega, h3, h4, (hp _ h1).trans (hp (bt s pos) (by omega)).symm, fun h j hj => ?_⟩
          rcases Nat.eq_zero_or_pos j with rfl | h0
          · exact h
          · rw [hp _ (h5 j h0 hj), ← hp (bt s pos) (by omega)]; exact h
      obtain ⟨d1, d2, d3, d4, d5⟩ := hD
      generalize (Utf8.decode s pos).1 = c at *
      generalize (Utf8.decode s pos).2 = wd at *
      have hit2 := Lib.iterAt_heap wr w.heap.size s pos (pos + wd) hit
      have hb2 := Lib.below_iterAt hb (k := w.heap.size) (Nat.le_refl _) s (pos + wd)
      have hz2 := hb2.size
      have hc := hf c (wr.iterAt w.heap.size s (pos + wd)) d1
      rcases q : p c with _ | _
      · have hr : Run p s 0 pos := ⟨by omega, fun i hi => by rw [Nat.zero_add]; exact hall.out i hi, fun _ => by rw [Nat.zero_add, ← d4]; exact q⟩
        have HR := hide hr.rl
        rw [q] at hc
        clear d4 d5 hr
        go_wp2_with fail
        refine hc.mono ?_
        rintro e w3 ⟨rfl, b3⟩
        go_wp2_with fail
        go_ret
        exact ⟨by rw [← HR.out]; rfl, hb2.trans (b3.mono hz2)⟩
      · have HD := hide (d5 (by rw [← d4]; exact q))
        rw [q] at hc
        clear d4 d5
        go_wp2_with fail
        refine hc.mono ?_
        rintro e w3 ⟨rfl, b3⟩
        have hit3 : w3.heap[w.heap.size]? = some (.stringIter s (pos + wd)) := (b3.block _ (Array.getElem?_eq_some_iff.1 hit2).1).trans hit2
        go_wp2_with fail
        go_roundw
        case rel =>
          refine ⟨pos + wd, by omega, hit3, hb2.trans (b3.mono hz2), fun i hi => ?_⟩
          by_cases h : i < pos
          · exact hall.out i h
          · have := HD.out (i - pos) (by omega)
            rwa [show pos + (i - pos) = i by omega] at this
        case measure =>
          simp only [World.iterPos, hit3, hit]
          omega
    · have hnx : ∀ ty, (Instr.next (.pointer (some ⟨w.heap.size, 0, none⟩)) true ty).run Tryz.prog wr = _ := fun ty => Lib.run_next_end_at wr w.heap.size s pos ty hit hlt
      have hr : Run p s 0 s.size := ⟨by omega, fun i hi => by rw [Nat.zero_add]; exact hall.out i (by omega), fun h => by omega⟩
      have HR := hide hr.rl
      clear hr
      go_wp2_with fail
      go_ret
      exact ⟨by rw [← HR.out]; rfl, hb⟩


theorem high_ins : ∀ c, 128 ≤ c → ins c = ins 128 := fun c h => by
  rw [show ins 128 = false from rfl]
  simp [ins, sml, cap, dig]; omega
theorem high_dig : ∀ c, 128 ≤ c → dig c = dig 128 := fun c h => by
  rw [show dig 128 = false from rfl]
  simp [dig]; omega
theorem high_line : ∀ c, 128 ≤ c → (c != 10) = ((128 : Nat) != 10) := fun c h => by
  have : (c != 10) = true := by simp; omega
  rw [this]; rfl
theorem high_sym : ∀ c, 128 ≤ c → sym c = sym 128 := fun c h => by
  rw [show sym 128 = false from rfl]
  simp [sym]; omega

end Go.Proofs.YtjfoagmenehapaaGreatDoor

namespace Go.Proofs.YtjfoagmenehapaaGreatDoor
open Go.RowKit Go.Joins

/-- What the model's reader of one token leaves. -/
def TokPost (s : ByteArray) (a b : Nat) (x4 x5 x6 : Value) (n : Nat) (T : List To) (w : World) (e : Ending) (w' : World) : Prop :=
  match tok s a with
  | .bad c => e = .returned (.bool false) ∧ Lx w' b s a (pl s a) (pc s a) (.int .i64 c) (.int .i64 (pl s a)) (.int .i64 (pc s a)) (.slice none 0 0) ∧ Below b w w'
  | .ok k t m => e = .returned (.bool true) ∧ (∃ ao' cap', Lx w' b s (a + m) (pl s (a + m)) (pc s (a + m)) x4 x5 x6 (.slice ao' (n + 1) cap') ∧ TR (b + 1) w' ao' cap' (n + 1) (T ++ [⟨k, t, pl s a, pc s a⟩])) ∧ Below b w w'

theorem TokPost.bad {s : ByteArray} {a b c : Nat} {x4 x5 x6 : Value} {n : Nat} {T : List To} {w : World} {e : Ending} {w' : World} (h : tok s a = .bad c) (h1 : e = .returned (.bool false) ∧ Lx w' b s a (pl s a) (pc s a) (.int .i64 c) (.int .i64 (pl s a)) (.int .i64 (pc s a)) (.slice none 0 0) ∧ Below b w w') : TokPost s a b x4 x5 x6 n T w e w' := by
  unfold TokPost; rw [h]; exact h1
theorem TokPost.ok {s : ByteArray} {a b k m : Nat} {t : ByteArray} {x4 x5 x6 : Value} {n : Nat} {T : List To} {w : World} {e : Ending} {w' : World} (h : tok s a = .ok k t m)
    (h1 : e = .returned (.bool true) ∧ (∃ ao' cap', Lx w' b s (a + m) (pl s (a + m)) (pc s (a + m)) x4 x5 x6 (.slice ao' (n + 1) cap') ∧ TR (b + 1) w' ao' cap' (n + 1) (T ++ [⟨k, t, pl s a, pc s a⟩])) ∧ Below b w w') : TokPost s a b x4 x5 x6 n T w e w' := by
  unfold TokPost; rw [h]; exact h1

theorem Lx.below {w w' b s a ln cl x4 x5 x6 x7} {B : Nat} (h : Lx w b s a ln cl x4 x5 x6 x7) (hb : Below B w w') (hB : b < B) : Lx w' b s a ln cl x4 x5 x6 x7 :=
  h.kept (hb.block b hB) hb.size
theorem TR.below {B : Nat} {W W' : World} {ao : Option Addr} {cap n : Nat} {T : List To} (h : TR B W ao cap n T) (k : Below W.heap.size W W') : TR B W' ao cap n T :=
  ⟨h.1, World.ownsRow.kept (row := none) h.2 ⟨k.os, k.tape, k.output, k.size, fun i hi _ => k.block i hi⟩ (by cases (Value.slice ao n cap).ownBlock <;> simp)⟩

set_option maxHeartbeats 4000000 in
set_option maxRecDepth 100000 in
theorem mTokName (b : Nat) (s : ByteArray) (a : Nat) (x4 x5 x6 : Value) (ao : Option Addr) (cp n : Nat) (T : List To) (w : World) (h : Lx w b s a (pl s a) (pc s a) x4 x5 x6 (.slice ao n cp)) (hT : TR (b + 1) w ao cp n T)
    (hl : T.length ≤ 1048576) (hs : s.size ≤ 1048576) (ha : a < s.size) (hn : sml (bt s a) = true ∨ cap (bt s a) = true) :
    Calls Tryz.prog 110 #[.pointer (some ⟨b, 0, none⟩)] w (TokPost s a b x4 x5 x6 n T w) := by
  obtain ⟨c0, c1, c2, c3, c4, c5, c6, c7, fr, lt⟩ := id h
  have ha' : (a : Int) < s.size := by omega
  have HB := hide (bt_in ha)
  have hb0 := bt_le s a
  have HTok : Hid (tok s a = .ok (if word (s.extract a (a + rl ins s a)) = true then 8 else if cap (bt s a) = true then 2 else 1) (s.extract a (a + rl ins s a)) (rl ins s a)) := by
    unfold Hid tok
    rw [if_pos hn]
  have HN := hide hn
  have hrun := rl_run ins s a (by omega)
  have hrle := hrun.le
  clear hn hrun
  go_enter Tryz.func110, Tryz.ntmps110
  go_wp2_with fail
  go_region
  all_goals go_upto_region 4 with fail
  rw [HB.out]
  go_cut [25] (fun s25 wx => s25 = .bool true ∧ wx = w.drew)
  case first =>
    rcases q1 : sml (bt s a) with _ | _
    · have q2 : cap (bt s a) = true := HN.out.resolve_left (by rw [q1]; decide)
      go_wp2_with fail
      refine (mSmall _ _).mono ?_
      rintro e w1 ⟨rfl, hw1⟩
      obtain rfl : w.drew = w1 := hw1.symm
      rw [q1]
      go_wp2_with fail
      refine (mCapital _ _).mono ?_
      rintro e w1 ⟨rfl, hw1⟩
      obtain rfl : w.drew = w1 := hw1.symm
      rw [q2]
      go_wp2_with fail
      go_meet
      case rel => exact ⟨rfl, rfl⟩
    · go_wp2_with fail
      refine (mSmall _ _).mono ?_
      rintro e w1 ⟨rfl, hw1⟩
      obtain rfl : w.drew = w1 := hw1.symm
      rw [q1]
      go_wp2_with fail
      go_meet
      case rel => exact ⟨rfl, rfl⟩
  case rest =>
    obtain ⟨rfl, rfl⟩ := hcut
    generalize hr : rl ins s a = r at *
    obtain ⟨j, hj⟩ : ∃ j, j = a + r := ⟨_, rfl⟩
    have hsum : (a : Int) + (r : Int) = (j : Int) := by omega
    have hjs : (j : Int) ≤ s.size := by omega
    have haj : (a : Int) ≤ j := by omega
    rw [← hj] at HTok hrle
    have HR : Hid (rl ins s a = r) := hr
    have HJ := hide hj
    clear hr hj
    have hTd : TR (b + 1) w.drew ao cp n T := hT.drewN 1
    have hLd : Lx w.drew b s a (pl s a) (pc s a) x4 x5 x6 (.slice ao n cp) := h.drewN 1
    have hBd : Below w.heap.size w w.drew := (Below.refl _ w).drew
    go_upto_region 5 with fail
    go_cut [4] (fun s4 wx => s4 = .int .i64 r ∧ Lx wx b s a (pl s a) (pc s a) x4 x5 x6 (.slice ao n cp) ∧ TR (b + 1) wx ao cp n T ∧ Below w.heap.size w wx)
    case first =>
      go_region_with (go_at_call 131; refine (mRun0 s a _ hs (by omega)).mono ?_; rintro e w1 ⟨⟨r', rfl, hr'⟩, rfl⟩; obtain rfl : r = r' := by rw [hr'.rl]; exact HR.out.symm)
      all_goals
        go_wp2_with fail
        go_meet
        case rel => exact ⟨rfl, hLd.drewN 1, hTd.drewN 1, hBd.drew⟩
    case rest =>
      obtain ⟨rfl, hL5, hT5, hB5⟩ := hcut
      rename World => w5
      clear hTd hLd hBd c0 c1 c2 c3 c4 c5 c6 c7 fr
      obtain ⟨c0, c1, c2, c3, c4, c5, c6, c7, fr, lt5⟩ := id hL5
      go_upto_region 6 with fail
      go_cut [5] (fun s5 wx => s5 = .string (s.extract a j) ∧ Lx wx b s a (pl s a) (pc s a) x4 x5 x6 (.slice ao n cp) ∧ TR (b + 1) wx ao cp n T ∧ Below w.heap.size w wx)
      case first =>
        go_region
        all_goals
          go_wp2_with fail
          go_meet
          case rel => exact ⟨rfl, hL5.drewN 1, hT5.drewN 1, hB5.drew⟩
      case rest =>
        obtain ⟨rfl, hL6, hT6, hB6⟩ := hcut
        rename World => w6
        clear c0 c1 c2 c3 c4 c5 c6 c7 fr
        have hput : ∀ k w7, Below w6.heap.size w6 w7 → Hid (tok s a = .ok k (s.extract a j) r) → Calls Tryz.prog 135 #[.pointer (some ⟨b, 0, none⟩), .int .i64 (k : Nat), .string (s.extract a j), .int .i64 r] w7 fun e w' => e = .returned (.tuple #[]) ∧ TokPost s a b x4 x5 x6 n T w (.returned (.bool true)) w' := fun k w7 b7 ht => by
          have z6 := hB6.size
          have z7 := b7.size
          refine (mPut b s a r x4 x5 x6 ao cp n T k (s.extract a j) w7 (hL6.below b7 hL6.lt) (hT6.below b7) hl hs (by rw [← HJ.out]; exact hrle)).mono ?_
          rintro e w8 ⟨rfl, h8, b8⟩
          exact ⟨rfl, TokPost.ok ht.out ⟨rfl, h8, ((hB6.mono (Nat.le_of_lt lt)).trans (b7.mono (by omega))).trans b8⟩⟩
        have HP := hide hput
        clear hput
        rcases q2 : cap (bt s a) with _ | _
        · go_wp2_with fail
          refine (mCapital _ _).mono ?_
          rintro e w1 ⟨rfl, hw1⟩
          obtain rfl : w6 = w1 := hw1.symm
          rw [q2]
          go_wp2_with fail
          refine (mWord _ _).mono ?_
          rintro e w7 ⟨rfl, b7⟩
          rcases q3 : word (s.extract a j) with _ | _
          · have HT2 : Hid (tok s a = .ok 1 (s.extract a j) r) := by have := HTok.out; rw [q2, q3] at this; simpa [Hid] using this
            go_wp2_with fail
            refine (HP.out 1 w7 b7 HT2).mono ?_
            rintro e w8 ⟨rfl, h8⟩
            go_wp2_with fail
            go_ret
            exact h8
          · have HT2 : Hid (tok s a = .ok 8 (s.extract a j) r) := by have := HTok.out; rw [q2, q3] at this; simpa [Hid] using this
            go_wp2_with fail
            refine (HP.out 8 w7 b7 HT2).mono ?_
            rintro e w8 ⟨rfl, h8⟩
            go_wp2_with fail
            go_ret
            exact h8
        · go_wp2_with fail
          refine (mCapital _ _).mono ?_
          rintro e w1 ⟨rfl, hw1⟩
          obtain rfl : w6 = w1 := hw1.symm
          rw [q2]
          go_wp2_with fail
          refine (mWord _ _).mono ?_
          rintro e w7 ⟨rfl, b7⟩
          rcases q3 : word (s.extract a j) with _ | _
          · have HT2 : Hid (tok s a = .ok 2 (s.extract a j) r) := by have := HTok.out; rw [q2, q3] at this; simpa [Hid] using this
            go_wp2_with fail
            refine (HP.out 2 w7 b7 HT2).mono ?_
            rintro e w8 ⟨rfl, h8⟩
            go_wp2_with fail
            go_ret
            exact h8
          · have HT2 : Hid (tok s a = .ok 8 (s.extract a j) r) := by have := HTok.out; rw [q2, q3] at this; simpa [Hid] using this
            go_wp2_with fail
            refine (HP.out 8 w7 b7 HT2).mono ?_
            rintro e w8 ⟨rfl, h8⟩
            go_wp2_with fail
            go_ret
            exact h8

end Go.Proofs.YtjfoagmenehapaaGreatDoor

