import Derived.Test.YtplhjcohkjomgaaDoorE
namespace Go.Proofs.YtplhjcohkjomgaaDoor
open Go.RowKit Go.Joins

/-- How many bytes from a place on are of a class. -/
def rl (p : Nat → Bool) (s : ByteArray) (a : Nat) : Nat :=
  if s.size ≤ a then 0 else if p (bt s a) = true then rl p s (a + 1) + 1 else 0
termination_by s.size - a
decreasing_by all_goals omega

theorem rl_run (p : Nat → Bool) (s : ByteArray) (a : Nat) (ha : a ≤ s.size) : Run p s a (rl p s a) := by
  rw [rl]
  split
  · exact ⟨by omega, fun i hi => by omega, fun h => by omega⟩
  · rename_i h
    split
    · rename_i h1
      have ih := rl_run p s (a + 1) (by omega)
      refine ⟨by have := ih.le; omega, fun i hi => ?_, fun hx => ?_⟩
      · rcases i with _ | i
        · exact h1
        · have := ih.all i (by omega)
          rwa [show a + 1 + i = a + (i + 1) by omega] at this
      · have := ih.stop (by omega)
        rwa [show a + 1 + rl p s (a + 1) = a + (rl p s (a + 1) + 1) by omega] at this
    · rename_i h1
      exact ⟨by omega, fun i hi => by omega, fun _ => Bool.eq_false_iff.2 h1⟩
termination_by s.size - a
decreasing_by all_goals omega

theorem Run.rl {p s a n} (h : Run p s a n) : n = rl p s a := h.unique (rl_run p s a (by have := h.le; omega))

theorem nest_gt {s : ByteArray} (i d j : Nat) (h : nest s i d = some j) : i < j ∧ j ≤ s.size := by
  rw [nest] at h
  split at h
  · cases h
  · split at h
    · rename_i h1
      have := nest_gt (i + 2) (d + 1) j h
      omega
    · split at h
      · rename_i h1
        have h2 := two_le h1
        split at h
        · cases h; omega
        · have := nest_gt (i + 2) (d - 1) j h
          omega
      · have := nest_gt (i + 1) d j h
        omega
termination_by s.size - i
decreasing_by all_goals omega

/-- Dashes alone, two at least: a comment up to the line's end. -/
def dash (s : ByteArray) (a : Nat) : Bool := decide (2 ≤ rl (fun c => c == 45) s a) && decide (rl (fun c => c == 45) s a = rl sym s a)
/-- The length up to the line's end. -/
def eol (s : ByteArray) (a : Nat) : Nat := rl (fun c => c != 10) s a

theorem dash_pos {s : ByteArray} {a : Nat} (ha : a ≤ s.size) (h : dash s a = true) : 2 ≤ eol s a ∧ a + eol s a ≤ s.size := by
  unfold dash at h
  simp only [Bool.and_eq_true, decide_eq_true_eq] at h
  have r1 := rl_run (fun c => c == 45) s a ha
  have r2 := rl_run (fun c => c != 10) s a ha
  refine ⟨?_, r2.le⟩
  apply Decidable.byContradiction
  intro hn
  have hl := r1.le
  have k1 := r2.stop (by unfold eol at hn; omega)
  have k2 := r1.all (rl (fun c => c != 10) s a) (by unfold eol at hn; omega)
  simp at k1 k2
  omega

/-- Where blanks and comments end, and whether each comment has its end. -/
def blank (s : ByteArray) (a : Nat) : Nat × Bool :=
  if _h : s.size ≤ a then (a, true)
  else if bt s a = 32 ∨ bt s a = 10 then blank s (a + 1)
  else if two s a 123 45 = true then
    match _h2 : nest s a 0 with
    | none => (a, false)
    | some j => blank s j
  else if _h3 : dash s a = true then blank s (a + eol s a)
  else (a, true)
termination_by s.size - a
decreasing_by
  · omega
  · have := nest_gt _ _ _ _h2; omega
  · have := dash_pos (by omega) _h3; omega

theorem Lx.fail {w b s a ln cl x4 x5 x6 x7} (h : Lx w b s a ln cl x4 x5 x6 x7) (u4 u5 u6 u7 : Value) : Lx ((((w.setCell ⟨b, 4, none⟩ u4).setCell ⟨b, 5, none⟩ u5).setCell ⟨b, 6, none⟩ u6).setCell ⟨b, 7, none⟩ u7) b s a ln cl u4 u5 u6 u7 := by
  obtain ⟨c0, c1, c2, c3, c4, c5, c6, c7, fr, lt⟩ := h
  exact ⟨by simp [go_sem, c0], by simp [go_sem, c1], by simp [go_sem, c2], by simp [go_sem, c3], by simp [go_sem, c4], by simp [go_sem, c5], by simp [go_sem, c6], by simp [go_sem, c7], fun o => by simpa [go_sem] using fr o, by simpa using lt⟩

set_option maxHeartbeats 1000000 in
set_option maxRecDepth 100000 in
theorem mFail (b : Nat) (s : ByteArray) (a : Nat) (ln cl code : Int) (x4 x5 x6 x7 : Value) (w : World) (h : Lx w b s a ln cl x4 x5 x6 x7) :
    Calls Tryd.prog 40 #[.pointer (some ⟨b, 0, none⟩), .int .i64 code] w fun e w' => e = .returned (.tuple #[]) ∧ Lx w' b s a ln cl (.int .i64 code) (.int .i64 ln) (.int .i64 cl) (.slice none 0 0) ∧ Only b w w' := by
  obtain ⟨c0, c1, c2, c3, c4, c5, c6, c7, fr, lt⟩ := id h
  have f4 := fr 4
  have f5 := fr 5
  have f6 := fr 6
  have f7 := fr 7
  go_enter Tryd.func40, Tryd.ntmps40
  go_wp2_with fail
  go_region
  all_goals go_wp2_with fail
  go_end0
  exact ⟨rfl, (h.fail _ _ _ _).drewN 1, ((((Only.setCell w ⟨b, 4, none⟩ _).trans (Only.setCell _ ⟨b, 5, none⟩ _)).trans (Only.setCell _ ⟨b, 6, none⟩ _)).trans (Only.setCell _ ⟨b, 7, none⟩ _)).drewN 1⟩

end Go.Proofs.YtplhjcohkjomgaaDoor
