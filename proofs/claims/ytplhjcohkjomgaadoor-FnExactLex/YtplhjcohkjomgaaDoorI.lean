import Derived.Test.YtplhjcohkjomgaaDoorH
namespace Go.Proofs.YtplhjcohkjomgaaDoor
open Go.RowKit Go.Joins

/-- What a byte means behind a backslash. -/
def esc (c : Nat) : Option UInt8 := if c = 110 then some 10 else if c = 92 then some 92 else if c = 39 then some 39 else if c = 34 then some 34 else none

/-- What is meant from a place on up to the mark m, and the place behind it. -/
def quo (s : ByteArray) (m : Nat) (i : Nat) (out : List UInt8) : Option (List UInt8 × Nat) :=
  if s.size ≤ i then none
  else if bt s i = m then some (out, i + 1)
  else if bt s i < 32 ∨ 126 < bt s i then none
  else if bt s i = 92 then
    (if s.size ≤ i + 1 then none else match esc (bt s (i + 1)) with
      | none => none
      | some c => quo s m (i + 2) (out ++ [c]))
  else quo s m (i + 1) (out ++ [UInt8.ofNat (bt s i)])
termination_by s.size - i
decreasing_by all_goals omega

theorem quo_gt {s : ByteArray} {m : Nat} (i : Nat) (out : List UInt8) (t : List UInt8) (j : Nat) (h : quo s m i out = some (t, j)) : i < j ∧ j ≤ s.size ∧ t.length ≤ out.length + (j - i - 1) := by
  rw [quo] at h
  split at h
  · cases h
  · split at h
    · cases h; omega
    · split at h
      · cases h
      · split at h
        · split at h
          · cases h
          · split at h
            · cases h
            · rename_i c _
              have := quo_gt (i + 2) (out ++ [c]) t j h
              simp only [List.length_append, List.length_cons, List.length_nil] at this
              omega
        · have := quo_gt (i + 1) (out ++ [UInt8.ofNat (bt s i)]) t j h
          simp only [List.length_append, List.length_cons, List.length_nil] at this
          omega
termination_by s.size - i
decreasing_by all_goals omega

/-- What is read at a place. -/
inductive Tk where
  | ok (kind : Nat) (text : ByteArray) (n : Nat)
  | bad (code : Nat)

def tok (s : ByteArray) (a : Nat) : Tk :=
  if sml (bt s a) = true ∨ cap (bt s a) = true then
    .ok (if word (s.extract a (a + rl ins s a)) = true then 8 else if cap (bt s a) = true then 2 else 1) (s.extract a (a + rl ins s a)) (rl ins s a)
  else if dig (bt s a) = true then
    (if 300 < rl dig s a ∨ 1 < rl dig s a ∧ bt s a = 48 then .bad 3 else .ok 5 (s.extract a (a + rl dig s a)) (rl dig s a))
  else if bt s a = 39 ∨ bt s a = 34 then
    (match quo s (bt s a) (a + 1) [] with
      | none => .bad 4
      | some (t, j) => if bt s a = 39 ∧ t.length ≠ 1 then .bad 4 else .ok (if bt s a = 39 then 6 else 7) ⟨t.toArray⟩ (j - a))
  else if sym (bt s a) = true then
    .ok (if mark (s.extract a (a + rl sym s a)) = true then 9 else if bt s a = 58 then 4 else 3) (s.extract a (a + rl sym s a)) (rl sym s a)
  else if spc (bt s a) = true then .ok 10 ⟨#[UInt8.ofNat (bt s a)]⟩ 1
  else .bad 1

theorem rl_pos {p : Nat → Bool} {s : ByteArray} {a : Nat} (ha : a < s.size) (h : p (bt s a) = true) : 0 < rl p s a := by
  rw [rl, if_neg (by omega), if_pos h]; omega

theorem ins_of {c : Nat} (h : sml c = true ∨ cap c = true) : ins c = true := by
  unfold ins
  rcases h with h | h <;> rw [h] <;> simp

theorem tok_len {s : ByteArray} {a k n : Nat} {t : ByteArray} (ha : a < s.size) (h : tok s a = .ok k t n) : 0 < n ∧ a + n ≤ s.size ∧ t.size ≤ s.size := by
  unfold tok at h
  have hx : ∀ p : Nat → Bool, p (bt s a) = true → 0 < rl p s a ∧ a + rl p s a ≤ s.size ∧ (s.extract a (a + rl p s a)).size ≤ s.size := fun p hp =>
    ⟨rl_pos ha hp, (rl_run p s a (by omega)).le, by rw [ByteArray.size_extract]; omega⟩
  split at h
  · rename_i h1
    cases h
    exact hx ins (ins_of h1)
  · split at h
    · rename_i h2
      split at h
      · cases h
      · cases h
        exact hx dig h2
    · split at h
      · split at h
        · cases h
        · rename_i t' j hq
          split at h
          · cases h
          · cases h
            have := quo_gt _ _ _ _ hq
            have e : (⟨t'.toArray⟩ : ByteArray).size = t'.length := by simp [ByteArray.size]
            simp only [List.length_nil] at this
            rw [e]
            omega
      · split at h
        · rename_i h4
          cases h
          exact hx sym h4
        · split at h
          · cases h
            have e : (⟨#[UInt8.ofNat (bt s a)]⟩ : ByteArray).size = 1 := rfl
            rw [e]
            omega
          · cases h

theorem blank_ge (s : ByteArray) (a : Nat) (ha : a ≤ s.size) : a ≤ (blank s a).1 ∧ (blank s a).1 ≤ s.size := by
  rw [blank]
  split
  · exact ⟨Nat.le_refl _, ha⟩
  · split
    · have := blank_ge s (a + 1) (by omega)
      omega
    · split
      · split
        · exact ⟨Nat.le_refl _, ha⟩
        · rename_i j h2
          have h3 := nest_gt _ _ _ h2
          have := blank_ge s j (by omega)
          omega
      · split
        · rename_i h3
          have h4 := dash_pos (by omega) h3
          have := blank_ge s (a + eol s a) (by omega)
          omega
        · exact ⟨Nat.le_refl _, ha⟩
termination_by s.size - a
decreasing_by
  · omega
  · omega
  · omega

/-- A token: kind, text, line, column. -/
structure To where
  kind : Nat
  text : ByteArray
  line : Nat
  col : Nat

def To.cells (t : To) : List Value := [.int .i64 t.kind, .string t.text, .int .i64 t.line, .int .i64 t.col]

/-- The tokens from a place on, and how it ends: a code (0: well) and the place. -/
def lexF (s : ByteArray) (a : Nat) : List To × Nat × Nat :=
  if _h : s.size < a then ([], 0, a)
  else if (blank s a).2 = false then ([], 2, (blank s a).1)
  else if _h2 : s.size ≤ (blank s a).1 then ([], 0, (blank s a).1)
  else match _h3 : tok s (blank s a).1 with
    | .bad c => ([], c, (blank s a).1)
    | .ok k t n => (⟨k, t, pl s (blank s a).1, pc s (blank s a).1⟩ :: (lexF s ((blank s a).1 + n)).1, (lexF s ((blank s a).1 + n)).2)
termination_by s.size - a
decreasing_by
  all_goals
    have h4 := tok_len (by omega) _h3
    have h5 := blank_ge s a (by omega)
    omega

end Go.Proofs.YtplhjcohkjomgaaDoor
