import Derived.Test.YtmnligaelihmiaaMa
namespace Go.Proofs.Ytmnligaelihmiaa.Gr
variable {e : List (List Int)} {of : Nat → Nat} {m : Nat} {l : List Nat}
theorem num_ex (com : Nat → Nat) : ∀ k, ∃ of m nb, NumI com k of m nb
  | 0 => ⟨fun _ => 0, 0, _, NumI.start⟩
  | k + 1 => by
    obtain ⟨of, m, nb, h⟩ := num_ex com k
    cases h0 : nb (com k) with
    | zero => exact ⟨_, _, _, h.new h0⟩
    | succ g => exact ⟨_, _, _, (h.old (g := g) h0).2⟩
/-- things fall into groups -/
theorem part_ex (e : List (List Int)) : ∃ of m, Part e of m := by
  classical
  have hex : ∀ x, ∃ y, (Rt e x y ∧ Rt e y x) ∧ ∀ z, z < y → ¬ (Rt e x z ∧ Rt e z x) := fun x => least_of (Q := fun y => Rt e x y ∧ Rt e y x) (n := x) ⟨.refl, .refl⟩
  obtain ⟨com, hcom⟩ : ∃ com : Nat → Nat, ∀ x, (Rt e x (com x) ∧ Rt e (com x) x) ∧ ∀ z, z < com x → ¬ (Rt e x z ∧ Rt e z x) := ⟨fun x => Classical.choose (hex x), fun x => Classical.choose_spec (hex x)⟩
  obtain ⟨of, m, nb, h⟩ := num_ex com e.length
  refine ⟨of, m, h.part (fun x y _ _ => ⟨fun e1 => ?_, fun hxy => ?_⟩)⟩
  · have h1 := (hcom x).1; have h2 := (hcom y).1
    rw [e1] at h1
    exact ⟨h1.1.trans h2.2, h2.1.trans h1.2⟩
  · rcases Nat.lt_trichotomy (com x) (com y) with c | c | c
    · exact absurd ⟨hxy.2.trans (hcom x).1.1, (hcom x).1.2.trans hxy.1⟩ ((hcom y).2 _ c)
    · exact c
    · exact absurd ⟨hxy.1.trans (hcom y).1.1, (hcom y).1.2.trans hxy.2⟩ ((hcom x).2 _ c)
/-- the model's question whether two things are of one group -/
theorem one_iff (hp : Part e of m) {i k : Nat} (hi : i < e.length) (hk : k < e.length) : (k = i ∨ Ld e i k ∧ Ld e k i) ↔ of k = of i := by
  rw [hp.eq k i hk hi]
  constructor
  · rintro (rfl | ⟨a, b⟩)
    · exact ⟨.refl, .refl⟩
    · exact ⟨b.rt, a.rt⟩
  · rintro ⟨a, b⟩
    rcases a.ld with e1 | a
    · exact .inl e1
    · rcases b.ld with e1 | b
      · exact .inl e1.symm
      · exact .inr ⟨b, a⟩
/-- what the model's inner loop asks -/
theorem ask_iff (hp : Part e of m) {i : Nat} (hi : i < e.length) (P : Nat → Prop) : (∀ k, k < e.length → of k ≠ of i → Ld e i k → P k) ↔ mrdy e P i := by
  constructor
  · intro h k hk hn hr
    rcases hr.ld with e1 | e1
    · subst e1; exact absurd ⟨Rt.refl, Rt.refl⟩ hn
    · exact h k hk (fun e2 => hn ((hp.eq i k hi hk).1 e2.symm)) e1
  · intro h k hk hn hl
    exact h k hk (fun e2 => hn ((hp.eq i k hi hk).2 e2).symm) hl.rt
/-- how many are placed -/
def dn (n : Nat) (of : Nat → Nat) (l : List Nat) : Nat := ((List.range n).filter (fun t => decide (of t ∈ l))).length
theorem dn_nil (n : Nat) (of : Nat → Nat) : dn n of [] = 0 := by simp [dn]
theorem dn_snoc {n g : Nat} (h : g ∉ l) : dn n of (l ++ [g]) = dn n of l + (gm of n g).length := by
  unfold dn gm
  induction n with
  | zero => rfl
  | succ n ih =>
    rw [List.range_succ, List.filter_append, List.filter_append, List.filter_append, List.length_append, List.length_append, List.length_append, ih]
    by_cases h1 : of n = g
    · have h2 : of n ∉ l := by rw [h1]; exact h
      simp [h1, h]; omega
    · by_cases h2 : of n ∈ l <;> simp [h1, h2] <;> omega
theorem dn_le (n : Nat) (of : Nat → Nat) (l : List Nat) : dn n of l ≤ n := by
  have := List.length_filter_le (fun t => decide (of t ∈ l)) (List.range n)
  rw [List.length_range] at this
  exact this
/-- all are placed -/
theorem dn_all {n : Nat} (h : n ≤ dn n of l) : ∀ t, t < n → of t ∈ l := by
  have h1 : ((List.range n).filter (fun t => decide (of t ∈ l))).length = (List.range n).length := by
    have := dn_le n of l
    unfold dn at this h
    rw [List.length_range]; omega
  have h2 := List.length_filter_eq_length_iff.1 h1
  exact fun t ht => by simpa using h2 t (List.mem_range.2 ht)
theorem dn_some {n : Nat} (h : dn n of l < n) : ∃ t, t < n ∧ of t ∉ l := by
  apply Classical.byContradiction
  intro hc
  have h2 : ∀ t, t < n → of t ∈ l := fun t ht => Classical.byContradiction (fun h3 => hc ⟨t, ht, h3⟩)
  have h3 : ((List.range n).filter (fun t => decide (of t ∈ l))).length = (List.range n).length := List.length_filter_eq_length_iff.2 (fun t ht => by simpa using h2 t (List.mem_range.1 ht))
  unfold dn at h
  rw [h3, List.length_range] at h
  omega
end Go.Proofs.Ytmnligaelihmiaa.Gr
