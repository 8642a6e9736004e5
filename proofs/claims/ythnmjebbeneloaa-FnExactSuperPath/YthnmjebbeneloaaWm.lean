import Derived.Test.YthnmjebbeneloaaWl
namespace Go.Proofs.Ythnmjebbeneloaa

theorem nodup_len {β : Type} [DecidableEq β] : ∀ (L U : List β), L.Nodup → (∀ a ∈ L, a ∈ U) → L.length ≤ U.length
  | [], _, _, _ => Nat.zero_le _
  | a :: L, U, hn, hs => by
    have ha := hs a List.mem_cons_self
    have h2 := nodup_len L (U.erase a) (List.nodup_cons.1 hn).2 (fun b hb => by
      have hne : b ≠ a := fun e => (List.nodup_cons.1 hn).1 (e ▸ hb)
      exact (List.mem_erase_of_ne hne).2 (hs b (List.mem_cons_of_mem _ hb)))
    have h3 := List.length_erase_of_mem ha
    have h4 := List.length_pos_of_mem ha
    rw [List.length_cons]
    omega

theorem fresh_all {β : Type} [DecidableEq β] : ∀ (ps : List β) (s : List β) (p : β), p ∈ ps → p ∈ s ∨ p ∈ fresh s ps
  | p :: ps, s, q, hq => by
    by_cases hp : p ∈ s
    · simp only [fresh, if_pos hp]
      rcases List.mem_cons.1 hq with rfl | hq
      · exact .inl hp
      · exact fresh_all ps s q hq
    · simp only [fresh, if_neg hp, List.mem_cons]
      rcases List.mem_cons.1 hq with rfl | hq
      · exact .inr (.inl rfl)
      · rcases fresh_all ps (p :: s) q hq with h | h
        · rcases List.mem_cons.1 h with h | h
          · exact .inr (.inl h)
          · exact .inl h
        · exact .inr (.inr h)

theorem levN_nodup {β : Type} [DecidableEq β] (sup : β → List β) (x : β) : ∀ n, ((levN sup x n).2 ++ (levN sup x n).1).Nodup
  | 0 => by simp [levN]
  | n + 1 => by
    show ((_ : List β) ++ fresh _ _).Nodup
    rw [List.nodup_append]
    exact ⟨levN_nodup sup x n, fresh_nodup _ _, fun a ha b hb e => (fresh_sub _ _ b hb).2 (e ▸ ha)⟩

theorem levN_in {β : Type} [DecidableEq β] (sup : β → List β) (x : β) (U : List β) (hU : ∀ a b, b ∈ sup a → b ∈ U) : ∀ n, ∀ a ∈ (levN sup x n).2 ++ (levN sup x n).1, a ∈ x :: U
  | 0, a, h => by
    have e : a = x := by simpa [levN] using h
    rw [e]
    exact List.mem_cons_self
  | n + 1, a, h => by
    rcases List.mem_append.1 h with h | h
    · exact levN_in sup x U hU n a h
    · obtain ⟨b, -, hb⟩ := List.mem_flatMap.1 (fresh_sub _ _ a h).1
      exact List.mem_cons_of_mem _ (hU b a hb)

theorem levN_len {β : Type} [DecidableEq β] (sup : β → List β) (x : β) (U : List β) (hU : ∀ a b, b ∈ sup a → b ∈ U) (n : Nat) : (levN sup x n).2.length + (levN sup x n).1.length ≤ U.length + 1 := by
  have h := nodup_len _ (x :: U) (levN_nodup sup x n) (levN_in sup x U hU n)
  rwa [List.length_append, List.length_cons] at h

theorem levN_far {β : Type} [DecidableEq β] (sup : β → List β) (x : β) : ∀ n, (levN sup x n).1 ≠ [] → n ≤ (levN sup x n).2.length
  | 0, _ => Nat.zero_le _
  | n + 1, h => by
    have hne : (levN sup x n).1 ≠ [] := fun e => h (by
      have := levN_nil sup x e 1
      exact this)
    have h1 := levN_far sup x n hne
    have h2 := List.length_pos_iff.2 hne
    show n + 1 ≤ ((levN sup x n).2 ++ (levN sup x n).1).length
    rw [List.length_append]
    omega

/-- One more is gone through. -/
theorem fresh_snoc {β : Type} [DecidableEq β] (s ps : List β) (y : β) : fresh s (ps ++ [y]) = if y ∈ s ++ fresh s ps then fresh s ps else fresh s ps ++ [y] := by
  rw [fresh_append, fresh_one]
  split
  · rw [List.append_nil]
  · rfl

end Go.Proofs.Ythnmjebbeneloaa
