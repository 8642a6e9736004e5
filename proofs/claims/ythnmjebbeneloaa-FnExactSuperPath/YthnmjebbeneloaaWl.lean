import Derived.Test.YthnmjebbeneloaaWk
namespace Go.Proofs.Ythnmjebbeneloaa

/-- What is new in a list, each once. -/
def fresh {β : Type} [DecidableEq β] : List β → List β → List β
  | _, [] => []
  | seen, y :: ys => if y ∈ seen then fresh seen ys else y :: fresh (y :: seen) ys

theorem freshW_map {β : Type} [DecidableEq β] (x : β) : ∀ (ps : List (List β)) (s : List β), (freshW x s ps).map (wend x) = fresh s (ps.map (wend x))
  | [], _ => rfl
  | p :: ps, s => by
    by_cases hp : wend x p ∈ s
    · simp only [freshW, if_pos hp, List.map_cons, fresh]
      exact freshW_map x ps s
    · simp only [freshW, if_neg hp, List.map_cons, fresh]
      rw [freshW_map x ps]

theorem fresh_cong {β : Type} [DecidableEq β] : ∀ (ps : List β) {s t : List β}, (∀ a, a ∈ s ↔ a ∈ t) → fresh s ps = fresh t ps
  | [], _, _, _ => rfl
  | p :: ps, s, t, h => by
    unfold fresh
    by_cases hp : p ∈ s
    · rw [if_pos hp, if_pos ((h _).1 hp)]
      exact fresh_cong ps h
    · rw [if_neg hp, if_neg (fun k => hp ((h _).2 k))]
      congr 1
      exact fresh_cong ps (fun a => by simp only [List.mem_cons, h a])

theorem fresh_append {β : Type} [DecidableEq β] : ∀ (a b : List β) (s : List β), fresh s (a ++ b) = fresh s a ++ fresh (s ++ fresh s a) b
  | [], b, s => by simp [fresh]
  | p :: a, b, s => by
    by_cases hp : p ∈ s
    · simp only [List.cons_append, fresh, if_pos hp]
      exact fresh_append a b s
    · simp only [List.cons_append, fresh, if_neg hp]
      congr 1
      rw [fresh_append a b]
      congr 1
      refine fresh_cong b (fun c => ?_)
      simp only [List.mem_append, List.mem_cons]
      constructor
      · rintro ((h | h) | h)
        · exact .inr (.inl h)
        · exact .inl h
        · exact .inr (.inr h)
      · rintro (h | h | h)
        · exact .inl (.inr h)
        · exact .inl (.inl h)
        · exact .inr h

theorem fresh_one {β : Type} [DecidableEq β] (s : List β) (y : β) : fresh s [y] = if y ∈ s then [] else [y] := by
  unfold fresh
  split <;> rfl

theorem fresh_sub {β : Type} [DecidableEq β] : ∀ (ps : List β) (s : List β) (p : β), p ∈ fresh s ps → p ∈ ps ∧ p ∉ s
  | q :: ps, s, p, h => by
    by_cases hp : q ∈ s
    · simp only [fresh, if_pos hp] at h
      obtain ⟨h1, h2⟩ := fresh_sub ps s p h
      exact ⟨List.mem_cons_of_mem _ h1, h2⟩
    · simp only [fresh, if_neg hp] at h
      rcases List.mem_cons.1 h with rfl | h
      · exact ⟨List.mem_cons_self, hp⟩
      · obtain ⟨h1, h2⟩ := fresh_sub ps _ p h
        exact ⟨List.mem_cons_of_mem _ h1, fun k => h2 (List.mem_cons_of_mem _ k)⟩

theorem fresh_nodup {β : Type} [DecidableEq β] : ∀ (ps : List β) (s : List β), (fresh s ps).Nodup
  | [], _ => by simp [fresh]
  | q :: ps, s => by
    by_cases hp : q ∈ s
    · simp only [fresh, if_pos hp]
      exact fresh_nodup ps s
    · simp only [fresh, if_neg hp, List.nodup_cons]
      exact ⟨fun h => (fresh_sub ps _ q h).2 List.mem_cons_self, fresh_nodup ps _⟩

/-- Levels of places: those that far away, and all that are nearer. -/
def levN {β : Type} [DecidableEq β] (sup : β → List β) (x : β) : Nat → List β × List β
  | 0 => ([x], [])
  | n + 1 => (fresh ((levN sup x n).2 ++ (levN sup x n).1) ((levN sup x n).1.flatMap sup), (levN sup x n).2 ++ (levN sup x n).1)

theorem ext_ends {β : Type} (sup : β → List β) (x : β) : ∀ L : List (List β), (L.flatMap (ext sup x)).map (wend x) = (L.map (wend x)).flatMap sup
  | [] => rfl
  | p :: L => by
    simp only [List.flatMap_cons, List.map_append, List.map_cons, ext_ends sup x L]
    congr 1
    unfold ext
    rw [List.map_map]
    have e : (wend x ∘ fun s => p ++ [s]) = id := by funext s; exact wend_snoc x p s
    rw [e, List.map_id]

theorem lev_levN {β : Type} [DecidableEq β] (sup : β → List β) (x : β) : ∀ n, (lev sup x n).1.map (wend x) = (levN sup x n).1 ∧ (lev sup x n).2 = (levN sup x n).2
  | 0 => ⟨rfl, rfl⟩
  | n + 1 => by
    obtain ⟨h1, h2⟩ := lev_levN sup x n
    simp only [lev, levN, freshW_map, ext_ends, h1, h2, and_self]

theorem levN_apart {β : Type} [DecidableEq β] (sup : β → List β) (x : β) : ∀ (m k : Nat) (a : β), a ∈ (levN sup x m).1 → a ∈ (levN sup x (m + 1 + k)).2
  | _, 0, _, h => List.mem_append_right _ h
  | m, k + 1, a, h => List.mem_append_left _ (levN_apart sup x m k a h)

theorem levN_new {β : Type} [DecidableEq β] (sup : β → List β) (x : β) : ∀ (n : Nat) (a : β), a ∈ (levN sup x n).1 → a ∉ (levN sup x n).2
  | 0, _, _ => List.not_mem_nil
  | _ + 1, a, h => (fresh_sub _ _ a h).2

theorem levN_one {β : Type} [DecidableEq β] (sup : β → List β) (x : β) {m n : Nat} {a : β} (h : a ∈ (levN sup x m).1) (k : a ∈ (levN sup x n).1) : m = n := by
  rcases Nat.lt_trichotomy m n with h1 | h1 | h1
  · exfalso
    obtain ⟨d, rfl⟩ := Nat.exists_eq_add_of_lt h1
    have := levN_apart sup x m d a h
    rw [show m + 1 + d = m + d + 1 by omega] at this
    exact levN_new sup x _ a k this
  · exact h1
  · exfalso
    obtain ⟨d, rfl⟩ := Nat.exists_eq_add_of_lt h1
    have := levN_apart sup x n d a k
    rw [show n + 1 + d = n + d + 1 by omega] at this
    exact levN_new sup x _ a h this

theorem levN_nil {β : Type} [DecidableEq β] (sup : β → List β) (x : β) {n : Nat} (h : (levN sup x n).1 = []) : ∀ k, (levN sup x (n + k)).1 = []
  | 0 => h
  | k + 1 => by
    show fresh _ ((levN sup x (n + k)).1.flatMap sup) = []
    rw [levN_nil sup x h k]
    rfl

/-- The first shortest way, if there is one. -/
def SP {β : Type} [DecidableEq β] (sup : β → List β) (x to : β) (R : List β) : Prop :=
  (x = to ∧ R = []) ∨ (x ≠ to ∧ ((∃ n, R ∈ (lev sup x n).1 ∧ wend x R = to) ∨ ((∀ n, to ∉ (levN sup x n).1) ∧ R = [])))

theorem SP.one {β : Type} [DecidableEq β] {sup : β → List β} {x to : β} {R R' : List β} (h : SP sup x to R) (k : SP sup x to R') : R = R' := by
  have hm : ∀ {n : Nat} {p : List β}, p ∈ (lev sup x n).1 → wend x p = to → to ∈ (levN sup x n).1 := fun {n p} hp he => by
    rw [← (lev_levN sup x n).1]
    exact List.mem_map.2 ⟨p, hp, he⟩
  rcases h with ⟨h1, h2⟩ | ⟨h1, h2⟩
  · rcases k with ⟨k1, k2⟩ | ⟨k1, k2⟩
    · rw [h2, k2]
    · exact absurd h1 k1
  · rcases k with ⟨k1, k2⟩ | ⟨k1, k2⟩
    · exact absurd k1 h1
    · rcases h2 with ⟨n, h3, h4⟩ | ⟨h3, h4⟩
      · rcases k2 with ⟨m, k3, k4⟩ | ⟨k3, k4⟩
        · have e := levN_one sup x (hm h3 h4) (hm k3 k4)
          subst e
          have e1 := lev_first sup x n R h3
          have e2 := lev_first sup x n R' k3
          rw [h4] at e1
          rw [k4] at e2
          rw [e1] at e2
          exact Option.some.inj e2
        · exact absurd (hm h3 h4) (k3 n)
      · rcases k2 with ⟨m, k3, k4⟩ | ⟨k3, k4⟩
        · exact absurd (hm k3 k4) (h3 m)
        · rw [h4, k4]

/-- The model's answer where it finds. -/
theorem SP.found {β : Type} [DecidableEq β] {sup : β → List β} {x to : β} {n : Nat} (hne : x ≠ to) (h : to ∈ (levN sup x n).1) : ∃ R, firstWay sup to n x = some R ∧ SP sup x to R := by
  rw [← (lev_levN sup x n).1] at h
  obtain ⟨p, hp, rfl⟩ := List.mem_map.1 h
  exact ⟨p, lev_first sup x n p hp, .inr ⟨hne, .inl ⟨n, hp, rfl⟩⟩⟩

/-- Nothing more, and not there. -/
theorem SP.none {β : Type} [DecidableEq β] {sup : β → List β} {x to : β} {n : Nat} (hne : x ≠ to) (h : (levN sup x n).1 = []) (k : to ∉ (levN sup x n).2) : SP sup x to [] := by
  refine .inr ⟨hne, .inr ⟨fun m hm => ?_, rfl⟩⟩
  rcases Nat.lt_or_ge m n with h1 | h1
  · obtain ⟨d, rfl⟩ := Nat.exists_eq_add_of_lt h1
    have := levN_apart sup x m d to hm
    rw [show m + 1 + d = m + d + 1 by omega] at this
    exact k this
  · obtain ⟨d, rfl⟩ := Nat.exists_eq_add_of_le h1
    rw [levN_nil sup x h d] at hm
    exact absurd hm List.not_mem_nil

/-- Something new among what is gone through is on the next level. -/
theorem lev_found {β : Type} [DecidableEq β] {sup : β → List β} {x : β} {n : Nat} {A B : List (List β)} {p : List β} {pre post : List β} {t : β} (hL : (lev sup x n).1 = A ++ p :: B) (hs : sup (wend x p) = pre ++ t :: post) (hS : t ∉ (levN sup x n).2 ++ (levN sup x n).1) (hf : t ∉ fresh ((levN sup x n).2 ++ (levN sup x n).1) ((A.map (wend x)).flatMap sup ++ pre)) : p ++ [t] ∈ (lev sup x (n + 1)).1 := by
  obtain ⟨e1, e2⟩ := lev_levN sup x n
  show p ++ [t] ∈ freshW x ((lev sup x n).2 ++ (lev sup x n).1.map (wend x)) ((lev sup x n).1.flatMap (ext sup x))
  rw [e1, e2, hL]
  generalize (levN sup x n).2 ++ (levN sup x n).1 = S at *
  have e3 : (A ++ p :: B).flatMap (ext sup x) = (A.flatMap (ext sup x) ++ pre.map fun s => p ++ [s]) ++ (p ++ [t]) :: ((post.map fun s => p ++ [s]) ++ B.flatMap (ext sup x)) := by
    simp only [List.flatMap_append, List.flatMap_cons, ext, hs, List.map_append, List.map_cons, List.append_assoc, List.cons_append]
  rw [e3, freshW_append]
  refine List.mem_append_right _ ?_
  have e4 : (freshW x S (A.flatMap (ext sup x) ++ pre.map fun s => p ++ [s])).map (wend x) = fresh S ((A.map (wend x)).flatMap sup ++ pre) := by
    rw [freshW_map, List.map_append, ext_ends, List.map_map]
    have e : (wend x ∘ fun s => p ++ [s]) = id := by funext s; exact wend_snoc x p s
    rw [e, List.map_id]
  rw [e4]
  unfold freshW
  rw [if_neg]
  · exact List.mem_cons_self
  · rw [wend_snoc]
    intro h
    rcases List.mem_append.1 h with h | h
    · exact hS h
    · exact hf h

end Go.Proofs.Ythnmjebbeneloaa
