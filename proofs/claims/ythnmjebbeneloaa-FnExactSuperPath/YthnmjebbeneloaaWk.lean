import Derived.Test.YthnmjebbeneloaaUn
namespace Go.Proofs.Ythnmjebbeneloaa

/-- Walks of so many steps, by first steps. -/
def walks {β : Type} (sup : β → List β) : Nat → β → List (List β)
  | 0, _ => [[]]
  | n + 1, x => (sup x).flatMap fun s => (walks sup n s).map (s :: ·)

/-- Where a walk ends. -/
def wend {β : Type} (x : β) : List β → β
  | [] => x
  | s :: r => wend s r

theorem wend_snoc {β : Type} : ∀ (x : β) (p : List β) (y : β), wend x (p ++ [y]) = y
  | _, [], _ => rfl
  | _, s :: r, y => wend_snoc s r y

/-- Walks by last steps. -/
theorem walks_succ {β : Type} (sup : β → List β) : ∀ (n : Nat) (x : β), walks sup (n + 1) x = (walks sup n x).flatMap fun p => (sup (wend x p)).map fun s => p ++ [s]
  | 0, x => by
    simp only [walks, List.flatMap_cons, List.flatMap_nil, List.append_nil, wend, List.nil_append, List.map_cons, List.map_nil]
    induction sup x with
    | nil => rfl
    | cons a l ih => simp only [List.flatMap_cons, List.map_cons, ih]; rfl
  | n + 1, x => by
    rw [walks]
    conv => rhs; rw [walks]
    rw [List.flatMap_assoc]
    congr 1
    funext s
    rw [walks_succ sup n s, List.map_flatMap, List.flatMap_map]
    congr 1
    funext p
    simp [wend, List.map_map, Function.comp_def]

/-- The way of so many steps that has the first first step. -/
def firstWay {β : Type} [DecidableEq β] (sup : β → List β) (to : β) : Nat → β → Option (List β)
  | 0, x => if x = to then some [] else none
  | n + 1, x => (sup x).findSome? fun s => (firstWay sup to n s).map (s :: ·)

theorem firstWay_find {β : Type} [DecidableEq β] (sup : β → List β) (to : β) : ∀ (n : Nat) (x : β), firstWay sup to n x = (walks sup n x).find? (fun p => decide (wend x p = to))
  | 0, x => by
    by_cases h : x = to <;> simp [firstWay, walks, wend, h]
  | n + 1, x => by
    rw [firstWay, walks, List.find?_flatMap]
    congr 1
    funext s
    rw [firstWay_find sup to n s, List.find?_map]
    rfl

/-- Walks to places that are new, each once. -/
def freshW {β : Type} [DecidableEq β] (x : β) : List β → List (List β) → List (List β)
  | _, [] => []
  | seen, p :: ps => if wend x p ∈ seen then freshW x seen ps else p :: freshW x (wend x p :: seen) ps

theorem freshW_cong {β : Type} [DecidableEq β] (x : β) : ∀ (ps : List (List β)) {s t : List β}, (∀ a, a ∈ s ↔ a ∈ t) → freshW x s ps = freshW x t ps
  | [], _, _, _ => rfl
  | p :: ps, s, t, h => by
    unfold freshW
    by_cases hp : wend x p ∈ s
    · rw [if_pos hp, if_pos ((h _).1 hp)]
      exact freshW_cong x ps h
    · rw [if_neg hp, if_neg (fun k => hp ((h _).2 k))]
      congr 1
      exact freshW_cong x ps (fun a => by simp only [List.mem_cons, h a])

theorem freshW_append {β : Type} [DecidableEq β] (x : β) : ∀ (a b : List (List β)) (s : List β), freshW x s (a ++ b) = freshW x s a ++ freshW x (s ++ (freshW x s a).map (wend x)) b
  | [], b, s => by simp [freshW]
  | p :: a, b, s => by
    by_cases hp : wend x p ∈ s
    · simp only [List.cons_append, freshW, if_pos hp]
      exact freshW_append x a b s
    · simp only [List.cons_append, freshW, if_neg hp, List.map_cons]
      congr 1
      rw [freshW_append x a b]
      congr 1
      refine freshW_cong x b (fun c => ?_)
      simp only [List.mem_append, List.mem_cons]
      constructor
      · rintro ((h | h) | h)
        · exact .inr (.inl h)
        · exact .inl h
        · exact .inr (.inr h)
      · rintro (h | h | h)
        · exact .inl (.inr h)
        · exact .inl (.inl h)
        · exact .inr h

theorem freshW_drop {β : Type} [DecidableEq β] (x : β) : ∀ (a b : List (List β)) (s : List β), (∀ p ∈ a, wend x p ∈ s) → freshW x s (a ++ b) = freshW x s b
  | [], _, _, _ => rfl
  | p :: a, b, s, h => by
    simp only [List.cons_append, freshW, if_pos (h p List.mem_cons_self)]
    exact freshW_drop x a b s (fun q hq => h q (List.mem_cons_of_mem _ hq))

/-- All are seen, or among the new ones. -/
theorem freshW_all {β : Type} [DecidableEq β] (x : β) : ∀ (ps : List (List β)) (s : List β) (p : List β), p ∈ ps → wend x p ∈ s ∨ wend x p ∈ (freshW x s ps).map (wend x)
  | p :: ps, s, q, hq => by
    by_cases hp : wend x p ∈ s
    · simp only [freshW, if_pos hp]
      rcases List.mem_cons.1 hq with rfl | hq
      · exact .inl hp
      · exact freshW_all x ps s q hq
    · simp only [freshW, if_neg hp, List.map_cons, List.mem_cons]
      rcases List.mem_cons.1 hq with rfl | hq
      · exact .inr (.inl rfl)
      · rcases freshW_all x ps (wend x p :: s) q hq with h | h
        · rcases List.mem_cons.1 h with h | h
          · exact .inr (.inl h)
          · exact .inl h
        · exact .inr (.inr h)

theorem freshW_sub {β : Type} [DecidableEq β] (x : β) : ∀ (ps : List (List β)) (s : List β) (p : List β), p ∈ freshW x s ps → p ∈ ps ∧ wend x p ∉ s
  | q :: ps, s, p, h => by
    by_cases hp : wend x q ∈ s
    · simp only [freshW, if_pos hp] at h
      obtain ⟨h1, h2⟩ := freshW_sub x ps s p h
      exact ⟨List.mem_cons_of_mem _ h1, h2⟩
    · simp only [freshW, if_neg hp] at h
      rcases List.mem_cons.1 h with rfl | h
      · exact ⟨List.mem_cons_self, hp⟩
      · obtain ⟨h1, h2⟩ := freshW_sub x ps _ p h
        exact ⟨List.mem_cons_of_mem _ h1, fun k => h2 (List.mem_cons_of_mem _ k)⟩

/-- A new one is the first that ends where it ends. -/
theorem freshW_first {β : Type} [DecidableEq β] (x : β) : ∀ (ps : List (List β)) (s : List β) (p : List β), p ∈ freshW x s ps → ps.find? (fun q => decide (wend x q = wend x p)) = some p
  | q :: ps, s, p, h => by
    by_cases hp : wend x q ∈ s
    · simp only [freshW, if_pos hp] at h
      have h2 := (freshW_sub x ps s p h).2
      have hne : wend x q ≠ wend x p := fun e => h2 (e ▸ hp)
      rw [List.find?_cons_of_neg (by simpa using hne)]
      exact freshW_first x ps s p h
    · simp only [freshW, if_neg hp] at h
      rcases List.mem_cons.1 h with rfl | h
      · rw [List.find?_cons_of_pos (by simp)]
      · have h2 := (freshW_sub x ps _ p h).2
        have hne : wend x q ≠ wend x p := fun e => h2 (e ▸ List.mem_cons_self)
        rw [List.find?_cons_of_neg (by simpa using hne)]
        exact freshW_first x ps _ p h

theorem freshW_nodup {β : Type} [DecidableEq β] (x : β) : ∀ (ps : List (List β)) (s : List β), ((freshW x s ps).map (wend x)).Nodup
  | [], _ => by simp [freshW]
  | q :: ps, s => by
    by_cases hp : wend x q ∈ s
    · simp only [freshW, if_pos hp]
      exact freshW_nodup x ps s
    · simp only [freshW, if_neg hp, List.map_cons, List.nodup_cons]
      refine ⟨fun h => ?_, freshW_nodup x ps _⟩
      obtain ⟨p, h1, h2⟩ := List.mem_map.1 h
      exact (freshW_sub x ps _ p h1).2 (h2 ▸ List.mem_cons_self)

/-- A step more. -/
def ext {β : Type} (sup : β → List β) (x : β) (p : List β) : List (List β) := (sup (wend x p)).map fun s => p ++ [s]

theorem ext_end {β : Type} (sup : β → List β) (x : β) (p q : List β) (h : q ∈ ext sup x p) : wend x q ∈ sup (wend x p) := by
  obtain ⟨s, hs, rfl⟩ := List.mem_map.1 h
  rw [wend_snoc]
  exact hs

theorem ext_mem {β : Type} (sup : β → List β) (x : β) (p : List β) (s : β) (h : s ∈ sup (wend x p)) : p ++ [s] ∈ ext sup x p := List.mem_map.2 ⟨s, h, rfl⟩

/-- Walks that go on from new ones alone: the same are new. -/
theorem freshW_ext {β : Type} [DecidableEq β] (sup : β → List β) (x : β) : ∀ (ws : List (List β)) (s0 s : List β), (∀ a ∈ s0, ∀ b ∈ sup a, b ∈ s) → freshW x s (ws.flatMap (ext sup x)) = freshW x s ((freshW x s0 ws).flatMap (ext sup x))
  | [], _, _, _ => rfl
  | p :: ws, s0, s, h => by
    by_cases hp : wend x p ∈ s0
    · simp only [freshW, if_pos hp, List.flatMap_cons]
      rw [freshW_drop x _ _ s (fun q hq => h _ hp _ (ext_end sup x p q hq))]
      exact freshW_ext sup x ws s0 s h
    · simp only [freshW, if_neg hp, List.flatMap_cons]
      rw [freshW_append, freshW_append]
      congr 1
      refine freshW_ext sup x ws (wend x p :: s0) _ (fun a ha b hb => ?_)
      rw [List.mem_append]
      rcases List.mem_cons.1 ha with rfl | ha
      · have h1 := freshW_all x (ext sup x p) s (p ++ [b]) (ext_mem sup x p b hb)
        rwa [wend_snoc] at h1
      · exact .inl (h a ha b hb)

/-- Levels: the walks to what is that far away, and all that is nearer. -/
def lev {β : Type} [DecidableEq β] (sup : β → List β) (x : β) : Nat → List (List β) × List β
  | 0 => ([[]], [])
  | n + 1 => (freshW x ((lev sup x n).2 ++ (lev sup x n).1.map (wend x)) ((lev sup x n).1.flatMap (ext sup x)), (lev sup x n).2 ++ (lev sup x n).1.map (wend x))

theorem lev_closed {β : Type} [DecidableEq β] (sup : β → List β) (x : β) : ∀ n a, a ∈ (lev sup x n).2 → ∀ b ∈ sup a, b ∈ (lev sup x n).2 ++ (lev sup x n).1.map (wend x)
  | 0, a, h, _, _ => absurd h List.not_mem_nil
  | n + 1, a, h, b, hb => by
    simp only [lev] at h ⊢
    rcases List.mem_append.1 h with h | h
    · exact List.mem_append_left _ (lev_closed sup x n a h b hb)
    · obtain ⟨p, hp, rfl⟩ := List.mem_map.1 h
      have h1 := freshW_all x ((lev sup x n).1.flatMap (ext sup x)) ((lev sup x n).2 ++ (lev sup x n).1.map (wend x)) (p ++ [b]) (List.mem_flatMap.2 ⟨p, hp, ext_mem sup x p b hb⟩)
      rw [wend_snoc] at h1
      exact List.mem_append.2 h1

theorem lev_walks {β : Type} [DecidableEq β] (sup : β → List β) (x : β) : ∀ n, (lev sup x n).1 = freshW x (lev sup x n).2 (walks sup n x)
  | 0 => by simp [lev, walks, freshW]
  | n + 1 => by
    rw [walks_succ]
    show freshW x ((lev sup x n).2 ++ (lev sup x n).1.map (wend x)) ((lev sup x n).1.flatMap (ext sup x)) = freshW x ((lev sup x n).2 ++ (lev sup x n).1.map (wend x)) ((walks sup n x).flatMap (ext sup x))
    rw [freshW_ext sup x (walks sup n x) (lev sup x n).2 _ (lev_closed sup x n), ← lev_walks sup x n]

/-- What is that far away is got to by the first way of so many steps. -/
theorem lev_first {β : Type} [DecidableEq β] (sup : β → List β) (x : β) (n : Nat) (p : List β) (h : p ∈ (lev sup x n).1) : firstWay sup (wend x p) n x = some p := by
  rw [firstWay_find]
  rw [lev_walks] at h
  exact freshW_first x _ _ p h

end Go.Proofs.Ythnmjebbeneloaa
