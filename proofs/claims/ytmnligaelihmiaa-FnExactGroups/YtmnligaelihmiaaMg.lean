import Derived.Test.YtmnligaelihmiaaMd
namespace Go.Proofs.Ytmnligaelihmiaa.Gr
variable {e : List (List Int)}
/-- groups are numbered by their least things: there is one way -/
theorem Part.same {of1 of2 : Nat → Nat} {m1 m2 : Nat} (h1 : Part e of1 m1) (h2 : Part e of2 m2) : (∀ t, t < e.length → of1 t = of2 t) ∧ m1 = m2 := by
  have cls : ∀ t u, t < e.length → u < e.length → (of1 t = of1 u ↔ of2 t = of2 u) := fun t u ht hu => (h1.eq t u ht hu).trans (h2.eq t u ht hu).symm
  have below : ∀ {of : Nat → Nat} {m : Nat}, Part e of m → ∀ t, t < e.length → ∀ g, g < of t → ∃ u, u < t ∧ of u = g := fun hp t ht g hg => by
    obtain ⟨u, hu, hug, hul⟩ := hp.up g _ hg (hp.lt t ht)
    exact ⟨u, hul t ht rfl, hug⟩
  have key : ∀ t, t < e.length → of1 t = of2 t := by
    intro t
    induction t using Nat.strongRecOn with
    | _ t ih =>
      intro ht
      by_cases hc : ∃ u, u < t ∧ of1 u = of1 t
      · obtain ⟨u, hu, hut⟩ := hc
        have h3 := (cls u t (by omega) ht).1 hut
        rw [← hut, ← h3]
        exact ih u hu (by omega)
      · have hc2 : ∀ u, u < t → of1 u ≠ of1 t ∧ of2 u ≠ of2 t := fun u hu => ⟨fun e1 => hc ⟨u, hu, e1⟩, fun e1 => hc ⟨u, hu, (cls u t (by omega) ht).2 e1⟩⟩
        rcases Nat.lt_trichotomy (of1 t) (of2 t) with c | c | c
        · obtain ⟨u, hu, hug⟩ := below h2 t ht _ c
          rw [← ih u hu (by omega)] at hug
          exact absurd hug (hc2 u hu).1
        · exact c
        · obtain ⟨u, hu, hug⟩ := below h1 t ht _ c
          rw [ih u hu (by omega)] at hug
          exact absurd hug (hc2 u hu).2
  refine ⟨key, ?_⟩
  rcases Nat.lt_trichotomy m1 m2 with c | c | c
  · obtain ⟨t, ht, hg⟩ := h2.ne m1 c
    have := h1.lt t ht
    rw [key t ht, hg] at this; omega
  · exact c
  · obtain ⟨t, ht, hg⟩ := h1.ne m2 c
    have := h2.lt t ht
    rw [← key t ht, hg] at this; omega
theorem gm_same {of1 of2 : Nat → Nat} {n : Nat} (h : ∀ t, t < n → of1 t = of2 t) (g : Nat) : gm of1 n g = gm of2 n g := by
  unfold gm
  apply List.filter_congr
  intro t ht
  rw [h t (List.mem_range.1 ht)]
theorem Ed.cong {of1 of2 : Nat → Nat} (h : ∀ t, t < e.length → of1 t = of2 t) {P : Nat → Prop} {g : Nat} : Rdy e of1 P g ↔ Rdy e of2 P g := by
  constructor
  · intro hr t y ht hy
    have := hr t y (by rw [h t hy.lt.1]; exact ht) hy
    rw [h y hy.lt.2] at this; exact this
  · intro hr t y ht hy
    have := hr t y (by rw [← h t hy.lt.1]; exact ht) hy
    rw [← h y hy.lt.2] at this; exact this
theorem Sq.cong {of1 of2 : Nat → Nat} {m : Nat} (h : ∀ t, t < e.length → of1 t = of2 t) {l : List Nat} (hs : Sq e of1 m l) : Sq e of2 m l := by
  induction hs with
  | nil => exact .nil
  | snoc _ hx ih => exact .snoc ih ⟨hx.1, hx.2.1, (Ed.cong h).1 hx.2.2.1, fun k hk hn hr => hx.2.2.2 k hk hn ((Ed.cong h).2 hr)⟩
/-- the groups in order are one list -/
theorem Part.order {of1 of2 : Nat → Nat} {m1 m2 : Nat} (h1 : Part e of1 m1) (h2 : Part e of2 m2) {l k : List Nat} (a : Sq e of1 m1 l) (a2 : ∀ g, g < m1 → g ∈ l) (b : Sq e of2 m2 k) (b2 : ∀ g, g < m2 → g ∈ k) : l = k ∧ ∀ g, gm of1 e.length g = gm of2 e.length g := by
  obtain ⟨h3, h4⟩ := h1.same h2
  subst h4
  exact ⟨Sq.uniq (a.len a2) (b.len b2) (a.cong h3) b, gm_same h3⟩
end Go.Proofs.Ytmnligaelihmiaa.Gr
