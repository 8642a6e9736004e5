import Derived.Test.YtmnligaelihmiaaMd
namespace Go.Proofs.Ytmnligaelihmiaa.Gr
variable {e : List (List Int)}
/-- groups are numbered by their least things: there is one way -/
theorem Part.same {of1 of2 : Nat → Nat} {m1 m2 : Nat} (h1 : Part e of1 m1) (h2 : Part e of2 m2) : (∀ t, t < e.length → of1 t = of2 t) ∧ m1 = m2 := by
  have cls : ∀ t u, t < e.length → u < e.length → (of1 t = of1 u ↔ of2 t = of2 u) := fun t u ht hu => (h1.eq t u ht hu).trans (h2.eq t u ht hu).symm
  have below : ∀ {of : Nat → Nat} {m : Nat}, Part e of m → ∀ t, t < e.length → ∀ g, g < of t → ∃ u, u < t ∧ of u = g := fun hp t ht g hg => by
    obtain ⟨u, hu, hug, hul⟩ := hp.up g _ hg (hp.lt t ht)
    exact ⟨u, hul t ht rfl, hug⟩
  have key : ∀ t, t < e.length → of1 t = of2 t := by
    intro t
    induction t using Nat.strongRecOn with
    | _ t ih =>
      intro ht
      by_cases hc : ∃ u, u < t ∧ of1 u = of1 t
      · obtain ⟨u, hu, hut⟩ := hc
        have h3 := (cls u t (by omega) ht).1 hut
        rw [← hut, ← h3]
        exact ih u hu (by omega)
      · have hc2 : ∀ u, u < t → of1 u ≠ of1 t ∧ of2 u ≠ of2 t := fun u hu => ⟨fun e1 => hc ⟨u, hu, e1⟩, fun e1 => hc ⟨u, hu, (cls u t (by omega) ht).2 e1⟩⟩
        rcases Nat.lt_trichotomy (of1 t) (of2 t) with c | c | c
        · obtain ⟨u, hu, hug⟩ := below h2 t ht _ c
          rw [← ih u hu (by omega)] at hug
          exact absurd hug (hc2 u hu).1
        · exact c
        · obtain ⟨u, hu, hug⟩ := below h1 t ht _ c
          rw [ih u hu (by omega)] at hug
          exact absurd hug (hc2 u hu).2
  refine ⟨key, ?_⟩
  rcases Nat.lt_trichotomy m1 m2 with c | c | c
  · obtain ⟨t, ht, hg⟩ := h2.ne m1 c
    have := h1.lt t ht
    rw [key t ht, hg] at this; omega
  · exact c
  · obtain ⟨t, ht, hg⟩ := h1.ne m2 c
    have := h2.lt t ht
    rw [← key t ht, hg] at this; omega
theorem gm_same {of1 of2 : Nat → Nat} {n : Nat} (h : ∀ t, t < n → of1 t = of2 t) (g : Nat) : gm of1 n g = gm of2 n g := by
  unfold gm
  apply List.filter_congr
  intro t ht
  rw [h t (List.mem_range.1 ht)]
theorem Ed.cong {of1 of2 : Nat → Nat} (h : ∀ t, t < e.length → of1 t = of2 t) {P : Nat → Prop} {g : Nat} : Rdy e of1 P g ↔ Rdy e of2 P g := by
  constructor
  · intro hr t y ht hy
    have := hr t y (by rw [h t hy.lt.1]; exact ht) hy
    rw [h y hy.lt.2] at this; exact this
  · intro hr t y ht hy
    have := hr t y (by rw [← h t hy.lt.1]; exact ht) hy
    rw [← h y hy.lt.2] at this; exact this
theorem Sq.cong {of1 of2 : Nat → Nat} {m : Nat} (h : ∀ t, t < e.length → of1 t = of2 t) {l : List Nat} (hs : Sq e of1 m l) : Sq e of2 m l := by
  induction hs with
  | nil => exact .nil
  | snoc _ hx ih => exact .snoc ih ⟨hx.1, hx.2.1, (Ed.cong h).1 hx.2.2.1, fun k hk hn hr => hx.2.2.2 k hk hn ((Ed.cong h).2 hr)⟩
/-- the groups in order are one list -/
theorem Part.order {of1 of2 : Nat → Nat} {m1 m2 : Nat} (h1 : Part e of1 m1) (h2 : Part e of2 m2) {l k : List Nat} (a : Sq e of1 m1 l) (a2 : ∀ g, g < m1 → g ∈ l) (b : Sq e of2 m2 k) (b2 : ∀ g, g < m2 → g ∈ k) : l = k ∧ ∀ g, gm of1 e.length g = gm of2 e.length g := by
  obtain ⟨h3, h4⟩ := h1.same h2
  subst h4
  exact ⟨Sq.uniq (a.len a2) (b.len b2) (a.cong h3) b, gm_same h3⟩
end Go.Proofs.Ytmnligaelihmiaa.Gr

namespace Go.Proofs.Ytmnligaelihmiaa.Gr
variable {e : List (List Int)} {of pos : Nat → Nat} {m n : Nat} {l : List Nat}
theorem gm_mem2 {g x : Nat} (h : x ∈ gm of n g) : x < n ∧ of x = g := by
  unfold gm at h
  rw [List.mem_filter] at h
  exact ⟨List.mem_range.1 h.1, by simpa using h.2⟩
theorem gm_in {x : Nat} (h : x < n) : x ∈ gm of n (of x) := by
  unfold gm
  rw [List.mem_filter]
  exact ⟨List.mem_range.2 h, by simp⟩
theorem gm_lt {g : Nat} : (gm of n g).Pairwise (· < ·) := by
  unfold gm
  exact List.pairwise_lt_range.filter _
/-- where a thing's group stands -/
def At (of pos : Nat → Nat) (n : Nat) (l : List Nat) : Prop := ∀ t, t < n → l[pos t]? = some (of t)
theorem pos_ex (h : ∀ t, t < n → of t ∈ l) : ∃ pos, At of pos n l := by
  classical
  refine ⟨fun t => if ht : t < n then Classical.choose (List.getElem?_of_mem (h t ht)) else 0, fun t ht => ?_⟩
  show l[if ht : t < n then Classical.choose (List.getElem?_of_mem (h t ht)) else 0]? = _
  rw [dif_pos ht]
  exact Classical.choose_spec (List.getElem?_of_mem (h t ht))
theorem At.lt (h : At of pos n l) {t : Nat} (ht : t < n) : pos t < l.length := (List.getElem?_eq_some_iff.1 (h t ht)).1
theorem At.eq (h : At of pos n l) (hl : l.Nodup) {t i : Nat} (ht : t < n) (hi : l[i]? = some (of t)) : pos t = i :=
  (List.getElem?_inj (h.lt ht) hl).1 ((h t ht).trans hi.symm)
theorem At.iff (h : At of pos n l) (hl : l.Nodup) {t u : Nat} (ht : t < n) (hu : u < n) : pos t = pos u ↔ of t = of u := by
  constructor
  · intro e1
    have h1 := h t ht
    rw [e1, h u hu] at h1
    exact (Option.some.inj h1).symm
  · intro e1
    exact h.eq hl ht (by rw [e1]; exact h u hu)
/-- the places that were told, as far as the group i and its first k things -/
structure AT (of pos : Nat → Nat) (n : Nat) (l : List Nat) (i k : Nat) (f : Nat → Nat) : Prop where
  lo : ∀ t, t < n → pos t < i → f t = pos t + 1
  hi : ∀ t, t < n → i < pos t → f t = 0
  yes : ∀ t, t < n → pos t = i → t ∈ (gm of n (l.getD i 0)).take k → f t = i + 1
  no : ∀ t, t < n → pos t = i → t ∉ (gm of n (l.getD i 0)).take k → f t = 0
theorem AT.start : AT of pos n l 0 0 (fun _ => 0) :=
  ⟨fun t _ h => by omega, fun _ _ _ => rfl, fun t _ _ h => by simp at h, fun _ _ _ _ => rfl⟩
theorem AT.step {i k v g : Nat} {f : Nat → Nat} (h : AT of pos n l i k f) (ha : At of pos n l) (hl : l.Nodup) (hg : l[i]? = some g) (hv : (gm of n g)[k]? = some v) :
    v < n ∧ f v = 0 ∧ (∀ u, 0 < k → (gm of n g)[k - 1]? = some u → u < v) ∧ AT of pos n l i (k + 1) (upd f v (i + 1)) := by
  have hgd : l.getD i 0 = g := by rw [List.getD_eq_getElem?_getD, hg]; rfl
  obtain ⟨hvn, hvg⟩ := gm_mem2 (List.mem_of_getElem? hv)
  have hp : pos v = i := ha.eq hl hvn (by rw [hvg]; exact hg)
  have hnd : (gm of n g).Pairwise (· < ·) := gm_lt
  obtain ⟨hk, hv2⟩ := List.getElem?_eq_some_iff.1 hv
  have hno : v ∉ (gm of n g).take k := fun hm => by
    obtain ⟨j, hj, hjv⟩ := List.getElem_of_mem hm
    rw [List.getElem_take] at hjv
    have hjk : j < k := by simp at hj; omega
    have := List.pairwise_iff_getElem.1 hnd j k (by omega) hk hjk
    omega
  have htk : (gm of n g).take (k + 1) = (gm of n g).take k ++ [v] := by rw [List.take_add_one, hv]; rfl
  refine ⟨hvn, h.no v hvn hp (by rw [hgd]; exact hno), fun u hk0 hu => ?_, ⟨fun t ht hlt => ?_, fun t ht hlt => ?_, fun t ht he hm => ?_, fun t ht he hm => ?_⟩⟩
  · obtain ⟨hk1, hu2⟩ := List.getElem?_eq_some_iff.1 hu
    have := List.pairwise_iff_getElem.1 hnd (k - 1) k hk1 hk (by omega)
    omega
  · rw [upd_other (fun e1 => by subst e1; omega)]; exact h.lo t ht hlt
  · rw [upd_other (fun e1 => by subst e1; omega)]; exact h.hi t ht hlt
  · by_cases e1 : t = v
    · subst e1; exact upd_same _ _ _
    · rw [upd_other e1]
      rw [hgd, htk] at hm
      exact h.yes t ht he (by rw [hgd]; simpa [e1] using hm)
  · rw [hgd, htk] at hm
    have e1 : t ≠ v := fun e1 => hm (by simp [e1])
    rw [upd_other e1]
    exact h.no t ht he (by rw [hgd]; exact fun h9 => hm (List.mem_append.2 (.inl h9)))
theorem AT.next {i k g : Nat} {f : Nat → Nat} (h : AT of pos n l i k f) (ha : At of pos n l) (hg : l[i]? = some g) (hk : (gm of n g).length ≤ k) : AT of pos n l (i + 1) 0 f := by
  have hgd : l.getD i 0 = g := by rw [List.getD_eq_getElem?_getD, hg]; rfl
  refine ⟨fun t ht hlt => ?_, fun t ht hlt => h.hi t ht (by omega), fun t _ _ hm => by simp at hm, fun t ht he _ => h.hi t ht (by omega)⟩
  by_cases e1 : pos t = i
  · rw [e1]
    refine h.yes t ht e1 ?_
    rw [hgd, List.take_of_length_le hk]
    have h1 := ha t ht
    rw [e1, hg] at h1
    rw [Option.some.inj h1]
    exact gm_in ht
  · exact h.lo t ht (by omega)
theorem AT.fin {i : Nat} {f : Nat → Nat} (h : AT of pos n l i 0 f) (ha : At of pos n l) (hi : l.length ≤ i) : ∀ t, t < n → f t = pos t + 1 := fun t ht => h.lo t ht (by have := ha.lt ht; omega)
theorem Sq.rdy (h : Sq e of m l) : ∀ (i g : Nat), l[i]? = some g → ∀ t y, of t = g → Ed e t y → of y = g ∨ ∃ j, j < i ∧ l[j]? = some (of y) := by
  induction h with
  | nil => intro i g hg; simp at hg
  | @snoc k x h1 h2 ih =>
    intro i g hg t y ht hy
    by_cases hi : i < k.length
    · rw [List.getElem?_append_left hi] at hg
      rcases ih i g hg t y ht hy with e1 | ⟨j, hj, e1⟩
      · exact .inl e1
      · exact .inr ⟨j, hj, by rw [List.getElem?_append_left (by omega)]; exact e1⟩
    · rw [List.getElem?_append_right (by omega)] at hg
      have e2 : i - k.length = 0 := by
        have := (List.getElem?_eq_some_iff.1 hg).1
        simp at this; omega
      rw [e2] at hg
      simp at hg
      subst hg
      rcases h2.2.2.1 t y ht hy with e1 | e1
      · exact .inl e1
      · obtain ⟨j, hj⟩ := List.getElem?_of_mem e1
        have hjl := (List.getElem?_eq_some_iff.1 hj).1
        exact .inr ⟨j, by omega, by rw [List.getElem?_append_left hjl]; exact hj⟩
/-- a group stands behind what it leads to -/
theorem Sq.behind (h : Sq e of m l) (ha : At of pos e.length l) {a b : Nat} (hx : Rt e a b) : pos b ≤ pos a := by
  induction hx with
  | refl => exact Nat.le_refl _
  | tail _ h2 ih =>
    obtain ⟨hb, hc⟩ := h2.lt
    rcases h.rdy _ _ (ha _ hb) _ _ rfl h2 with e1 | ⟨j, hj, e1⟩
    · have := ha.eq h.nodup hc (by rw [e1]; exact ha _ hb); omega
    · have := ha.eq h.nodup hc e1; omega
theorem Part.le_len (hp : Part e of m) : m ≤ e.length := by
  have := nodup_sub (l := List.range m) (m := (List.range e.length).map of) List.nodup_range (fun g hg => by
    obtain ⟨t, ht, h⟩ := hp.ne g (List.mem_range.1 hg)
    exact List.mem_map.2 ⟨t, List.mem_range.2 ht, h⟩)
  simpa using this
end Go.Proofs.Ytmnligaelihmiaa.Gr
