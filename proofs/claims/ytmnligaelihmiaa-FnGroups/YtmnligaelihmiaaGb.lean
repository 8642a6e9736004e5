import Derived.Test.YtmnligaelihmiaaGa
namespace Go.Proofs.Ytmnligaelihmiaa.Gr
variable {e : List (List Int)}
/-- groups: their number and the group of each thing -/
structure Part (e : List (List Int)) (of : Nat → Nat) (m : Nat) : Prop where
  lt : ∀ t, t < e.length → of t < m
  eq : ∀ t u, t < e.length → u < e.length → (of t = of u ↔ Rt e t u ∧ Rt e u t)
  ne : ∀ g, g < m → ∃ t, t < e.length ∧ of t = g
  up : ∀ g h, g < h → h < m → ∃ t, t < e.length ∧ of t = g ∧ ∀ u, u < e.length → of u = h → t < u
theorem Ed.lt {x y : Nat} (h : Ed e x y) : x < e.length ∧ y < e.length := by
  obtain ⟨h1, r, hr, -⟩ := h
  exact ⟨(List.getElem?_eq_some_iff.1 hr).1, h1⟩
theorem Rt.lt {x y : Nat} (h : Rt e x y) (hx : x < e.length) : y < e.length := by
  cases h with
  | refl => exact hx
  | tail _ h2 => exact h2.lt.2
/-- what a group's members name is of it, or was placed -/
def Rdy (e : List (List Int)) (of : Nat → Nat) (P : Nat → Prop) (g : Nat) : Prop := ∀ t y, of t = g → Ed e t y → of y = g ∨ P (of y)
/-- the group that comes next -/
def Nx (e : List (List Int)) (of : Nat → Nat) (m : Nat) (P : Nat → Prop) (g : Nat) : Prop := g < m ∧ ¬ P g ∧ Rdy e of P g ∧ ∀ h, h < g → ¬ P h → ¬ Rdy e of P h
theorem Nx.eq {of : Nat → Nat} {m : Nat} {P : Nat → Prop} {g h : Nat} (a : Nx e of m P g) (b : Nx e of m P h) : g = h := by
  rcases Nat.lt_trichotomy g h with c | c | c
  · exact absurd a.2.2.1 (b.2.2.2 g c a.2.1)
  · exact c
  · exact absurd b.2.2.1 (a.2.2.2 h c b.2.1)
/-- groups in order, as far as they are placed -/
inductive Sq (e : List (List Int)) (of : Nat → Nat) (m : Nat) : List Nat → Prop
  | nil : Sq e of m []
  | snoc {l : List Nat} {g : Nat} : Sq e of m l → Nx e of m (· ∈ l) g → Sq e of m (l ++ [g])
theorem Sq.inv {of : Nat → Nat} {m : Nat} {l : List Nat} {g : Nat} (h : Sq e of m (l ++ [g])) : Sq e of m l ∧ Nx e of m (· ∈ l) g := by
  generalize hk : l ++ [g] = k at h
  cases h with
  | nil => simp at hk
  | snoc h1 h2 =>
    have := List.append_inj' hk rfl
    obtain ⟨e1, e2⟩ := this
    have e3 := (List.cons.inj e2).1
    subst e1; subst e3
    exact ⟨h1, h2⟩
theorem list_snoc {α : Type} (l : List α) : l = [] ∨ ∃ k x, l = k ++ [x] := by
  rcases List.eq_nil_or_concat l with h | ⟨k, x, h⟩
  · exact .inl h
  · exact .inr ⟨k, x, by rw [h, List.concat_eq_append]⟩
theorem Sq.uniq {of : Nat → Nat} {m : Nat} : ∀ {n : Nat} {l k : List Nat}, l.length = n → k.length = n → Sq e of m l → Sq e of m k → l = k := by
  intro n
  induction n with
  | zero => intro l k hl hk _ _; rw [List.eq_nil_of_length_eq_zero hl, List.eq_nil_of_length_eq_zero hk]
  | succ n ih =>
    intro l k hl hk h1 h2
    rcases list_snoc l with rfl | ⟨l', x, rfl⟩
    · simp at hl
    rcases list_snoc k with rfl | ⟨k', y, rfl⟩
    · simp at hk
    obtain ⟨a1, a2⟩ := h1.inv
    obtain ⟨b1, b2⟩ := h2.inv
    have := ih (by simpa using hl) (by simpa using hk) a1 b1
    subst this
    rw [a2.eq b2]
theorem Sq.lt {of : Nat → Nat} {m : Nat} {l : List Nat} (h : Sq e of m l) : ∀ g ∈ l, g < m := by
  induction h with
  | nil => intro g hg; simp at hg
  | snoc _ h2 ih =>
    intro g hg
    rcases List.mem_append.1 hg with a | a
    · exact ih g a
    · rw [List.mem_singleton.1 a]; exact h2.1
theorem Sq.nodup {of : Nat → Nat} {m : Nat} {l : List Nat} (h : Sq e of m l) : l.Nodup := by
  induction h with
  | nil => exact List.nodup_nil
  | snoc _ h2 ih =>
    rw [List.nodup_append]
    refine ⟨ih, by simp, ?_⟩
    intro a ha b hb hab
    rw [List.mem_singleton.1 hb] at hab
    subst hab
    exact h2.2.1 ha
theorem Sq.len {of : Nat → Nat} {m : Nat} {l : List Nat} (h : Sq e of m l) (ha : ∀ g, g < m → g ∈ l) : l.length = m := by
  have : l.Perm (List.range m) := (List.perm_ext_iff_of_nodup h.nodup List.nodup_range).2 (fun a => ⟨fun hm => List.mem_range.2 (h.lt a hm), fun hm => ha a (List.mem_range.1 hm)⟩)
  rw [this.length_eq, List.length_range]
/-- what is placed leads to such alone -/
theorem Sq.closed {of : Nat → Nat} {m : Nat} {l : List Nat} (h : Sq e of m l) : ∀ t y, of t ∈ l → Ed e t y → of y ∈ l := by
  induction h with
  | nil => intro t y ht; simp at ht
  | snoc _ h2 ih =>
    intro t y ht hy
    rcases List.mem_append.1 ht with a | a
    · exact List.mem_append.2 (.inl (ih t y a hy))
    · rcases h2.2.2.1 t y (List.mem_singleton.1 a) hy with b | b
      · rw [b]; simp
      · exact List.mem_append.2 (.inl b)
theorem Sq.closedR {of : Nat → Nat} {m : Nat} {l : List Nat} (h : Sq e of m l) {t y : Nat} (ht : of t ∈ l) (hr : Rt e t y) : of y ∈ l := by
  induction hr with
  | refl => exact ht
  | tail _ h2 ih => exact h.closed _ _ ih h2
theorem filter_lt {n : Nat} {p q : Nat → Bool} (hi : ∀ y, p y = true → q y = true) {x : Nat} (hx : x < n) (h1 : p x = false) (h2 : q x = true) : ((List.range n).filter p).length < ((List.range n).filter q).length := by
  induction n with
  | zero => omega
  | succ n ih =>
    rw [List.range_succ, List.filter_append, List.filter_append, List.length_append, List.length_append]
    have hle : ((List.range n).filter p).length ≤ ((List.range n).filter q).length := by
      rw [← List.countP_eq_length_filter, ← List.countP_eq_length_filter]
      exact List.countP_mono_left (fun y _ h => hi y h)
    by_cases hxn : x = n
    · subst hxn
      simp [h1, h2]; omega
    · have := ih (by omega)
      by_cases hp : p n
      · simp [hp, hi n hp]; omega
      · by_cases hq : q n
        · simp [hp, hq]; omega
        · simp [hp, hq]; omega
/-- some group is ready, as long as one was not placed -/
theorem Part.some {of : Nat → Nat} {m : Nat} (hp : Part e of m) {P : Nat → Prop} {g : Nat} (hg : g < m) (hn : ¬ P g) : ∃ h, h < m ∧ ¬ P h ∧ Rdy e of P h := by
  classical
  obtain ⟨rc, hrc⟩ : ∃ rc : Nat → Nat, rc = fun x => ((List.range e.length).filter (fun y => decide (Rt e x y))).length := ⟨_, rfl⟩
  obtain ⟨t, ht, rfl⟩ := hp.ne g hg
  have key : ∀ k t, t < e.length → ¬ P (of t) → rc t = k → ∃ h, h < m ∧ ¬ P h ∧ Rdy e of P h := by
    intro k
    induction k using Nat.strongRecOn with
    | _ k ih =>
      intro t ht hnt hk
      by_cases hr : Rdy e of P (of t)
      · exact ⟨of t, hp.lt t ht, hnt, hr⟩
      · obtain ⟨u, hu⟩ := Classical.not_forall.1 hr
        obtain ⟨y, hy⟩ := Classical.not_forall.1 hu
        obtain ⟨h1, hy2⟩ := Classical.not_imp.1 hy
        obtain ⟨h2, h3⟩ := Classical.not_imp.1 hy2
        have h4 := not_or.1 h3
        have hue := h2.lt
        have hut := (hp.eq t u ht hue.1).1 h1.symm
        have hty : Rt e t y := hut.1.tail h2
        refine ih (rc y) ?_ y hue.2 h4.2 rfl
        rw [← hk, hrc]
        have hnyt : ¬ Rt e y t := fun h5 => h4.1 ((hp.eq y t hue.2 ht).2 ⟨h5, hty⟩)
        exact filter_lt (x := t) (fun z hz => by
          have := of_decide_eq_true hz
          exact decide_eq_true (hty.trans this)) ht (decide_eq_false hnyt) (decide_eq_true .refl)
  exact key _ t ht hn rfl
/-- the least such -/
theorem least_of {Q : Nat → Prop} {n : Nat} (h : Q n) : ∃ k, Q k ∧ ∀ j, j < k → ¬ Q j := by
  induction n using Nat.strongRecOn with
  | _ n ih =>
    by_cases hj : ∃ j, j < n ∧ Q j
    · obtain ⟨j, hj1, hj2⟩ := hj
      exact ih j hj1 hj2
    · exact ⟨n, h, fun j hj1 hj2 => hj ⟨j, hj1, hj2⟩⟩
/-- the model's question of a thing -/
def mrdy (e : List (List Int)) (P : Nat → Prop) (i : Nat) : Prop := ∀ k, k < e.length → ¬ (Rt e i k ∧ Rt e k i) → Rt e i k → P k
theorem Part.mr {of : Nat → Nat} {m : Nat} (hp : Part e of m) {l : List Nat} (hl : Sq e of m l) {i : Nat} (hi : i < e.length) : mrdy e (fun k => of k ∈ l) i ↔ Rdy e of (· ∈ l) (of i) := by
  constructor
  · intro h t y ht hy
    have hty := hy.lt
    have hit := (hp.eq i t hi hty.1).1 ht.symm
    by_cases hoy : of y = of i
    · exact .inl hoy
    · right
      refine h y hty.2 (fun hm => hoy ?_) (hit.1.tail hy)
      exact ((hp.eq i y hi hty.2).2 hm).symm
  · intro h k hk hnm hr
    have key : ∀ z, Rt e i z → of z = of i ∨ of z ∈ l := by
      intro z hz
      induction hz with
      | refl => exact .inl rfl
      | tail _ h2 ih =>
        rcases ih with a | a
        · exact h _ _ a h2
        · exact .inr (hl.closed _ _ a h2)
    rcases key k hr with a | a
    · exact absurd ((hp.eq i k hi hk).1 a.symm) hnm
    · exact a
/-- the model takes the first thing that is ready: its group comes next -/
theorem Part.next {of : Nat → Nat} {m : Nat} (hp : Part e of m) {l : List Nat} (hl : Sq e of m l) {i : Nat} (hi : i < e.length) (h1 : of i ∉ l) (h2 : mrdy e (fun k => of k ∈ l) i) (h3 : ∀ j, j < i → of j ∈ l ∨ ¬ mrdy e (fun k => of k ∈ l) j) : Nx e of m (· ∈ l) (of i) := by
  refine ⟨hp.lt i hi, h1, (hp.mr hl hi).1 h2, fun h hh hn hr => ?_⟩
  obtain ⟨t, ht, rfl, hu⟩ := hp.up h (of i) hh (hp.lt i hi)
  have hti := hu i hi rfl
  rcases h3 t hti with a | a
  · exact hn a
  · exact a ((hp.mr hl ht).2 hr)
/-- the model finds one -/
theorem Part.found {of : Nat → Nat} {m : Nat} (hp : Part e of m) {l : List Nat} (hl : Sq e of m l) {i : Nat} (hi : i < e.length) (h1 : of i ∉ l) : ∃ j, j < e.length ∧ of j ∉ l ∧ mrdy e (fun k => of k ∈ l) j := by
  obtain ⟨h, a, b, c⟩ := hp.some (P := (· ∈ l)) (hp.lt i hi) h1
  obtain ⟨t, ht, rfl⟩ := hp.ne h a
  exact ⟨t, ht, b, (hp.mr hl ht).2 c⟩
/-- the members of a group -/
def mem (e : List (List Int)) (of : Nat → Nat) (g : Nat) : List Nat := (List.range e.length).filter (fun t => of t == g)
end Go.Proofs.Ytmnligaelihmiaa.Gr
