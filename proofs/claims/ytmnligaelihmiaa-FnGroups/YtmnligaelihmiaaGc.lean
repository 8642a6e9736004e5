import Derived.Test.YtmnligaelihmiaaGb
namespace Go.Proofs.Ytmnligaelihmiaa.Gr
variable {e : List (List Int)} {com of : Nat → Nat} {m : Nat}
/-- groups numbered, as far as k -/
structure NumI (com : Nat → Nat) (k : Nat) (of : Nat → Nat) (m : Nat) (nb : Nat → Nat) : Prop where
  lt : ∀ t, t < k → of t < m
  eq : ∀ t u, t < k → u < k → (of t = of u ↔ com t = com u)
  ne : ∀ g, g < m → ∃ t, t < k ∧ of t = g
  up : ∀ g h, g < h → h < m → ∃ t, t < k ∧ of t = g ∧ ∀ u, u < k → of u = h → t < u
  nbs : ∀ t, t < k → nb (com t) = of t + 1
  nz : ∀ c, nb c ≠ 0 → ∃ t, t < k ∧ com t = c
  mle : m ≤ k
theorem NumI.start : NumI com 0 of 0 (fun _ => 0) := by
  refine ⟨?_, ?_, ?_, ?_, ?_, ?_, Nat.le_refl _⟩
  · intro t h; omega
  · intro t u h; omega
  · intro g h; omega
  · intro g h _ hh; omega
  · intro t h; omega
  · intro c h; exact absurd rfl h
theorem NumI.new {k : Nat} {nb : Nat → Nat} (h : NumI com k of m nb) (h0 : nb (com k) = 0) : NumI com (k + 1) (upd of k m) (m + 1) (upd nb (com k) (m + 1)) := by
  have hc : ∀ t, t < k → com t ≠ com k := fun t ht e => by
    have := h.nbs t ht; rw [e, h0] at this; omega
  have o1 : ∀ t, t < k → upd of k m t = of t := fun t ht => upd_other (by omega)
  refine ⟨fun t ht => ?_, fun t u ht hu => ?_, fun g hg => ?_, fun g h' hgh hh => ?_, fun t ht => ?_, fun c hc0 => ?_, by have := h.mle; omega⟩
  · by_cases e : t = k
    · subst e; rw [upd_same]; omega
    · rw [o1 t (by omega)]; have := h.lt t (by omega); omega
  · by_cases e1 : t = k <;> by_cases e2 : u = k
    · subst e1; subst e2; simp
    · subst e1
      rw [upd_same, o1 u (by omega)]
      have h1 := h.lt u (by omega)
      exact ⟨fun h2 => by omega, fun h2 => absurd h2.symm (hc u (by omega))⟩
    · subst e2
      rw [upd_same, o1 t (by omega)]
      have h1 := h.lt t (by omega)
      exact ⟨fun h2 => by omega, fun h2 => absurd h2 (hc t (by omega))⟩
    · rw [o1 t (by omega), o1 u (by omega)]; exact h.eq t u (by omega) (by omega)
  · by_cases e : g = m
    · subst e; exact ⟨k, by omega, upd_same _ _ _⟩
    · obtain ⟨t, ht, hg2⟩ := h.ne g (by omega)
      exact ⟨t, by omega, by rw [o1 t ht]; exact hg2⟩
  · by_cases e : h' = m
    · subst e
      obtain ⟨t, ht, hg2⟩ := h.ne g hgh
      refine ⟨t, by omega, by rw [o1 t ht]; exact hg2, fun u hu hou => ?_⟩
      by_cases e2 : u = k
      · omega
      · rw [o1 u (by omega)] at hou; have := h.lt u (by omega); omega
    · obtain ⟨t, ht, hg2, hu⟩ := h.up g h' hgh (by omega)
      refine ⟨t, by omega, by rw [o1 t ht]; exact hg2, fun u hu2 hou => ?_⟩
      by_cases e2 : u = k
      · omega
      · rw [o1 u (by omega)] at hou; exact hu u (by omega) hou
  · by_cases e : t = k
    · subst e; rw [upd_same, upd_same]
    · rw [upd_other (hc t (by omega)), o1 t (by omega)]; exact h.nbs t (by omega)
  · by_cases e : c = com k
    · exact ⟨k, by omega, e.symm⟩
    · rw [upd_other e] at hc0
      obtain ⟨t, ht, h2⟩ := h.nz c hc0
      exact ⟨t, by omega, h2⟩
theorem NumI.old {k g : Nat} {nb : Nat → Nat} (h : NumI com k of m nb) (h0 : nb (com k) = g + 1) : g < m ∧ NumI com (k + 1) (upd of k g) m nb := by
  obtain ⟨v, hv, hvc⟩ := h.nz (com k) (by omega)
  have hvg : of v = g := by have := h.nbs v hv; rw [hvc] at this; omega
  have o1 : ∀ t, t < k → upd of k g t = of t := fun t ht => upd_other (by omega)
  have hgm : g < m := by have := h.lt v hv; omega
  refine ⟨hgm, fun t ht => ?_, fun t u ht hu => ?_, fun g' hg => ?_, fun g' h' hgh hh => ?_, fun t ht => ?_, fun c hc0 => ?_, by have := h.mle; omega⟩
  · by_cases e : t = k
    · subst e; rw [upd_same]; exact hgm
    · rw [o1 t (by omega)]; exact h.lt t (by omega)
  · by_cases e1 : t = k <;> by_cases e2 : u = k
    · subst e1; subst e2; simp
    · subst e1
      rw [upd_same, o1 u (by omega), ← hvg, ← hvc]
      exact h.eq v u hv (by omega)
    · subst e2
      rw [upd_same, o1 t (by omega), ← hvg, ← hvc]
      exact h.eq t v (by omega) hv
    · rw [o1 t (by omega), o1 u (by omega)]; exact h.eq t u (by omega) (by omega)
  · obtain ⟨t, ht, hg2⟩ := h.ne g' hg
    exact ⟨t, by omega, by rw [o1 t ht]; exact hg2⟩
  · obtain ⟨t, ht, hg2, hu⟩ := h.up g' h' hgh hh
    refine ⟨t, by omega, by rw [o1 t ht]; exact hg2, fun u hu2 hou => ?_⟩
    by_cases e2 : u = k
    · omega
    · rw [o1 u (by omega)] at hou; exact hu u (by omega) hou
  · by_cases e : t = k
    · subst e; rw [upd_same]; exact h0
    · rw [o1 t (by omega)]; exact h.nbs t (by omega)
  · obtain ⟨t, ht, h2⟩ := h.nz c hc0
    exact ⟨t, by omega, h2⟩
theorem NumI.part {nb : Nat → Nat} (h : NumI com e.length of m nb) (hc : ∀ x y, x < e.length → y < e.length → (com x = com y ↔ Rt e x y ∧ Rt e y x)) : Part e of m :=
  ⟨h.lt, fun t u ht hu => (h.eq t u ht hu).trans (hc t u ht hu), h.ne, h.up⟩
/-- the members so far of a group -/
def gm (of : Nat → Nat) (k g : Nat) : List Nat := (List.range k).filter (fun t => of t == g)
theorem gm_step (of : Nat → Nat) (k g h : Nat) : gm (upd of k g) (k + 1) h = if h = g then gm of k g ++ [k] else gm of k h := by
  unfold gm
  rw [List.range_succ, List.filter_append]
  have h1 : (List.range k).filter (fun t => upd of k g t == h) = (List.range k).filter (fun t => of t == h) := by
    apply List.filter_congr
    intro t ht
    rw [upd_other (by have := List.mem_range.1 ht; omega)]
  rw [h1]
  by_cases e : h = g
  · subst e; simp [upd_same]
  · have : (g == h) = false := beq_false_of_ne (fun e2 => e e2.symm)
    simp [upd_same, e, this]
theorem gm_none {k : Nat} {nb : Nat → Nat} (h : NumI com k of m nb) : gm of k m = [] := by
  unfold gm
  rw [List.filter_eq_nil_iff]
  intro t ht
  have := h.lt t (List.mem_range.1 ht)
  have : of t ≠ m := by omega
  simp [this]
/-- what the placing knows: l placed, in order; st: settled; nx, left, wait as in the program; H ready; pend to be settled -/
structure WI (e : List (List Int)) (of : Nat → Nat) (m : Nat) (l : List Nat) (st : Nat → Bool) (nx left : Nat → Nat) (wait : Nat → List Nat) (H pend : List Nat) : Prop where
  pt : Part e of m
  sq : Sq e of m l
  lf : ∀ g, g < m → left g = ((List.range e.length).filter (fun t => of t == g && !st t)).length
  pn : pend.Nodup
  pl : ∀ t ∈ pend, t < e.length ∧ st t = false ∧ ∀ g, g < m → t ∉ wait g
  wn : ∀ g, g < m → (wait g).Nodup
  wl : ∀ g, g < m → ∀ t ∈ wait g, t < e.length ∧ st t = false ∧ g ∉ l ∧ g ≠ of t ∧ (∀ h, h < m → t ∈ wait h → h = g) ∧ ∃ y, Ed e t y ∧ of y = g
  al : ∀ t, t < e.length → st t = false → t ∈ pend ∨ ∃ g, g < m ∧ t ∈ wait g
  nxt : ∀ t j r (y : Nat), j < nx t → e[t]? = some r → r[j]? = some (y : Int) → y < e.length → of y = of t ∨ of y ∈ l
  sx : ∀ t y, st t = true → Ed e t y → of y = of t ∨ of y ∈ l
  ls : ∀ t, t < e.length → of t ∈ l → st t = true
  hn : H.Nodup
  hh : ∀ g, g ∈ H ↔ g < m ∧ left g = 0 ∧ g ∉ l
variable {l : List Nat} {st : Nat → Bool} {nx left : Nat → Nat} {wait : Nat → List Nat} {H pend : List Nat}
theorem WI.skip (h : WI e of m l st nx left wait H pend) {t : Nat} {r : List Int} (hr : e[t]? = some r) (hs : ∀ y : Nat, r[nx t]? = some (y : Int) → y < e.length → of y = of t ∨ of y ∈ l) : WI e of m l st (upd nx t (nx t + 1)) left wait H pend := by
  refine ⟨h.pt, h.sq, h.lf, h.pn, h.pl, h.wn, h.wl, h.al, ?_, h.sx, h.ls, h.hn, h.hh⟩
  intro u j r2 y hj hr2 hv hy
  by_cases e1 : u = t
  · subst e1
    rw [upd_same] at hj
    by_cases e2 : j < nx u
    · exact h.nxt u j r2 y e2 hr2 hv hy
    · have : j = nx u := by omega
      subst this
      rw [hr] at hr2; cases hr2
      exact hs y hv hy
  · rw [upd_other e1] at hj; exact h.nxt u j r2 y hj hr2 hv hy
def updL (f : Nat → List Nat) (x : Nat) (v : List Nat) : Nat → List Nat := fun y => if y = x then v else f y
theorem updL_same (f : Nat → List Nat) (x : Nat) (v : List Nat) : updL f x v x = v := by simp [updL]
theorem updL_other {f : Nat → List Nat} {x y : Nat} {v : List Nat} (h : y ≠ x) : updL f x v y = f y := by simp [updL, h]
theorem WI.defer {t : Nat} {rest : List Nat} (h : WI e of m l st nx left wait H (t :: rest)) {y : Nat} (hy : Ed e t y) (h1 : of y ≠ of t) (h2 : of y ∉ l) : WI e of m l st nx left (updL wait (of y) (wait (of y) ++ [t])) H rest := by
  have hpt := h.pl t (by simp)
  have hym := h.pt.lt y hy.1
  have hnr := (List.nodup_cons.1 h.pn)
  refine ⟨h.pt, h.sq, h.lf, hnr.2, ?_, ?_, ?_, ?_, h.nxt, h.sx, h.ls, h.hn, h.hh⟩
  · intro u hu
    have hu2 := h.pl u (List.mem_cons_of_mem _ hu)
    refine ⟨hu2.1, hu2.2.1, fun g hg => ?_⟩
    by_cases e1 : g = of y
    · subst e1
      rw [updL_same]
      intro hm
      rcases List.mem_append.1 hm with a | a
      · exact hu2.2.2 _ hg a
      · rw [List.mem_singleton.1 a] at hu; exact hnr.1 hu
    · rw [updL_other e1]; exact hu2.2.2 g hg
  · intro g hg
    by_cases e1 : g = of y
    · subst e1
      rw [updL_same, List.nodup_append]
      refine ⟨h.wn _ hg, by simp, fun a ha b hb hab => ?_⟩
      rw [List.mem_singleton.1 hb] at hab; subst hab
      exact hpt.2.2 _ hg ha
    · rw [updL_other e1]; exact h.wn g hg
  · intro g hg u hu
    have other : ∀ u, u ≠ t → ∀ g, g < m → (u ∈ updL wait (of y) (wait (of y) ++ [t]) g ↔ u ∈ wait g) := by
      intro u hut g hg
      by_cases e1 : g = of y
      · subst e1; rw [updL_same]; simp [hut]
      · rw [updL_other e1]
    have this' : ∀ g, g < m → t ∈ updL wait (of y) (wait (of y) ++ [t]) g → g = of y := by
      intro g hg hm
      by_cases e1 : g = of y
      · exact e1
      · rw [updL_other e1] at hm; exact absurd hm (hpt.2.2 g hg)
    by_cases e1 : u = t
    · subst e1
      have := this' g hg hu
      subst this
      exact ⟨hpt.1, hpt.2.1, h2, h1, fun k hk hm => this' k hk hm, y, hy, rfl⟩
    · obtain ⟨a, b, c, d, f, k⟩ := h.wl g hg u ((other u e1 g hg).1 hu)
      exact ⟨a, b, c, d, fun k hk hm => f k hk ((other u e1 k hk).1 hm), k⟩
  · intro u hu hs
    rcases h.al u hu hs with a | ⟨g, hg, a⟩
    · rcases List.mem_cons.1 a with a | a
      · subst a
        exact .inr ⟨of y, hym, by rw [updL_same]; simp⟩
      · exact .inl a
    · refine .inr ⟨g, hg, ?_⟩
      by_cases e1 : g = of y
      · subst e1; rw [updL_same]; exact List.mem_append.2 (.inl a)
      · rw [updL_other e1]; exact a
def updB (f : Nat → Bool) (x : Nat) : Nat → Bool := fun y => if y = x then true else f y
theorem count_settle {n t g : Nat} {of : Nat → Nat} {st : Nat → Bool} (ht : t < n) (hs : st t = false) (hg : of t = g) : ((List.range n).filter (fun u => of u == g && !updB st t u)).length + 1 = ((List.range n).filter (fun u => of u == g && !st u)).length := by
  induction n with
  | zero => omega
  | succ n ih =>
    rw [List.range_succ, List.filter_append, List.filter_append, List.length_append, List.length_append]
    by_cases e1 : t = n
    · subst e1
      have h1 : (List.range t).filter (fun u => of u == g && !updB st t u) = (List.range t).filter (fun u => of u == g && !st u) := by
        apply List.filter_congr
        intro u hu
        have : u ≠ t := by have := List.mem_range.1 hu; omega
        simp [updB, this]
      rw [h1]
      simp [updB, hs, hg]
    · have h1 := ih (by omega)
      have hnt : n ≠ t := fun e => e1 e.symm
      have h2 : updB st t n = st n := by simp [updB, hnt]
      by_cases h3 : (of n == g && !st n) = true
      · simp only [List.filter_cons, List.filter_nil, h2, h3, if_true, List.length_singleton]; omega
      · simp only [List.filter_cons, List.filter_nil, h2, if_neg h3, List.length_nil]; omega
theorem count_other {n t g : Nat} {of : Nat → Nat} {st : Nat → Bool} (hg : of t ≠ g) : (List.range n).filter (fun u => of u == g && !updB st t u) = (List.range n).filter (fun u => of u == g && !st u) := by
  apply List.filter_congr
  intro u _
  by_cases e1 : u = t
  · subst e1; rw [beq_false_of_ne hg, Bool.false_and, Bool.false_and]
  · have : updB st t u = st u := by simp [updB, e1]
    rw [this]
theorem WI.settle {t : Nat} {rest : List Nat} (h : WI e of m l st nx left wait H (t :: rest)) {r : List Int} (hr : e[t]? = some r) (hd : r.length ≤ nx t) : 0 < left (of t) ∧ (left (of t) - 1 ≠ 0 → WI e of m l (updB st t) nx (upd left (of t) (left (of t) - 1)) wait H rest) ∧ (left (of t) - 1 = 0 → ∀ H', H'.Perm (of t :: H) → WI e of m l (updB st t) nx (upd left (of t) (left (of t) - 1)) wait H' rest) := by
  have hpt := h.pl t (by simp)
  have htm := h.pt.lt t hpt.1
  have hnr := (List.nodup_cons.1 h.pn)
  have hc := count_settle (of := of) (st := st) hpt.1 hpt.2.1 rfl
  have hl := h.lf (of t) htm
  have hpos : 0 < left (of t) := by omega
  have hsx : ∀ y, Ed e t y → of y = of t ∨ of y ∈ l := by
    rintro y ⟨hy, r2, hr2, hm⟩
    rw [hr] at hr2; cases hr2
    obtain ⟨j, hj, hjv⟩ := List.getElem_of_mem hm
    exact h.nxt t j r y (by omega) hr (by rw [List.getElem?_eq_getElem hj, hjv]) hy
  have hnl : of t ∉ l := fun hm => by have := h.ls t hpt.1 hm; rw [hpt.2.1] at this; cases this
  have lo : ∀ g, g ≠ of t → upd left (of t) (left (of t) - 1) g = left g := fun g hg => upd_other hg
  have st2 : ∀ u, updB st t u = false → st u = false ∧ u ≠ t := fun u hu => by
    by_cases e1 : u = t
    · subst e1; simp [updB] at hu
    · simp [updB, e1] at hu; exact ⟨hu, e1⟩
  have st1 : ∀ u, u ≠ t → updB st t u = st u := fun u hu => by simp [updB, hu]
  have base : ∀ H', H'.Nodup → (∀ g, g ∈ H' ↔ g < m ∧ upd left (of t) (left (of t) - 1) g = 0 ∧ g ∉ l) → WI e of m l (updB st t) nx (upd left (of t) (left (of t) - 1)) wait H' rest := by
    intro H' hn' hh'
    refine ⟨h.pt, h.sq, ?_, hnr.2, ?_, h.wn, ?_, ?_, h.nxt, ?_, ?_, hn', hh'⟩
    · intro g hg
      by_cases e1 : g = of t
      · subst e1; rw [upd_same]; omega
      · rw [lo g e1, count_other (fun e2 => e1 e2.symm)]; exact h.lf g hg
    · intro u hu
      have := h.pl u (List.mem_cons_of_mem _ hu)
      refine ⟨this.1, ?_, this.2.2⟩
      rw [st1 u (fun e2 => by subst e2; exact hnr.1 hu)]; exact this.2.1
    · intro g hg u hu
      obtain ⟨a, b, c⟩ := h.wl g hg u hu
      exact ⟨a, by rw [st1 u (fun e2 => by subst e2; exact hpt.2.2 g hg hu)]; exact b, c⟩
    · intro u hu hs
      obtain ⟨h1, h2⟩ := st2 u hs
      rcases h.al u hu h1 with a | a
      · rcases List.mem_cons.1 a with a | a
        · exact absurd a h2
        · exact .inl a
      · exact .inr a
    · intro u y hs hy
      by_cases e1 : u = t
      · subst e1; exact hsx y hy
      · rw [st1 u e1] at hs; exact h.sx u y hs hy
    · intro u hu hm
      by_cases e1 : u = t
      · subst e1; simp [updB]
      · rw [st1 u e1]; exact h.ls u hu hm
  refine ⟨hpos, fun h0 => base H h.hn (fun g => ?_), fun h0 H' hp => base H' ?_ (fun g => ?_)⟩
  · by_cases e1 : g = of t
    · subst e1
      rw [upd_same, h.hh]
      exact ⟨fun h2 => by omega, fun h2 => absurd h2.2.1 h0⟩
    · rw [lo g e1]; exact h.hh g
  · rw [hp.nodup_iff]
    exact List.nodup_cons.2 ⟨fun hm => by have := ((h.hh _).1 hm).2.1; omega, h.hn⟩
  · rw [hp.mem_iff]
    by_cases e1 : g = of t
    · subst e1
      rw [upd_same]
      exact ⟨fun _ => ⟨htm, h0, hnl⟩, fun _ => by simp⟩
    · rw [lo g e1]; simp [e1]; have := h.hh g; simpa using this
/-- the least of those that are ready comes next -/
theorem WI.next {g : Nat} (h : WI e of m l st nx left wait H []) (hg : g ∈ H) (hm : ∀ k, k ∈ H → g ≤ k) : Nx e of m (· ∈ l) g := by
  obtain ⟨h1, h2, h3⟩ := (h.hh g).1 hg
  have settled : ∀ k, k < m → left k = 0 → ∀ t, t < e.length → of t = k → st t = true := by
    intro k hk hl t ht hot
    cases hs : st t with
    | true => rfl
    | false =>
      have h4 := h.lf k hk
      have h5 : t ∈ (List.range e.length).filter (fun t => of t == k && !st t) := by
        rw [List.mem_filter]; exact ⟨List.mem_range.2 ht, by simp [hot, hs]⟩
      have := List.length_pos_of_mem h5
      omega
  refine ⟨h1, h3, fun t y ht hy => ?_, fun k hk hnk hr => ?_⟩
  · have := h.sx t y (settled g h1 h2 t hy.lt.1 ht) hy
    rw [ht] at this; exact this
  · have hkm : k < m := by omega
    have hl0 : left k = 0 := by
      rw [h.lf k hkm, List.length_eq_zero_iff, List.filter_eq_nil_iff]
      intro t ht hb
      have ht' := List.mem_range.1 ht
      simp at hb
      obtain ⟨a, b⟩ := hb
      rcases h.al t ht' b with c | ⟨w, hw, c⟩
      · simp at c
      · obtain ⟨-, -, d, f, -, y, hy, hoy⟩ := h.wl w hw t c
        rcases hr t y a hy with i | i
        · rw [hoy] at i; exact f (i.trans a.symm)
        · rw [hoy] at i; exact d i
    have := hm k ((h.hh k).2 ⟨hkm, hl0, hnk⟩)
    omega
theorem WI.place {g : Nat} {H' : List Nat} (h : WI e of m l st nx left wait H []) (hg : Nx e of m (· ∈ l) g) (hp : H.Perm (g :: H')) : WI e of m (l ++ [g]) st nx left (updL wait g []) H' (wait g) := by
  have hgH : g ∈ H := by rw [hp.mem_iff]; simp
  obtain ⟨h1, h2, h3⟩ := (h.hh g).1 hgH
  have hnd := hp.nodup_iff.1 h.hn
  have mono : ∀ k, k ∈ l → k ∈ l ++ [g] := fun k hk => List.mem_append.2 (.inl hk)
  refine ⟨h.pt, .snoc h.sq hg, h.lf, h.wn g h1, ?_, ?_, ?_, ?_, ?_, ?_, ?_, (List.nodup_cons.1 hnd).2, ?_⟩
  · intro t ht
    obtain ⟨a, b, c, d, f, k⟩ := h.wl g h1 t ht
    refine ⟨a, b, fun w hw hm => ?_⟩
    by_cases e1 : w = g
    · subst e1; rw [updL_same] at hm; simp at hm
    · rw [updL_other e1] at hm; exact e1 (f w hw hm)
  · intro w hw
    by_cases e1 : w = g
    · subst e1; rw [updL_same]; exact List.nodup_nil
    · rw [updL_other e1]; exact h.wn w hw
  · intro w hw t ht
    by_cases e1 : w = g
    · subst e1; rw [updL_same] at ht; simp at ht
    · rw [updL_other e1] at ht
      obtain ⟨a, b, c, d, f, k⟩ := h.wl w hw t ht
      refine ⟨a, b, fun hm => ?_, d, fun v hv hm => ?_, k⟩
      · rcases List.mem_append.1 hm with i | i
        · exact c i
        · exact e1 (List.mem_singleton.1 i)
      · by_cases e2 : v = g
        · subst e2; rw [updL_same] at hm; simp at hm
        · rw [updL_other e2] at hm; exact f v hv hm
  · intro t ht hs
    rcases h.al t ht hs with a | ⟨w, hw, a⟩
    · simp at a
    · by_cases e1 : w = g
      · subst e1; exact .inl a
      · exact .inr ⟨w, hw, by rw [updL_other e1]; exact a⟩
  · intro t j r y hj hr hv hy
    rcases h.nxt t j r y hj hr hv hy with a | a
    · exact .inl a
    · exact .inr (mono _ a)
  · intro t y hs hy
    rcases h.sx t y hs hy with a | a
    · exact .inl a
    · exact .inr (mono _ a)
  · intro t ht hm
    rcases List.mem_append.1 hm with a | a
    · exact h.ls t ht a
    · cases hs : st t with
      | true => rfl
      | false =>
        have h4 := h.lf g h1
        have h5 : t ∈ (List.range e.length).filter (fun t => of t == g && !st t) := by
          rw [List.mem_filter]; exact ⟨List.mem_range.2 ht, by simp [List.mem_singleton.1 a, hs]⟩
        have := List.length_pos_of_mem h5
        omega
  · intro k
    have h4 := h.hh k
    rw [hp.mem_iff, List.mem_cons] at h4
    constructor
    · intro hk
      obtain ⟨a, b, c⟩ := h4.1 (.inr hk)
      refine ⟨a, b, fun hm => ?_⟩
      rcases List.mem_append.1 hm with i | i
      · exact c i
      · rw [List.mem_singleton.1 i] at hk; exact (List.nodup_cons.1 hnd).1 hk
    · rintro ⟨a, b, c⟩
      rcases h4.2 ⟨a, b, fun hm => c (mono _ hm)⟩ with i | i
      · exact absurd (by rw [i]; simp) c
      · exact i
theorem WI.start (hp : Part e of m) (hl : ∀ g, g < m → left g = ((List.range e.length).filter (fun t => of t == g)).length) : WI e of m [] (fun _ => false) (fun _ => 0) left (fun _ => []) [] (List.range e.length) := by
  refine ⟨hp, .nil, ?_, List.nodup_range, ?_, ?_, ?_, ?_, ?_, ?_, ?_, List.nodup_nil, ?_⟩
  · intro g hg; rw [hl g hg]; simp
  · intro t ht; exact ⟨List.mem_range.1 ht, rfl, fun _ _ h => by simp at h⟩
  · intro _ _; exact List.nodup_nil
  · intro _ _ _ h; simp at h
  · intro t ht _; exact .inl (List.mem_range.2 ht)
  · intro _ _ _ _ h; omega
  · intro _ _ h; simp at h
  · intro _ _ h; simp at h
  · intro g
    constructor
    · intro h; simp at h
    · rintro ⟨a, b, -⟩
      rw [hl g a] at b
      obtain ⟨t, ht, hg⟩ := hp.ne g a
      have : t ∈ (List.range e.length).filter (fun t => of t == g) := by rw [List.mem_filter]; exact ⟨List.mem_range.2 ht, by simp [hg]⟩
      have := List.length_pos_of_mem this
      omega
/-- nothing is ready any more: all are placed -/
theorem WI.fin (h : WI e of m l st nx left wait [] []) : l.length = m ∧ ∀ g, g < m → g ∈ l := by
  have all : ∀ g, g < m → g ∈ l := by
    intro g hg
    apply Classical.byContradiction
    intro hn
    obtain ⟨k, a, b, c⟩ := h.pt.some (P := (· ∈ l)) hg hn
    obtain ⟨k, ⟨a, b, c⟩, d⟩ := least_of (Q := fun k => k < m ∧ k ∉ l ∧ Rdy e of (· ∈ l) k) ⟨a, b, c⟩
    -- it would be ready
    have hl0 : left k = 0 := by
      rw [h.lf k a, List.length_eq_zero_iff, List.filter_eq_nil_iff]
      intro t ht hb
      have ht' := List.mem_range.1 ht
      simp at hb
      obtain ⟨i, j⟩ := hb
      rcases h.al t ht' j with p | ⟨w, hw, p⟩
      · simp at p
      · obtain ⟨-, -, q, f, -, y, hy, hoy⟩ := h.wl w hw t p
        rcases c t y i hy with r | r
        · rw [hoy] at r; exact f (r.trans i.symm)
        · rw [hoy] at r; exact q r
    have := (h.hh k).2 ⟨a, hl0, b⟩
    simp at this
  exact ⟨h.sq.len all, all⟩
end Go.Proofs.Ytmnligaelihmiaa.Gr
