import Derived.Test.YtmnligaelihmiaaKa
namespace Go.Proofs.Ytmnligaelihmiaa.Gr
def B : Nat := 9223372036854775807
/-- one thing names another one that there is -/
def Ed (e : List (List Int)) (x y : Nat) : Prop := y < e.length ∧ ∃ r, e[x]? = some r ∧ (y : Int) ∈ r
inductive Rt (e : List (List Int)) (a : Nat) : Nat → Prop
  | refl : Rt e a a
  | tail {b c : Nat} : Rt e a b → Ed e b c → Rt e a c
theorem Rt.trans {e : List (List Int)} {a b c : Nat} (h : Rt e a b) (k : Rt e b c) : Rt e a c := by
  induction k with
  | refl => exact h
  | tail _ h2 ih => exact ih.tail h2
theorem Rt.one {e : List (List Int)} {a b : Nat} (h : Ed e a b) : Rt e a b := .tail .refl h
def upd (f : Nat → Nat) (x v : Nat) : Nat → Nat := fun y => if y = x then v else f y
theorem upd_same (f : Nat → Nat) (x v : Nat) : upd f x v x = v := by simp [upd]
theorem upd_other {f : Nat → Nat} {x v y : Nat} (h : y ≠ x) : upd f x v y = f y := by simp [upd, h]
/-- the walk's state; path and open with their ends ahead -/
structure St where
  num : Nat → Nat
  least : Nat → Nat
  nxt : Nat → Nat
  com : Nat → Nat
  path : List Nat
  opn : List Nat
  cnt : Nat
def lk (e : List (List Int)) (s : St) (x y : Nat) : Prop := y < e.length ∧ ∃ r j, e[x]? = some r ∧ j < s.nxt x ∧ r[j]? = some (y : Int)
/-- the last of the path that came no later than a thing -/
def lastAt (s : St) (x p : Nat) : Prop := p ∈ s.path ∧ s.num p ≤ s.num x ∧ ∀ q ∈ s.path, s.num q ≤ s.num x → s.num q ≤ s.num p
structure Inv (e : List (List Int)) (s : St) : Prop where
  nB : e.length < B
  op : ∀ x, x ∈ s.opn ↔ x < e.length ∧ 0 < s.num x ∧ s.num x ≠ B
  so : s.opn.Pairwise (fun a b => s.num b < s.num a)
  le : ∀ x ∈ s.opn, s.num x ≤ s.cnt
  ct : s.cnt + ((List.range e.length).filter (fun x => s.num x == 0)).length = e.length
  zr : ∀ x, s.num x = 0 → s.nxt x = 0
  sub : s.path.Sublist s.opn
  d : ∀ p ∈ s.path, ∀ x ∈ s.opn, s.num p ≤ s.num x → Rt e p x
  up : ∀ x ∈ s.opn, ∃ p, lastAt s x p ∧ Rt e x p
  l1 : ∀ p ∈ s.path, s.least p ≤ s.num p ∧ ∃ y ∈ s.opn, s.num y = s.least p ∧ Rt e p y
  f : ∀ x ∈ s.opn, ∀ p, lastAt s x p → ∀ y, lk e s x y → 0 < s.num y ∧ (y ∈ s.opn → s.least p ≤ s.num y)
  g : ∀ x ∈ s.opn, x ∉ s.path → ∀ y, Ed e x y → lk e s x y
  hcl : ∀ x, x < e.length → s.num x = B → ∀ y, Ed e x y → s.num y = B
  hcm : ∀ x, x < e.length → s.num x = B → s.com x < e.length ∧ s.num (s.com x) = B ∧ Rt e x (s.com x) ∧ Rt e (s.com x) x
  hcc : ∀ x y, x < e.length → y < e.length → s.num x = B → s.num y = B → Rt e x y → Rt e y x → s.com x = s.com y
variable {e : List (List Int)} {s : St}
theorem Inv.inj (h : Inv e s) {x y : Nat} (hx : x ∈ s.opn) (hy : y ∈ s.opn) (he : s.num x = s.num y) : x = y := by
  have := h.so
  obtain ⟨i, hi, rfl⟩ := List.getElem_of_mem hx
  obtain ⟨j, hj, rfl⟩ := List.getElem_of_mem hy
  rw [List.pairwise_iff_getElem] at this
  rcases Nat.lt_trichotomy i j with h1 | h1 | h1
  · have := this i j hi hj h1; omega
  · subst h1; rfl
  · have := this j i hj hi h1; omega
theorem Inv.pn (h : Inv e s) {x : Nat} (hx : x ∈ s.path) : x ∈ s.opn := h.sub.subset hx
/-- the end of the path has the greatest number on it -/
theorem Inv.top (h : Inv e s) {x : Nat} {r : List Nat} (hp : s.path = x :: r) : ∀ q ∈ r, s.num q < s.num x := by
  have h1 : s.path.Pairwise (fun a b => s.num b < s.num a) := h.so.sublist h.sub
  rw [hp] at h1
  exact (List.pairwise_cons.1 h1).1
theorem last_path {x : Nat} {r : List Nat} (hp : s.path = x :: r) : lastAt s x x := by
  refine ⟨by rw [hp]; simp, Nat.le_refl _, fun q hq hn => hn⟩
theorem Inv.last_eq (h : Inv e s) {x p q : Nat} (hp : lastAt s x p) (hq : lastAt s x q) : p = q :=
  h.inj (h.pn hp.1) (h.pn hq.1) (Nat.le_antisymm (hq.2.2 _ hp.1 hp.2.1) (hp.2.2 _ hq.1 hq.2.1))
theorem Inv.cnt_lt (h : Inv e s) {y : Nat} (hy : y < e.length) (h0 : s.num y = 0) : s.cnt < e.length := by
  have h1 := h.ct
  have h2 : y ∈ (List.range e.length).filter (fun x => s.num x == 0) := by simp [hy, h0]
  have := List.length_pos_of_mem h2
  omega
/-- an edge that leads nowhere -/
def adv (s : St) (x : Nat) : St := { s with nxt := upd s.nxt x (s.nxt x + 1) }
theorem lk_adv {x z y : Nat} (h : lk e (adv s x) z y) : lk e s z y ∨ (z = x ∧ ∃ r, e[x]? = some r ∧ r[s.nxt x]? = some (y : Int) ∧ y < e.length) := by
  obtain ⟨hy, r, j, hr, hj, hv⟩ := h
  by_cases hz : z = x
  · subst hz
    simp only [adv, upd_same] at hj
    by_cases hj2 : j < s.nxt z
    · exact .inl ⟨hy, r, j, hr, hj2, hv⟩
    · have : j = s.nxt z := by omega
      subst this
      exact .inr ⟨rfl, r, hr, hv, hy⟩
  · simp only [adv, upd_other hz] at hj
    exact .inl ⟨hy, r, j, hr, hj, hv⟩
theorem lk_mono {x z y : Nat} (h : lk e s z y) : lk e (adv s x) z y := by
  obtain ⟨hy, r, j, hr, hj, hv⟩ := h
  refine ⟨hy, r, j, hr, ?_, hv⟩
  by_cases hz : z = x
  · subst hz; simp only [adv, upd_same]; omega
  · simp only [adv, upd_other hz]; exact hj
theorem Inv.adv (h : Inv e s) {x : Nat} (hx : s.num x ≠ 0) (hs : ∀ r, e[x]? = some r → ∀ y : Nat, r[s.nxt x]? = some (y : Int) → y < e.length → ∀ p, lastAt s x p → 0 < s.num y ∧ (y ∈ s.opn → s.least p ≤ s.num y)) : Inv e (adv s x) where
  nB := h.nB
  op := h.op
  so := h.so
  le := h.le
  ct := h.ct
  zr := fun z hz => by
    have : z ≠ x := fun e => hx (e ▸ hz)
    simp only [Gr.adv, upd_other this]; exact h.zr z hz
  sub := h.sub
  d := h.d
  up := h.up
  l1 := h.l1
  f := fun z hz p hp y hy => by
    rcases lk_adv hy with h1 | ⟨rfl, r, hr, hv, hn⟩
    · exact h.f z hz p hp y h1
    · exact hs r hr y hv hn p hp
  g := fun z hz hp y hy => lk_mono (h.g z hz hp y hy)
  hcl := h.hcl
  hcm := h.hcm
  hcc := h.hcc
def seen (s : St) (x y : Nat) : St := { adv s x with least := upd s.least x (min (s.least x) (s.num y)) }
theorem Inv.seen (h : Inv e s) {x y : Nat} {l : List Nat} (hp : s.path = x :: l) {row : List Int} (hr : e[x]? = some row) (hv : row[s.nxt x]? = some (y : Int)) (hy : y < e.length) (hn : 0 < s.num y) : Inv e (seen s x y) := by
  have hxo : x ∈ s.opn := h.pn (by rw [hp]; simp)
  have hx0 := ((h.op x).1 hxo).2.1
  have hed : Ed e x y := ⟨hy, row, hr, List.mem_of_getElem? hv⟩
  have hbase : ∀ p, lastAt (Gr.seen s x y) x p → p = x := fun p hp2 => h.last_eq (x := x) hp2 (last_path hp)
  refine ⟨h.nB, h.op, h.so, h.le, h.ct, ?_, h.sub, h.d, h.up, ?_, ?_, ?_, h.hcl, h.hcm, h.hcc⟩
  · intro z hz
    have : z ≠ x := fun e => by subst e; exact absurd hz (by show ¬ s.num z = 0; omega)
    show upd _ _ _ _ = 0
    rw [upd_other this]; exact h.zr z hz
  · intro p hpp
    obtain ⟨h1, w, hw, hw2, hw3⟩ := h.l1 p hpp
    show upd _ _ _ _ ≤ _ ∧ ∃ w ∈ s.opn, s.num w = upd _ _ _ _ ∧ _
    by_cases hpx : p = x
    · subst hpx
      rw [upd_same]
      refine ⟨Nat.le_trans (Nat.min_le_left _ _) h1, ?_⟩
      by_cases hm : s.least p ≤ s.num y
      · rw [Nat.min_eq_left hm]; exact ⟨w, hw, hw2, hw3⟩
      · rw [Nat.min_eq_right (by omega)]
        refine ⟨y, (h.op y).2 ⟨hy, hn, ?_⟩, rfl, .one hed⟩
        have h3 := h.le p hxo
        have h4 := ((h.op p).1 hxo).2.2
        intro hB
        rw [hB] at hm
        have := h.ct
        have := h.nB
        omega
    · rw [upd_other hpx]; exact ⟨h1, w, hw, hw2, hw3⟩
  · intro z hz p hlp w hw
    have hw' : lk e (Gr.adv s x) z w := hw
    show 0 < s.num w ∧ (w ∈ s.opn → upd _ _ _ _ ≤ s.num w)
    have hle : ∀ k, upd s.least x (min (s.least x) (s.num y)) k ≤ s.least k := fun k => by
      by_cases hk : k = x
      · subst hk; rw [upd_same]; exact Nat.min_le_left _ _
      · rw [upd_other hk]; exact Nat.le_refl _
    rcases lk_adv hw' with h1 | ⟨rfl, r2, hr2, hv2, hn2⟩
    · have := h.f z hz p hlp w h1
      exact ⟨this.1, fun ho => Nat.le_trans (hle p) (this.2 ho)⟩
    · have hpz := hbase p hlp
      subst hpz
      rw [hr] at hr2; cases hr2
      rw [hv] at hv2
      have : y = w := by have := Option.some.inj hv2; omega
      subst this
      exact ⟨hn, fun _ => by rw [upd_same]; exact Nat.min_le_right _ _⟩
  · intro z hz hzp w hw
    exact lk_mono (h.g z hz hzp w hw)
/-- a thing that was not come to -/
def come (s : St) (y : Nat) : St := { cnt := s.cnt + 1, num := upd s.num y (s.cnt + 1), least := upd s.least y (s.cnt + 1), nxt := upd s.nxt y 0, com := upd s.com y 0, path := y :: s.path, opn := y :: s.opn }
theorem filter_upd {n y v : Nat} {f : Nat → Nat} (hy : y < n) (h0 : f y = 0) (hv : 0 < v) : ((List.range n).filter (fun x => upd f y v x == 0)).length + 1 = ((List.range n).filter (fun x => f x == 0)).length := by
  induction n with
  | zero => omega
  | succ n ih =>
    rw [List.range_succ, List.filter_append, List.filter_append, List.length_append, List.length_append]
    by_cases hyn : y = n
    · subst hyn
      have h1 : (List.range y).filter (fun x => upd f y v x == 0) = (List.range y).filter (fun x => f x == 0) := by
        apply List.filter_congr
        intro x hx
        have : x ≠ y := by have := List.mem_range.1 hx; omega
        rw [upd_other this]
      rw [h1]
      have h2 : (upd f y v y == 0) = false := by rw [upd_same]; simp; omega
      simp [h2, h0]
    · have h1 := ih (by omega)
      have h2 : upd f y v n = f n := upd_other (by omega)
      by_cases h3 : f n = 0
      · simp [h2, h3]; omega
      · simp [h2, h3]; omega
theorem Inv.come (h : Inv e s) {y : Nat} (hy : y < e.length) (h0 : s.num y = 0) (hd : ∀ p ∈ s.path, Rt e p y) : Inv e (come s y) := by
  have hc := h.cnt_lt hy h0
  have hnB := h.nB
  have hno : y ∉ s.opn := fun hm => by have := ((h.op y).1 hm).2.1; omega
  have ne : ∀ x ∈ s.opn, x ≠ y := fun x hx e => hno (e ▸ hx)
  have nu : ∀ x ∈ s.opn, upd s.num y (s.cnt + 1) x = s.num x := fun x hx => upd_other (ne x hx)
  have npath : ∀ x ∈ s.path, x ≠ y := fun x hx => ne x (h.pn hx)
  have hlast : ∀ x ∈ s.opn, ∀ p, lastAt (Gr.come s y) x p → lastAt s x p := by
    intro x hx p hp
    have hxn := nu x hx
    obtain ⟨h1, h2, h3⟩ := hp
    have h2' : upd s.num y (s.cnt + 1) p ≤ s.num x := by rw [← hxn]; exact h2
    have hpp : p ∈ s.path := by
      rcases List.mem_cons.1 h1 with e | e
      · subst e; rw [upd_same] at h2'; have := h.le x hx; omega
      · exact e
    refine ⟨hpp, by rw [← nu p (h.pn hpp)]; exact h2', fun q hq hqn => ?_⟩
    have := h3 q (List.mem_cons_of_mem _ hq) (by show upd _ _ _ _ ≤ upd _ _ _ _; rw [nu q (h.pn hq), hxn]; exact hqn)
    have h4 : upd s.num y (s.cnt + 1) q ≤ upd s.num y (s.cnt + 1) p := this
    rw [nu q (h.pn hq), nu p (h.pn hpp)] at h4
    exact h4
  have hlk : ∀ x, x ≠ y → ∀ w, lk e (Gr.come s y) x w → lk e s x w := by
    rintro x hx w ⟨hw, r, j, hr, hj, hv⟩
    have : j < upd s.nxt y 0 x := hj
    rw [upd_other hx] at this
    exact ⟨hw, r, j, hr, this, hv⟩
  refine ⟨h.nB, ?_, ?_, ?_, ?_, ?_, ?_, ?_, ?_, ?_, ?_, ?_, ?_, ?_, ?_⟩
  · intro x
    show x ∈ y :: s.opn ↔ x < e.length ∧ 0 < upd _ _ _ _ ∧ upd _ _ _ _ ≠ B
    by_cases hx : x = y
    · subst hx; rw [upd_same]; simp [hy]; omega
    · rw [upd_other hx]; simp [hx]; have := h.op x; simpa using this
  · show (y :: s.opn).Pairwise (fun a b => upd _ _ _ b < upd _ _ _ a)
    refine List.pairwise_cons.2 ⟨fun x hx => ?_, ?_⟩
    · rw [upd_same, nu x hx]; have := h.le x hx; omega
    · refine List.Pairwise.imp_of_mem ?_ h.so
      intro a b ha hb hab
      rw [nu a ha, nu b hb]; exact hab
  · intro x hx
    show upd _ _ _ _ ≤ s.cnt + 1
    rcases List.mem_cons.1 hx with e | e
    · subst e; rw [upd_same]; exact Nat.le_refl _
    · rw [nu x e]; have := h.le x e; omega
  · have := filter_upd (v := s.cnt + 1) hy h0 (by omega)
    have h2 := h.ct
    show s.cnt + 1 + ((List.range e.length).filter (fun x => upd s.num y (s.cnt + 1) x == 0)).length = e.length
    omega
  · intro x hx
    show upd _ _ _ _ = 0
    by_cases hxy : x = y
    · subst hxy; rw [upd_same]
    · rw [upd_other hxy]
      refine h.zr x ?_
      have : upd s.num y (s.cnt + 1) x = 0 := hx
      rw [upd_other hxy] at this; exact this
  · exact h.sub.cons_cons y
  · intro p hp x hx hpx
    have hpx' : upd s.num y (s.cnt + 1) p ≤ upd s.num y (s.cnt + 1) x := hpx
    rcases List.mem_cons.1 hp with e1 | e1
    · subst e1
      rcases List.mem_cons.1 hx with e2 | e2
      · subst e2; exact .refl
      · rw [upd_same, nu x e2] at hpx'; have := h.le x e2; omega
    · rcases List.mem_cons.1 hx with e2 | e2
      · subst e2; exact hd p e1
      · rw [nu p (h.pn e1), nu x e2] at hpx'; exact h.d p e1 x e2 hpx'
  · intro x hx
    rcases List.mem_cons.1 hx with e1 | e1
    · subst e1; exact ⟨x, last_path rfl, .refl⟩
    · obtain ⟨p, hp, hr⟩ := h.up x e1
      refine ⟨p, ⟨List.mem_cons_of_mem _ hp.1, ?_, ?_⟩, hr⟩
      · show upd _ _ _ _ ≤ upd _ _ _ _
        rw [nu p (h.pn hp.1), nu x e1]; exact hp.2.1
      · intro q hq hqn
        have hqn' : upd s.num y (s.cnt + 1) q ≤ upd s.num y (s.cnt + 1) x := hqn
        show upd _ _ _ _ ≤ upd _ _ _ _
        rcases List.mem_cons.1 hq with e2 | e2
        · subst e2; rw [upd_same, nu x e1] at hqn'; have := h.le x e1; omega
        · rw [nu q (h.pn e2), nu x e1] at hqn'
          rw [nu q (h.pn e2), nu p (h.pn hp.1)]
          exact hp.2.2 q e2 hqn'
  · intro p hp
    show upd _ _ _ _ ≤ upd _ _ _ _ ∧ ∃ w ∈ y :: s.opn, upd s.num y _ w = upd s.least y _ p ∧ _
    rcases List.mem_cons.1 hp with e1 | e1
    · subst e1
      exact ⟨by rw [upd_same, upd_same]; exact Nat.le_refl _, p, by simp, by rw [upd_same, upd_same], .refl⟩
    · obtain ⟨h1, w, hw, hw2, hw3⟩ := h.l1 p e1
      rw [upd_other (npath p e1), nu p (h.pn e1)]
      exact ⟨h1, w, List.mem_cons_of_mem _ hw, by rw [nu w hw]; exact hw2, hw3⟩
  · intro x hx p hp w hw
    show 0 < upd _ _ _ _ ∧ (w ∈ y :: s.opn → upd _ _ _ _ ≤ upd _ _ _ _)
    rcases List.mem_cons.1 hx with e1 | e1
    · subst e1
      obtain ⟨-, r, j, -, hj, -⟩ := hw
      have : j < upd s.nxt x 0 x := hj
      rw [upd_same] at this; omega
    · have hp' := hlast x e1 p hp
      obtain ⟨h1, h2⟩ := h.f x e1 p hp' w (hlk x (ne x e1) w hw)
      have hwy : w ≠ y := fun e => by subst e; omega
      rw [upd_other hwy, upd_other (npath p hp'.1)]
      refine ⟨h1, fun hm => h2 ?_⟩
      rcases List.mem_cons.1 hm with e2 | e2
      · exact absurd e2 hwy
      · exact e2
  · intro x hx hxp w hw
    rcases List.mem_cons.1 hx with e1 | e1
    · subst e1; exact absurd (show x ∈ x :: s.path by simp) hxp
    · obtain ⟨hw2, r, j, hr, hj, hv⟩ := h.g x e1 (fun hm => hxp (List.mem_cons_of_mem _ hm)) w hw
      exact ⟨hw2, r, j, hr, by show j < upd _ _ _ _; rw [upd_other (ne x e1)]; exact hj, hv⟩
  all_goals
    have clo : ∀ x, upd s.num y (s.cnt + 1) x = B → s.num x = B ∧ x ≠ y := fun x hx => by
      by_cases hxy : x = y
      · subst hxy; rw [upd_same] at hx; omega
      · rw [upd_other hxy] at hx; exact ⟨hx, hxy⟩
  · intro x hx hxB w hw
    have h1 := clo x hxB
    have h2 := h.hcl x hx h1.1 w hw
    show upd _ _ _ _ = B
    rw [upd_other (fun e => by subst e; omega)]; exact h2
  · intro x hx hxB
    have h1 := clo x hxB
    obtain ⟨a, b, c, d⟩ := h.hcm x hx h1.1
    have e1 : upd s.com y 0 x = s.com x := upd_other h1.2
    show upd s.com y 0 x < _ ∧ upd s.num y _ (upd s.com y 0 x) = B ∧ Rt e x (upd s.com y 0 x) ∧ Rt e (upd s.com y 0 x) x
    rw [e1]
    exact ⟨a, by rw [upd_other (fun e => by rw [e] at b; omega)]; exact b, c, d⟩
  · intro x w hx hw hxB hwB h1 h2
    have a := clo x hxB
    have b := clo w hwB
    show upd s.com y 0 x = upd s.com y 0 w
    rw [upd_other a.2, upd_other b.2]
    exact h.hcc x w hx hw a.1 b.1 h1 h2
/-- the end of the path leads to one that came ahead of it -/
def back (s : St) (x a : Nat) (r : List Nat) : St := { s with path := a :: r, least := upd s.least a (min (s.least a) (s.least x)) }
theorem Inv.back (h : Inv e s) {x a : Nat} {r : List Nat} (hp : s.path = x :: a :: r) (hall : ∀ y, Ed e x y → lk e s x y) (hl : s.least x < s.num x) : Inv e (back s x a r) := by
  have hxp : x ∈ s.path := by rw [hp]; simp
  have hap : a ∈ s.path := by rw [hp]; simp
  have hao := h.pn hap
  have hxo := h.pn hxp
  have hax : s.num a < s.num x := h.top hp a (by simp)
  have hpp : s.path.Pairwise (fun a b => s.num b < s.num a) := h.so.sublist h.sub
  rw [hp] at hpp
  have hra : ∀ q ∈ r, s.num q < s.num a := (List.pairwise_cons.1 (List.pairwise_cons.1 hpp).2).1
  have sub' : (a :: r).Sublist s.path := by rw [hp]; exact List.sublist_cons_self _ _
  have hnx : ∀ q ∈ a :: r, s.num q < s.num x := h.top hp
  -- where the last of a thing stood
  have hlast : ∀ z ∈ s.opn, ∀ p, lastAt (Gr.back s x a r) z p → lastAt s z p ∨ (lastAt s z x ∧ p = a) := by
    intro z hz p hlp
    obtain ⟨q, hq, -⟩ := h.up z hz
    by_cases hqx : q = x
    · subst hqx
      refine .inr ⟨hq, ?_⟩
      have h1 : s.num a ≤ s.num p := hlp.2.2 a (by show a ∈ a :: r; simp) (by show s.num a ≤ s.num z; have := hq.2.1; omega)
      have h2 : p ∈ a :: r := hlp.1
      rcases List.mem_cons.1 h2 with e1 | e1
      · exact e1
      · have := hra p e1; omega
    · have hqr : q ∈ a :: r := by
        have := hq.1; rw [hp] at this
        rcases List.mem_cons.1 this with e1 | e1
        · exact absurd e1 hqx
        · exact e1
      left
      refine ⟨sub'.subset hlp.1, hlp.2.1, fun w hw hwn => ?_⟩
      have h1 := hq.2.2 w hw hwn
      have h2 : s.num q ≤ s.num p := hlp.2.2 q hqr hq.2.1
      omega
  refine ⟨h.nB, h.op, h.so, h.le, h.ct, h.zr, sub'.trans h.sub, fun p hp2 => h.d p (sub'.subset hp2), ?_, ?_, ?_, ?_, h.hcl, h.hcm, h.hcc⟩
  · intro z hz
    obtain ⟨q, hq, hqr⟩ := h.up z hz
    by_cases hqx : q = x
    · subst hqx
      refine ⟨a, ⟨by show a ∈ a :: r; simp, by show s.num a ≤ s.num z; have := hq.2.1; omega, fun w hw _ => ?_⟩, ?_⟩
      · have hw2 : w ∈ a :: r := hw
        rcases List.mem_cons.1 hw2 with e1 | e1
        · subst e1; exact Nat.le_refl _
        · exact Nat.le_of_lt (hra w e1)
      · obtain ⟨-, y, hy, hy2, hy3⟩ := h.l1 q hxp
        obtain ⟨t, ht, ht2⟩ := h.up y hy
        have htx : s.num t ≤ s.num a := by
          have h1 := ht.1; rw [hp] at h1
          rcases List.mem_cons.1 h1 with e1 | e1
          · subst e1; have := ht.2.1; omega
          · rcases List.mem_cons.1 e1 with e2 | e2
            · subst e2; exact Nat.le_refl _
            · exact Nat.le_of_lt (hra t e2)
        exact ((hqr.trans hy3).trans ht2).trans (h.d t ht.1 a hao htx)
    · have hqm : q ∈ a :: r := by
        have := hq.1; rw [hp] at this
        rcases List.mem_cons.1 this with e1 | e1
        · exact absurd e1 hqx
        · exact e1
      exact ⟨q, ⟨hqm, hq.2.1, fun w hw => hq.2.2 w (sub'.subset hw)⟩, hqr⟩
  · intro p hpm
    have hpp2 := sub'.subset hpm
    obtain ⟨h1, w, hw, hw2, hw3⟩ := h.l1 p hpp2
    show upd _ _ _ _ ≤ s.num p ∧ ∃ w ∈ s.opn, s.num w = upd s.least a _ p ∧ _
    by_cases hpa : p = a
    · subst hpa
      rw [upd_same]
      refine ⟨Nat.le_trans (Nat.min_le_left _ _) h1, ?_⟩
      by_cases hm : s.least p ≤ s.least x
      · rw [Nat.min_eq_left hm]; exact ⟨w, hw, hw2, hw3⟩
      · rw [Nat.min_eq_right (by omega)]
        obtain ⟨-, y, hy, hy2, hy3⟩ := h.l1 x hxp
        exact ⟨y, hy, hy2, (h.d p hap x hxo (by omega)).trans hy3⟩
    · rw [upd_other hpa]; exact ⟨h1, w, hw, hw2, hw3⟩
  · intro z hz p hlp w hw
    show 0 < s.num w ∧ (w ∈ s.opn → upd _ _ _ _ ≤ s.num w)
    rcases hlast z hz p hlp with h1 | ⟨h1, rfl⟩
    · obtain ⟨h2, h3⟩ := h.f z hz p h1 w hw
      refine ⟨h2, fun hm => Nat.le_trans ?_ (h3 hm)⟩
      by_cases hpa : p = a
      · subst hpa; rw [upd_same]; exact Nat.min_le_left _ _
      · rw [upd_other hpa]; exact Nat.le_refl _
    · obtain ⟨h2, h3⟩ := h.f z hz x h1 w hw
      refine ⟨h2, fun hm => Nat.le_trans ?_ (h3 hm)⟩
      rw [upd_same]; exact Nat.min_le_right _ _
  · intro z hz hzp w hw
    by_cases hzx : z = x
    · subst hzx; exact hall w hw
    · refine h.g z hz (fun hm => hzp ?_) w hw
      rw [hp] at hm
      rcases List.mem_cons.1 hm with e1 | e1
      · exact absurd e1 hzx
      · exact e1
/-- the things of a group get it; G: those behind x -/
def close (s : St) (x : Nat) (G O r : List Nat) : St := { s with num := fun y => if y ∈ G ∨ y = x then B else s.num y, com := fun y => if y ∈ G ∨ y = x then x else s.com y, path := r, opn := O }
theorem Inv.close (h : Inv e s) {x : Nat} {r G O : List Nat} (hp : s.path = x :: r) (ho : s.opn = G ++ x :: O) (hall : ∀ y, Ed e x y → lk e s x y) (hl : s.num x ≤ s.least x) : Inv e (close s x G O r) := by
  have hxp : x ∈ s.path := by rw [hp]; simp
  have hxo := h.pn hxp
  have hso := h.so
  rw [ho] at hso
  have hG : ∀ z ∈ G, s.num x < s.num z := fun z hz => (List.pairwise_append.1 hso).2.2 z hz x (by simp)
  have hO : ∀ z ∈ O, s.num z < s.num x := (List.pairwise_cons.1 (List.pairwise_append.1 hso).2.1).1
  have hle : s.least x = s.num x := Nat.le_antisymm (h.l1 x hxp).1 hl
  have hnx : ∀ q ∈ r, s.num q < s.num x := h.top hp
  let In := fun y => y ∈ G ∨ y = x
  have inO : ∀ y ∈ s.opn, (s.num x ≤ s.num y → In y) ∧ (s.num y < s.num x → y ∈ O) := by
    intro y hy
    rw [ho] at hy
    rcases List.mem_append.1 hy with e1 | e1
    · exact ⟨fun _ => .inl e1, fun h2 => by have := hG y e1; omega⟩
    · rcases List.mem_cons.1 e1 with e2 | e2
      · exact ⟨fun _ => .inr e2, fun h2 => by subst e2; omega⟩
      · exact ⟨fun h2 => by have := hO y e2; omega, fun _ => e2⟩
  have inle : ∀ y, In y → s.num x ≤ s.num y := fun y hy => by
    rcases hy with h1 | h1
    · exact Nat.le_of_lt (hG y h1)
    · subst h1; exact Nat.le_refl _
  have Omem : ∀ y ∈ O, y ∈ s.opn := fun y hy => by rw [ho]; simp [hy]
  have Inmem : ∀ y, In y → y ∈ s.opn := fun y hy => by
    rw [ho]
    rcases hy with h1 | h1
    · simp [h1]
    · simp [h1]
  have Onot : ∀ y ∈ O, ¬ In y := fun y hy hin => by have := hO y hy; have := inle y hin; omega
  have rO : ∀ q ∈ r, q ∈ O := fun q hq => (inO q (h.pn (by rw [hp]; simp [hq]))).2 (hnx q hq)
  have lastIn : ∀ y, In y → lastAt s y x := fun y hy => ⟨hxp, inle y hy, fun q hq _ => by
    rw [hp] at hq
    rcases List.mem_cons.1 hq with e1 | e1
    · subst e1; exact Nat.le_refl _
    · exact Nat.le_of_lt (hnx q e1)⟩
  have allIn : ∀ y, In y → ∀ w, Ed e y w → lk e s y w := fun y hy w hw => by
    by_cases hyx : y = x
    · subst hyx; exact hall w hw
    · refine h.g y (Inmem y hy) (fun hm => ?_) w hw
      rw [hp] at hm
      rcases List.mem_cons.1 hm with e1 | e1
      · exact hyx e1
      · have := hnx y e1; have := inle y hy; omega
  -- what a thing of the group names has a group, or is of it
  have outIn : ∀ y, In y → ∀ w, Ed e y w → In w ∨ s.num w = B := fun y hy w hw => by
    obtain ⟨h1, h2⟩ := h.f y (Inmem y hy) x (lastIn y hy) w (allIn y hy w hw)
    by_cases hB : s.num w = B
    · exact .inr hB
    · have hwo : w ∈ s.opn := (h.op w).2 ⟨hw.1, h1, hB⟩
      have := h2 hwo
      exact .inl ((inO w hwo).1 (by omega))
  have rtx : ∀ y, In y → Rt e x y := fun y hy => h.d x hxp y (Inmem y hy) (inle y hy)
  have xrt : ∀ y, In y → Rt e y x := fun y hy => by
    obtain ⟨p, hp1, hp2⟩ := h.up y (Inmem y hy)
    rw [h.last_eq hp1 (lastIn y hy)] at hp2; exact hp2
  have lt : ∀ y, y ∈ s.opn → y < e.length := fun y hy => ((h.op y).1 hy).1
  -- what has a group leads to such alone
  have cl : ∀ y w, y < e.length → s.num y = B → Rt e y w → s.num w = B ∧ w < e.length := fun y w hy hB hr => by
    induction hr with
    | refl => exact ⟨hB, hy⟩
    | tail h1 h2 ih => exact ⟨h.hcl _ ih.2 ih.1 _ h2, h2.1⟩
  have numB : ∀ y ∈ s.opn, s.num y ≠ B := fun y hy => ((h.op y).1 hy).2.2
  have numO : ∀ y ∈ O, (Gr.close s x G O r).num y = s.num y := fun y hy => if_neg (Onot y hy)
  have numIn : ∀ y, In y → (Gr.close s x G O r).num y = B := fun y hy => if_pos hy
  have numN : ∀ y, ¬ In y → (Gr.close s x G O r).num y = s.num y := fun y hy => if_neg hy
  have hlast : ∀ z ∈ O, ∀ p, lastAt (Gr.close s x G O r) z p → lastAt s z p := fun z hz p hlp => by
    have hpr : p ∈ r := hlp.1
    have h2 := hlp.2.1
    rw [numO p (rO p hpr), numO z hz] at h2
    refine ⟨by rw [hp]; simp [hpr], h2, fun q hq hqn => ?_⟩
    rw [hp] at hq
    rcases List.mem_cons.1 hq with e1 | e1
    · subst e1; have := hO z hz; omega
    · have := hlp.2.2 q e1 (by rw [numO q (rO q e1), numO z hz]; exact hqn)
      rw [numO q (rO q e1), numO p (rO p hpr)] at this; exact this
  have closedCase : ∀ y, y < e.length → (Gr.close s x G O r).num y = B → In y ∨ (¬ In y ∧ s.num y = B) := fun y _ hB => by
    by_cases hi : In y
    · exact .inl hi
    · rw [numN y hi] at hB; exact .inr ⟨hi, hB⟩
  refine ⟨h.nB, ?_, ?_, ?_, ?_, ?_, ?_, ?_, ?_, ?_, ?_, ?_, ?_, ?_, ?_⟩
  · intro y
    show y ∈ O ↔ _
    constructor
    · intro hy; rw [numO y hy]; exact (h.op y).1 (Omem y hy)
    · rintro ⟨h1, h2, h3⟩
      have hi : ¬ In y := fun hi => h3 (numIn y hi)
      rw [numN y hi] at h2 h3
      have hyo := (h.op y).2 ⟨h1, h2, h3⟩
      exact (inO y hyo).2 (by have := (inO y hyo).1; exact Nat.lt_of_not_le (fun hle => hi (this hle)))
  · show O.Pairwise _
    refine List.Pairwise.imp_of_mem ?_ (List.pairwise_cons.1 (List.pairwise_append.1 hso).2.1).2
    intro a b ha hb hab
    show (Gr.close s x G O r).num b < (Gr.close s x G O r).num a
    rw [numO a ha, numO b hb]; exact hab
  · intro y hy
    rw [numO y hy]; exact h.le y (Omem y hy)
  · have : (List.range e.length).filter (fun y => (Gr.close s x G O r).num y == 0) = (List.range e.length).filter (fun y => s.num y == 0) := by
      apply List.filter_congr
      intro y _
      by_cases hi : In y
      · rw [numIn y hi]
        have := ((h.op y).1 (Inmem y hi)).2.1
        have hB : B ≠ 0 := by simp [B]
        have h2 : s.num y ≠ 0 := by omega
        rw [beq_false_of_ne h2, beq_false_of_ne hB]
      · rw [numN y hi]
    rw [this]; exact h.ct
  · intro y hy
    by_cases hi : In y
    · rw [numIn y hi] at hy; exact absurd hy (by simp [B])
    · rw [numN y hi] at hy; exact h.zr y hy
  · have h1 := h.sub
    rw [hp, ho] at h1
    -- the rest of the path stands behind x
    obtain ⟨k1, k2, e1, s1, s2⟩ := List.sublist_append_iff.1 h1
    cases k1 with
    | nil => rw [List.nil_append] at e1; rw [← e1] at s2; exact List.cons_sublist_cons.1 s2
    | cons k ks =>
      have e2 := (List.cons.inj e1).1
      subst e2
      have := hG x (s1.subset (by simp))
      omega
  · intro p hpr y hy hn
    have hpr' : p ∈ r := hpr
    rw [numO p (rO p hpr'), numO y hy] at hn
    exact h.d p (by rw [hp]; simp [hpr']) y (Omem y hy) hn
  · intro y hy
    obtain ⟨p, hp1, hp2⟩ := h.up y (Omem y hy)
    have hpr : p ∈ r := by
      have h1 := hp1.1; rw [hp] at h1
      rcases List.mem_cons.1 h1 with e1 | e1
      · subst e1; have := hO y hy; have := hp1.2.1; omega
      · exact e1
    refine ⟨p, ⟨hpr, by rw [numO p (rO p hpr), numO y hy]; exact hp1.2.1, fun q hq hqn => ?_⟩, hp2⟩
    have hq' : q ∈ r := hq
    rw [numO q (rO q hq'), numO y hy] at hqn
    rw [numO q (rO q hq'), numO p (rO p hpr)]
    exact hp1.2.2 q (by rw [hp]; simp [hq']) hqn
  · intro p hpr
    have hpr' : p ∈ r := hpr
    obtain ⟨h1, w, hw, hw2, hw3⟩ := h.l1 p (by rw [hp]; simp [hpr'])
    have hwO : w ∈ O := (inO w hw).2 (by have := hnx p hpr'; omega)
    exact ⟨by rw [numO p (rO p hpr')]; exact h1, w, hwO, by rw [numO w hwO]; exact hw2, hw3⟩
  · intro z hz p hlp w hw
    obtain ⟨h1, h2⟩ := h.f z (Omem z hz) p (hlast z hz p hlp) w hw
    refine ⟨?_, fun hm => by rw [numO w hm]; exact h2 (Omem w hm)⟩
    by_cases hi : In w
    · rw [numIn w hi]; simp [B]
    · rw [numN w hi]; exact h1
  · intro z hz hzp w hw
    have hz' : z ∈ O := hz
    refine h.g z (Omem z hz') (fun hm => ?_) w hw
    rw [hp] at hm
    rcases List.mem_cons.1 hm with e1 | e1
    · subst e1; have := hO z hz'; omega
    · exact hzp e1
  · intro y hy hB w hw
    have hBB : s.num w = B → (Gr.close s x G O r).num w = B := fun hwB => by
      rw [numN w (fun hi => numB w (Inmem w hi) hwB)]; exact hwB
    rcases closedCase y hy hB with h1 | ⟨-, h1⟩
    · rcases outIn y h1 w hw with h2 | h2
      · exact numIn w h2
      · exact hBB h2
    · exact hBB (h.hcl y hy h1 w hw)
  · intro y hy hB
    rcases closedCase y hy hB with h1 | ⟨h0, h1⟩
    · have : (Gr.close s x G O r).com y = x := if_pos h1
      rw [this]
      exact ⟨lt x hxo, numIn x (.inr rfl), xrt y h1, rtx y h1⟩
    · have : (Gr.close s x G O r).com y = s.com y := if_neg h0
      rw [this]
      obtain ⟨a, b, c, d⟩ := h.hcm y hy h1
      exact ⟨a, by rw [numN _ (fun hi => numB _ (Inmem _ hi) b)]; exact b, c, d⟩
  · intro y w hy hw hB hB2 h1 h2
    have comIn : ∀ y, In y → (Gr.close s x G O r).com y = x := fun y hy => if_pos hy
    have comN : ∀ y, ¬ In y → (Gr.close s x G O r).com y = s.com y := fun y hy => if_neg hy
    rcases closedCase y hy hB with a | ⟨a0, a⟩ <;> rcases closedCase w hw hB2 with b | ⟨b0, b⟩
    · rw [comIn y a, comIn w b]
    · exact absurd (cl w y hw b h2).1 (numB y (Inmem y a))
    · exact absurd (cl y w hy a h1).1 (numB w (Inmem w b))
    · rw [comN y a0, comN w b0]; exact h.hcc y w hy hw a b h1 h2
def start : St := ⟨fun _ => 0, fun _ => 0, fun _ => 0, fun _ => 0, [], [], 0⟩
theorem filter_all (n : Nat) : ((List.range n).filter (fun _ => true)).length = n := by rw [List.filter_eq_self.2 (fun _ _ => rfl), List.length_range]
theorem Inv.start (h : e.length < B) : Inv e start := by
  refine ⟨h, ?_, .nil, ?_, ?_, ?_, .refl _, ?_, ?_, ?_, ?_, ?_, ?_, ?_, ?_⟩
  · intro x; show x ∈ [] ↔ _ ∧ 0 < 0 ∧ _; simp
  · intro x hx; exact absurd hx (by show ¬ x ∈ []; simp)
  · show 0 + ((List.range e.length).filter (fun _ => true)).length = _; rw [filter_all, Nat.zero_add]
  · intro x _; rfl
  · intro x hx; exact absurd hx (by show ¬ x ∈ []; simp)
  · intro x hx; exact absurd hx (by show ¬ x ∈ []; simp)
  · intro x hx; exact absurd hx (by show ¬ x ∈ []; simp)
  · intro x hx; exact absurd hx (by show ¬ x ∈ []; simp)
  · intro x hx; exact absurd hx (by show ¬ x ∈ []; simp)
  all_goals
    intro x
  · intro _ hx; exact absurd hx (by show ¬ 0 = B; simp [B])
  · intro _ hx; exact absurd hx (by show ¬ 0 = B; simp [B])
  · intro y _ _ hx; exact absurd hx (by show ¬ 0 = B; simp [B])
theorem Inv.empty (h : Inv e s) (hp : s.path = []) : s.opn = [] := by
  cases ho : s.opn with
  | nil => rfl
  | cons x o =>
    obtain ⟨p, hp1, -⟩ := h.up x (by rw [ho]; simp)
    have := hp1.1; rw [hp] at this; simp at this
/-- at the end: what things have in common tells who lead to one another -/
theorem Inv.fin (h : Inv e s) (hp : s.path = []) (hv : ∀ x, x < e.length → 0 < s.num x) : (∀ x, x < e.length → s.com x < e.length) ∧ ∀ x y, x < e.length → y < e.length → (s.com x = s.com y ↔ Rt e x y ∧ Rt e y x) := by
  have ho := h.empty hp
  have hB : ∀ x, x < e.length → s.num x = B := fun x hx => by
    by_cases hb : s.num x = B
    · exact hb
    · have := (h.op x).2 ⟨hx, hv x hx, hb⟩
      rw [ho] at this; simp at this
  refine ⟨fun x hx => (h.hcm x hx (hB x hx)).1, fun x y hx hy => ⟨fun he => ?_, fun ⟨h1, h2⟩ => h.hcc x y hx hy (hB x hx) (hB y hy) h1 h2⟩⟩
  obtain ⟨-, -, a, b⟩ := h.hcm x hx (hB x hx)
  obtain ⟨-, -, c, d⟩ := h.hcm y hy (hB y hy)
  rw [he] at a b
  exact ⟨a.trans d, c.trans b⟩
end Go.Proofs.Ytmnligaelihmiaa.Gr
