import Derived.Test.YtmnligaelihmiaaGc
namespace Go.Proofs.Ytmnligaelihmiaa.Gr
/-- How many names of a thing were not looked at. -/
def lf (e : List (List Int)) (s : St) (z : Nat) : Nat := ((e[z]?).getD []).length - s.nxt z
def sumN (n : Nat) (f : Nat → Nat) : Nat := ((List.range n).map f).sum
theorem sumN_succ (n : Nat) (f : Nat → Nat) : sumN (n + 1) f = sumN n f + f n := by simp [sumN, List.range_succ]
theorem sumN_cong {n : Nat} {f g : Nat → Nat} (h : ∀ z, z < n → f z = g z) : sumN n f = sumN n g := by
  induction n with
  | zero => rfl
  | succ n ih => rw [sumN_succ, sumN_succ, ih (fun z hz => h z (by omega)), h n (by omega)]
theorem sumN_upd {n x : Nat} {f g : Nat → Nat} (hx : x < n) (h : ∀ z, z < n → z ≠ x → g z = f z) : sumN n g + f x = sumN n f + g x := by
  induction n with
  | zero => omega
  | succ n ih =>
    rw [sumN_succ, sumN_succ]
    by_cases e : x = n
    · subst e
      rw [sumN_cong (fun z hz => h z (by omega) (by omega))]
      omega
    · have := ih (by omega) (fun z hz hne => h z (by omega) hne)
      have h2 := h n (by omega) (by omega)
      omega
def meas (e : List (List Int)) (s : St) : Nat := 2 * sumN e.length (lf e s) + s.path.length
variable {e : List (List Int)} {s : St}
theorem meas_adv {x : Nat} {r : List Int} (hr : e[x]? = some r) (hn : s.nxt x < r.length) : meas e (adv s x) + 2 = meas e s := by
  have hx : x < e.length := (List.getElem?_eq_some_iff.1 hr).1
  have h1 := sumN_upd (n := e.length) (x := x) (f := lf e s) (g := lf e (adv s x)) hx (fun z _ hz => by simp only [lf, adv, upd_other hz])
  have h2 : lf e s x = r.length - s.nxt x := by simp [lf, hr]
  have h3 : lf e (adv s x) x = r.length - (s.nxt x + 1) := by simp [lf, hr, adv, upd_same]
  unfold meas
  have h4 : (adv s x).path = s.path := rfl
  rw [h4]
  omega
theorem meas_seen {x y : Nat} : meas e (seen s x y) = meas e (adv s x) := rfl
theorem meas_come {y : Nat} (h0 : s.nxt y = 0) : meas e (come s y) = meas e s + 1 := by
  have h1 : sumN e.length (lf e (come s y)) = sumN e.length (lf e s) := sumN_cong (fun z _ => by
    by_cases hz : z = y
    · subst hz; simp only [lf, come, upd_same, h0]
    · simp only [lf, come, upd_other hz])
  unfold meas
  rw [h1]
  show 2 * _ + (y :: s.path).length = _
  simp; omega
theorem meas_back {x a : Nat} {r : List Nat} (hp : s.path = x :: a :: r) : meas e (back s x a r) + 1 = meas e s := by
  show 2 * sumN e.length (lf e s) + (a :: r).length + 1 = 2 * _ + s.path.length
  rw [hp]; simp; omega
theorem meas_close {x : Nat} {G O r : List Nat} (hp : s.path = x :: r) : meas e (close s x G O r) + 1 = meas e s := by
  show 2 * sumN e.length (lf e s) + r.length + 1 = 2 * _ + s.path.length
  rw [hp]; simp; omega
theorem nodup_sub : ∀ {l m : List Nat}, l.Nodup → (∀ x ∈ l, x ∈ m) → l.length ≤ m.length
  | [], _, _, _ => Nat.zero_le _
  | x :: l, m, hn, hs => by
    have hxm := hs x (by simp)
    have h1 := List.nodup_cons.1 hn
    have h2 := nodup_sub (l := l) (m := m.erase x) h1.2 (fun y hy => by
      have hne : y ≠ x := fun e => h1.1 (e ▸ hy)
      exact (List.mem_erase_of_ne hne).2 (hs y (by simp [hy])))
    rw [List.length_erase_of_mem hxm] at h2
    have := List.length_pos_of_mem hxm
    simp; omega
/-- Bounds of what the walk holds. -/
theorem Inv.opn_len (h : Inv e s) : s.opn.length ≤ e.length := by
  have h1 : s.opn.Nodup := h.so.imp (fun h => fun e => by subst e; omega)
  have h2 : ∀ x ∈ s.opn, x ∈ List.range e.length := fun x hx => List.mem_range.2 ((h.op x).1 hx).1
  have h3 := nodup_sub h1 h2
  simpa using h3
theorem Inv.path_len (h : Inv e s) : s.path.length ≤ e.length := Nat.le_trans h.sub.length_le h.opn_len
theorem Inv.opn_lt (h : Inv e s) {y : Nat} (hy : y < e.length) (h0 : s.num y = 0) : s.opn.length < e.length := by
  have h1 : s.opn.Nodup := h.so.imp (fun h => fun e => by subst e; omega)
  have hno : y ∉ s.opn := fun hm => by have := ((h.op y).1 hm).2.1; omega
  have h1' : (y :: s.opn).Nodup := List.nodup_cons.2 ⟨hno, h1⟩
  have h2 : ∀ x ∈ (y :: s.opn), x ∈ List.range e.length := fun x hx => by
    rcases List.mem_cons.1 hx with e1 | e1
    · subst e1; exact List.mem_range.2 hy
    · exact List.mem_range.2 ((h.op x).1 e1).1
  have h3 := nodup_sub h1' h2
  simp at h3; omega
theorem Inv.num_le (h : Inv e s) {x : Nat} (hx : x < e.length) : s.num x ≤ B := by
  by_cases h0 : s.num x = B
  · omega
  · by_cases h1 : s.num x = 0
    · omega
    · have h2 := (h.op x).2 ⟨hx, by omega, h0⟩
      have h3 := h.le x h2
      have h4 := h.ct
      have h5 := h.nB
      omega
theorem Inv.path_open (h : Inv e s) {x : Nat} (hx : x ∈ s.path) : x < e.length ∧ 0 < s.num x ∧ s.num x < B := by
  have h2 := (h.op x).1 (h.pn hx)
  have := h.num_le h2.1
  omega
/-- The place of the path's end among the open ones. -/
theorem Inv.parts (h : Inv e s) {x : Nat} {r : List Nat} (hp : s.path = x :: r) : ∃ G O, s.opn = G ++ x :: O ∧ ∀ z ∈ G, z ≠ x := by
  have hx : x ∈ s.opn := h.pn (by rw [hp]; simp)
  obtain ⟨G, O, ho⟩ := List.append_of_mem hx
  refine ⟨G, O, ho, fun z hz e => ?_⟩
  have h1 := h.so
  rw [ho] at h1
  have := (List.pairwise_append.1 h1).2.2 z hz x (by simp)
  rw [e] at this; omega
theorem all_looked {x : Nat} {r : List Int} (hr : e[x]? = some r) (hn : r.length ≤ s.nxt x) : ∀ y, Ed e x y → lk e s x y := by
  rintro y ⟨hy, r2, hr2, hm⟩
  rw [hr] at hr2; cases hr2
  obtain ⟨j, hj, hv⟩ := List.getElem_of_mem hm
  exact ⟨hy, r, j, hr, by omega, by rw [List.getElem?_eq_getElem hj, hv]⟩
/-- What comes of an edge, and of the end. -/
theorem Inv.step_skip (h : Inv e s) {x : Nat} {l : List Nat} (hp : s.path = x :: l) {r : List Int} (hr : e[x]? = some r) {v : Int} (hv : r[s.nxt x]? = some v) (hn : ¬ (0 ≤ v ∧ v < e.length)) : Inv e (Gr.adv s x) := by
  have hx := h.path_open (x := x) (by rw [hp]; simp)
  refine h.adv (by omega) (fun r2 hr2 y hy hyn p hp2 => ?_)
  rw [hr] at hr2; cases hr2
  rw [hv] at hy
  have := Option.some.inj hy
  omega
theorem Inv.step_come (h : Inv e s) {x y : Nat} {l : List Nat} (hp : s.path = x :: l) {r : List Int} (hr : e[x]? = some r) (hv : r[s.nxt x]? = some (y : Int)) (hy : y < e.length) (h0 : s.num y = 0) : Inv e (Gr.come (Gr.adv s x) y) := by
  have hxp : x ∈ s.path := by rw [hp]; simp
  have hx := h.path_open hxp
  have hxy : x ≠ y := fun e => by subst e; omega
  have hed : Ed e x y := ⟨hy, r, hr, List.mem_of_getElem? hv⟩
  have hc := h.come hy h0 (fun p hpp => by
    have h1 : s.num p ≤ s.num x := by
      rw [hp] at hpp
      rcases List.mem_cons.1 hpp with e1 | e1
      · subst e1; exact Nat.le_refl _
      · exact Nat.le_of_lt (h.top hp p e1)
    exact (h.d p hpp x (h.pn hxp) h1).tail hed)
  have e0 : Gr.come (Gr.adv s x) y = Gr.adv (Gr.come s y) x := by
    have : Gr.upd (Gr.upd s.nxt x (s.nxt x + 1)) y 0 = Gr.upd (Gr.upd s.nxt y 0) x (Gr.upd s.nxt y 0 x + 1) := by
      funext z
      by_cases h1 : z = x
      · subst h1; rw [upd_other hxy, upd_same, upd_same, upd_other hxy]
      · by_cases h2 : z = y
        · subst h2; rw [upd_same, upd_other h1, upd_same]
        · rw [upd_other h2, upd_other h1, upd_other h1, upd_other h2]
    show St.mk _ _ _ _ _ _ _ = St.mk _ _ _ _ _ _ _
    simp only [Gr.adv, Gr.come, this]
  rw [e0]
  have nx : Gr.upd s.num y (s.cnt + 1) x = s.num x := upd_other hxy
  refine hc.adv (x := x) (by show Gr.upd _ _ _ _ ≠ 0; rw [nx]; omega) (fun r2 hr2 w hw hwn p hp2 => ?_)
  rw [hr] at hr2; cases hr2
  have hw2 : r[Gr.upd s.nxt y 0 x]? = some (w : Int) := hw
  rw [upd_other hxy, hv] at hw2
  have hwy : w = y := by have := Option.some.inj hw2; omega
  subst hwy
  have hpx : p = x := hc.last_eq (x := x) hp2 (by
    refine ⟨?_, Nat.le_refl _, fun q _ hq => hq⟩
    show x ∈ w :: s.path
    simp [hxp])
  subst hpx
  show 0 < Gr.upd _ _ _ _ ∧ (_ → Gr.upd _ _ _ _ ≤ Gr.upd _ _ _ _)
  rw [upd_same, upd_other hxy]
  have h1 := (h.l1 p hxp).1
  have h2 := h.le p (h.pn hxp)
  exact ⟨by omega, fun _ => by omega⟩
theorem Inv.step_seen (h : Inv e s) {x y : Nat} {l : List Nat} (hp : s.path = x :: l) {r : List Int} (hr : e[x]? = some r) (hv : r[s.nxt x]? = some (y : Int)) (hy : y < e.length) (h0 : 0 < s.num y) : Inv e (Gr.seen s x y) := h.seen hp hr hv hy h0
theorem Inv.root (h : Inv e s) {y : Nat} (hp : s.path = []) (hy : y < e.length) (h0 : s.num y = 0) : Inv e (Gr.come s y) := h.come hy h0 (fun p hpp => by rw [hp] at hpp; simp at hpp)
end Go.Proofs.Ytmnligaelihmiaa.Gr
