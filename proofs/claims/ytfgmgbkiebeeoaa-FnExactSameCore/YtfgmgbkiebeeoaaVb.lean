import Derived.Test.YtfgmgbkiebeeoaaVa
import Derived.Test.YtfgmgbkiebeeoaaUv
import Derived.Test.YtfgmgbkiebeeoaaKa
import Derived.Deep.DeepCutAuto
namespace Go.Proofs.Ytfgmgbkiebeeoaa
open Go.RowKit Go.Joins

theorem exists_least {p : Nat → Prop} : ∀ n, p n → ∃ m, p m ∧ ∀ k, p k → m ≤ k := by
  intro n
  induction n using Nat.strongRecOn with
  | _ n ih =>
    intro hn
    by_cases h : ∃ k, k < n ∧ p k
    · obtain ⟨k, hk, hp⟩ := h
      exact ih k hk hp
    · exact ⟨n, hn, fun k hk => Nat.not_lt.1 (fun hlt => h ⟨k, hlt, hk⟩)⟩

open Classical in
noncomputable def least (p : Nat → Prop) : Nat := if h : ∃ m, p m ∧ ∀ k, p k → m ≤ k then Classical.choose h else 0

theorem least_spec {p : Nat → Prop} (h : ∃ n, p n) : p (least p) := by
  obtain ⟨n, hn⟩ := h
  unfold least
  rw [dif_pos (exists_least n hn)]
  exact (Classical.choose_spec (exists_least n hn)).1

theorem least_le {p : Nat → Prop} {n : Nat} (h : p n) : least p ≤ n := by
  unfold least
  rw [dif_pos (exists_least n h)]
  exact (Classical.choose_spec (exists_least n h)).2 n h

theorem ownsRow_cell {W : World} {B g cap n sz : Nat} {e : TypeId} {xs : List Value} (h : W.ownsRow B e sz (.slice (some ⟨g, 0, none⟩) n cap) n xs) (j : Nat) (v : Value) (hv : xs[j]? = some v) : W.cell? ⟨g, j, none⟩ = some v := by
  rcases h.2 with ⟨h1, h2⟩ | ⟨b, cap', cur, hv', hb, hg, hnc, hcm, hcs, ht⟩
  · cases h1
  · cases hv'
    have hj : (cur.toList.take (n * sz))[j]? = some v := by rw [ht]; exact hv
    rw [List.getElem?_take] at hj
    split at hj
    · simp only [World.cell?, hg]
      simpa using hj
    · cases hj

theorem ownsRow_live {W : World} {B g cap n sz : Nat} {e : TypeId} {xs : List Value} (h : W.ownsRow B e sz (.slice (some ⟨g, 0, none⟩) n cap) n xs) (j : Nat) : W.frozen? ⟨g, j, none⟩ = false := by
  rcases h.2 with ⟨h1, h2⟩ | ⟨b, cap', cur, hv', hb, hg, hnc, hcm, hcs, ht⟩
  · cases h1
  · cases hv'
    simp [World.frozen?, hg]

theorem ownsRow_le {W : World} {B g cap n sz : Nat} {e : TypeId} {xs : List Value} (h : W.ownsRow B e sz (.slice (some ⟨g, 0, none⟩) n cap) n xs) : B ≤ g ∧ g < W.heap.size ∧ n ≤ cap ∧ cap ≤ maxLen := by
  rcases h.2 with ⟨h1, h2⟩ | ⟨b, cap', cur, hv', hb, hg, hnc, hcm, hcs, ht⟩
  · cases h1
  · cases hv'
    exact ⟨hb, (Array.getElem?_eq_some_iff.1 hg).1, hnc, hcm⟩

/-- The row without its last elements. -/
theorem ownsRow_cut {W : World} {B g cap n m sz : Nat} {e : TypeId} {xs ys : List Value} (h : W.ownsRow B e sz (.slice (some ⟨g, 0, none⟩) (n + m) cap) (n + m) (xs ++ ys)) (hl : xs.length = n * sz) : W.ownsRow B e sz (.slice (some ⟨g, 0, none⟩) n cap) n xs := by
  rcases h.2 with ⟨h1, h2⟩ | ⟨b, cap', cur, hv', hb, hg, hnc, hcm, hcs, ht⟩
  · cases h1
  · cases hv'
    refine ⟨hl, .inr ⟨g, cap, cur, rfl, hb, hg, by omega, hcm, hcs, ?_⟩⟩
    have : (cur.toList.take ((n + m) * sz)).take (n * sz) = xs := by
      rw [ht, ← hl]
      simp
    rw [List.take_take] at this
    rw [← this, Nat.min_eq_left (Nat.mul_le_mul_right _ (by omega))]


theorem ownsRow_blk {W : World} {B n sz : Nat} {e : TypeId} {v : Value} {xs : List Value} (h : W.ownsRow B e sz v n xs) : ∀ b, v.ownBlock = some b → B ≤ b := fun b e => by
  rcases h.2 with ⟨rfl, -⟩ | ⟨g, cap, cur, rfl, hb, -⟩
  · simp [Value.ownBlock] at e
  · have : g = b := Option.some.inj e
    omega

/-- A list that is open, as it is noted. -/
def Gr.fr (g : Gr) (e : Nat × Nat) : List Value := [.int .i64 e.1, .int .i64 e.2, .int .i64 (psum g.sT (g.fst e.1) e.2)]
def Gr.stk (g : Gr) (l : List (Nat × Nat)) : List Value := l.reverse.flatMap g.fr
theorem Gr.stk_cons (g : Gr) (f : Nat × Nat) (l : List (Nat × Nat)) : g.stk (f :: l) = g.stk l ++ g.fr f := by simp [Gr.stk]
theorem Gr.stk_len (g : Gr) : ∀ l : List (Nat × Nat), (g.stk l).length = l.length * 3
  | [] => rfl
  | f :: l => by
    rw [g.stk_cons, List.length_append, g.stk_len l, List.length_cons]
    simp [Gr.fr]
    omega

/-- Where all lies while lists are measured. -/
structure MC (g : Gr) (W0 : World) (lo G nb lsb B tb lb ct cl cn cm : Nat) : Prop where
  ok : g.Ok
  hB : W0.heap.size ≤ B ∧ B < lo
  ht : W0.heap.size ≤ tb ∧ tb < lo
  hl : W0.heap.size ≤ lb ∧ lb < lo
  ne : B ≠ tb ∧ B ≠ lb ∧ tb ≠ lb
  nc : g.nt ≤ ct ∧ g.nl ≤ cl ∧ g.nt ≤ cn ∧ g.nl ≤ cm
  n8 : W0.cell? ⟨G, 8, none⟩ = some (.slice (some ⟨nb, 0, none⟩) g.nt cn)
  n9 : W0.cell? ⟨G, 9, none⟩ = some (.slice (some ⟨lsb, 0, none⟩) g.nl cm)
  nd : ∀ k, k < g.nt → W0.cell? ⟨nb, k * 3 + 1, none⟩ = some (.int .i64 (g.pl k)) ∧ W0.cell? ⟨nb, k * 3 + 1 + 1, none⟩ = some (.int .i64 (g.ql k))
  ls : ∀ l, l < g.nl → W0.cell? ⟨lsb, l * 2, none⟩ = some (.int .i64 (g.fst l)) ∧ W0.cell? ⟨lsb, l * 2 + 1, none⟩ = some (.int .i64 (g.cnt l))

/-- What the meter has in memory. -/
structure MS (g : Gr) (W0 : World) (lo G B tb lb ct cl : Nat) (V : World) (T L : Nat → Int) (st : List (Nat × Nat)) (sv : Value) : Prop where
  be : Below W0.heap.size W0 V
  bx : Bx V B [.pointer (some ⟨G, 0, none⟩), .func (.func 22) #[] #[], .slice (some ⟨tb, 0, none⟩) g.nt ct, .slice (some ⟨lb, 0, none⟩) g.nl cl, sv]
  tr : ∀ k, k < g.nt → V.cell? ⟨tb, k, none⟩ = some (.int .i64 (T k))
  tf : ∀ j, V.frozen? ⟨tb, j, none⟩ = false
  lr : ∀ l, l < g.nl → V.cell? ⟨lb, l, none⟩ = some (.int .i64 (L l))
  lf : ∀ j, V.frozen? ⟨lb, j, none⟩ = false
  ow : V.ownsRow lo 133 3 sv st.length (g.stk st)
  hv : lo ≤ V.heap.size

section
variable {g : Gr} {W0 : World} {lo G nb lsb B tb lb ct cl cn cm : Nat} {V : World} {T L : Nat → Int} {st : List (Nat × Nat)} {sv : Value}

theorem MS.kept (c : MC g W0 lo G nb lsb B tb lb ct cl cn cm) (h : MS g W0 lo G B tb lb ct cl V T L st sv) {V' : World} (k : Kept (fun _ => True) V V') : MS g W0 lo G B tb lb ct cl V' T L st sv := by
  have z := h.hv
  refine ⟨h.be.trans (k.below (fun _ _ => trivial) (by have := h.be.size; omega)), h.bx.kept k trivial, fun i hi => ?_, fun j => ?_, fun i hi => ?_, fun j => ?_, ownsRow_kept h.ow k (fun _ _ => trivial), by have := k.size; omega⟩
  · rw [k.cell (p := ⟨tb, i, none⟩) (by have := c.ht; show tb < _; omega) trivial]; exact h.tr i hi
  · rw [k.frozen (p := ⟨tb, j, none⟩) (by have := c.ht; show tb < _; omega) trivial]; exact h.tf j
  · rw [k.cell (p := ⟨lb, i, none⟩) (by have := c.hl; show lb < _; omega) trivial]; exact h.lr i hi
  · rw [k.frozen (p := ⟨lb, j, none⟩) (by have := c.hl; show lb < _; omega) trivial]; exact h.lf j

theorem MS.setL (c : MC g W0 lo G nb lsb B tb lb ct cl cn cm) (h : MS g W0 lo G B tb lb ct cl V T L st sv) {p : Nat} (hp : p < g.nl) (v : Int) : MS g W0 lo G B tb lb ct cl (V.setCell ⟨lb, p, none⟩ (.int .i64 v)) T (upd L p v) st sv := by
  obtain ⟨n1, n2, n3⟩ := c.ne
  have z := h.hv
  have hl := c.hl
  have k : Kept (fun d => d ≠ lb) V (V.setCell ⟨lb, p, none⟩ (.int .i64 v)) := Kept.setCell _ _ _ _ (by simp)
  refine ⟨h.be.setCell (by show _ ≤ lb; omega) _, h.bx.kept k (by omega), fun i hi => ?_, fun j => ?_, fun i hi => ?_, fun j => ?_, ownsRow_kept h.ow k (fun b e => by have := ownsRow_blk h.ow b e; omega), by simpa [World.setCell] using z⟩
  · rw [k.cell (p := ⟨tb, i, none⟩) (by have := c.ht; show tb < _; omega) (by show tb ≠ lb; omega)]; exact h.tr i hi
  · rw [World.frozen?_setCell]; exact h.tf j
  · by_cases e : i = p
    · subst e
      rw [upd_same]
      exact World.cell?_setCell_same _ _ _ (h.lr i hi)
    · rw [upd_ne _ _ e, World.cell?_setCell_other _ _ _ _ (fun q => e (by cases q; rfl))]
      exact h.lr i hi
  · rw [World.frozen?_setCell]; exact h.lf j

theorem MS.setT (c : MC g W0 lo G nb lsb B tb lb ct cl cn cm) (h : MS g W0 lo G B tb lb ct cl V T L st sv) {p : Nat} (hp : p < g.nt) (v : Int) : MS g W0 lo G B tb lb ct cl (V.setCell ⟨tb, p, none⟩ (.int .i64 v)) (upd T p v) L st sv := by
  obtain ⟨n1, n2, n3⟩ := c.ne
  have z := h.hv
  have hl := c.ht
  have k : Kept (fun d => d ≠ tb) V (V.setCell ⟨tb, p, none⟩ (.int .i64 v)) := Kept.setCell _ _ _ _ (by simp)
  refine ⟨h.be.setCell (by show _ ≤ tb; omega) _, h.bx.kept k (by omega), fun i hi => ?_, fun j => ?_, fun i hi => ?_, fun j => ?_, ownsRow_kept h.ow k (fun b e => by have := ownsRow_blk h.ow b e; omega), by simpa [World.setCell] using z⟩
  · by_cases e : i = p
    · subst e
      rw [upd_same]
      exact World.cell?_setCell_same _ _ _ (h.tr i hi)
    · rw [upd_ne _ _ e, World.cell?_setCell_other _ _ _ _ (fun q => e (by cases q; rfl))]
      exact h.tr i hi
  · rw [World.frozen?_setCell]; exact h.tf j
  · rw [k.cell (p := ⟨lb, i, none⟩) (by have := c.hl; show lb < _; omega) (by show lb ≠ tb; omega)]; exact h.lr i hi
  · rw [World.frozen?_setCell]; exact h.lf j

/-- Another row of open lists. -/
theorem MS.open (c : MC g W0 lo G nb lsb B tb lb ct cl cn cm) (h : MS g W0 lo G B tb lb ct cl V T L st sv) {V' : World} (k : Kept (fun d => d < lo) V V') {st' : List (Nat × Nat)} {sv' : Value} (ho : V'.ownsRow lo 133 3 sv' st'.length (g.stk st')) : MS g W0 lo G B tb lb ct cl (V'.setCell ⟨B, 4, none⟩ sv') T L st' sv' := by
  obtain ⟨n1, n2, n3⟩ := c.ne
  have z := h.hv
  have hb := c.hB
  have k2 : Kept (fun d => d ≠ B) V' (V'.setCell ⟨B, 4, none⟩ sv') := Kept.setCell _ _ _ _ (by simp)
  have k3 : Kept (fun d => d < lo ∧ d ≠ B) V (V'.setCell ⟨B, 4, none⟩ sv') := (k.mono (fun _ _ x => x.1)).trans (k2.mono (fun _ _ x => x.2))
  have b1 := h.bx.kept k hb.2
  refine ⟨(h.be.trans (k.below (fun d hd => by omega) (by have := h.be.size; omega))).setCell (by show _ ≤ B; omega) _, ?_, fun i hi => ?_, fun j => ?_, fun i hi => ?_, fun j => ?_, ownsRow_kept ho k2 (fun b e => by have := ownsRow_blk ho b e; omega), by have := k3.size; omega⟩
  · exact b1.put 4 sv' (by simp)
  · rw [k3.cell (p := ⟨tb, i, none⟩) (by have := c.ht; show tb < _; omega) (by have := c.ht; show tb < lo ∧ tb ≠ B; omega)]; exact h.tr i hi
  · rw [k3.frozen (p := ⟨tb, j, none⟩) (by have := c.ht; show tb < _; omega) (by have := c.ht; show tb < lo ∧ tb ≠ B; omega)]; exact h.tf j
  · rw [k3.cell (p := ⟨lb, i, none⟩) (by have := c.hl; show lb < _; omega) (by have := c.hl; show lb < lo ∧ lb ≠ B; omega)]; exact h.lr i hi
  · rw [k3.frozen (p := ⟨lb, j, none⟩) (by have := c.hl; show lb < _; omega) (by have := c.hl; show lb < lo ∧ lb ≠ B; omega)]; exact h.lf j

/-- What a row of open lists holds is changed in its place. -/
theorem MS.top (c : MC g W0 lo G nb lsb B tb lb ct cl cn cm) {b cap : Nat} (h : MS g W0 lo G B tb lb ct cl V T L st (.slice (some ⟨b, 0, none⟩) st.length cap)) {V' : World} (k : Kept (fun d => d ≠ b) V V') {st' : List (Nat × Nat)} (e : st'.length = st.length) (ho : V'.ownsRow lo 133 3 (.slice (some ⟨b, 0, none⟩) st'.length cap) st'.length (g.stk st')) : MS g W0 lo G B tb lb ct cl V' T L st' (.slice (some ⟨b, 0, none⟩) st'.length cap) := by
  have z := h.hv
  have hb := c.hB
  have hl := ownsRow_le ho
  refine ⟨h.be.trans (k.below (fun d hd => by omega) (by have := h.be.size; omega)), by rw [e]; exact h.bx.kept k (by omega), fun i hi => ?_, fun j => ?_, fun i hi => ?_, fun j => ?_, ho, by have := k.size; omega⟩
  · rw [k.cell (p := ⟨tb, i, none⟩) (by have := c.ht; show tb < _; omega) (by have := c.ht; show tb ≠ b; omega)]; exact h.tr i hi
  · rw [k.frozen (p := ⟨tb, j, none⟩) (by have := c.ht; show tb < _; omega) (by have := c.ht; show tb ≠ b; omega)]; exact h.tf j
  · rw [k.cell (p := ⟨lb, i, none⟩) (by have := c.hl; show lb < _; omega) (by have := c.hl; show lb ≠ b; omega)]; exact h.lr i hi
  · rw [k.frozen (p := ⟨lb, j, none⟩) (by have := c.hl; show lb < _; omega) (by have := c.hl; show lb ≠ b; omega)]; exact h.lf j
end
end Go.Proofs.Ytfgmgbkiebeeoaa
