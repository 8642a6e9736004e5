import Derived.Test.YtmnligaelihmiaaGp
namespace Go.Proofs.Ytmnligaelihmiaa
open Go.RowKit Go.Joins
/-- A row of int64s of its own. -/
def IR2 (w : World) (v : Value) (L : List Nat) : Prop := w.ownsRow 0 2 1 v L.length (L.map iv)
theorem IR2.nil (w : World) : IR2 w (.slice none 0 0) [] := ⟨rfl, .inl ⟨rfl, rfl⟩⟩
theorem IR2.kept {w w' : World} {v : Value} {L : List Nat} {S : Nat → Prop} (h : IR2 w v L) (k : Kept S w w') (hS : ∀ c, v.ownBlock = some c → S c) : IR2 w' v L := ownsRow_kept h k hS
theorem IR2.lt {w : World} {v : Value} {L : List Nat} (h : IR2 w v L) : ∀ k, v.ownBlock = some k → k < w.heap.size := fun k hk => (World.ownsRow.lt h k hk).2
/-- The outer row. -/
def OR (w : World) (v : Value) (m : Nat) (rv : Nat → Value) : Prop := ∃ xs, w.ownsRow 0 27 1 v m xs ∧ ∀ g, g < m → xs[g]? = some (rv g)
theorem OR.nil (w : World) (rv : Nat → Value) : OR w (.slice none 0 0) 0 rv := ⟨[], ⟨rfl, .inl ⟨rfl, rfl⟩⟩, fun g hg => by omega⟩
theorem OR.kept {w w' : World} {v : Value} {m : Nat} {rv : Nat → Value} {S : Nat → Prop} (h : OR w v m rv) (k : Kept S w w') (hS : ∀ c, v.ownBlock = some c → S c) : OR w' v m rv := by
  obtain ⟨xs, h1, h2⟩ := h
  exact ⟨xs, ownsRow_kept h1 k hS, h2⟩
theorem OR.lt {w : World} {v : Value} {m : Nat} {rv : Nat → Value} (h : OR w v m rv) : ∀ k, v.ownBlock = some k → k < w.heap.size := by
  obtain ⟨xs, h1, -⟩ := h
  exact fun k hk => (World.ownsRow.lt h1 k hk).2
theorem OR.shape {w : World} {v : Value} {m : Nat} {rv : Nat → Value} (h : OR w v m rv) : ∃ a cap, v = .slice a m cap ∧ m ≤ cap ∧ cap ≤ maxLen ∧ (m = 0 ∨ ∃ b, a = some ⟨b, 0, none⟩ ∧ b < w.heap.size) := by
  obtain ⟨xs, h1, -⟩ := h
  rcases h1.2 with ⟨rfl, h0⟩ | ⟨b, cap, cur, rfl, hb, hg, hnc, hcm, -⟩
  · exact ⟨none, 0, by rw [h0], by omega, by simp [maxLen], .inl h0⟩
  · exact ⟨_, cap, rfl, hnc, hcm, .inr ⟨b, rfl, (Array.getElem?_eq_some_iff.1 hg).1⟩⟩
theorem OR.cell {w : World} {b m cap : Nat} {rv : Nat → Value} (h : OR w (.slice (some ⟨b, 0, none⟩) m cap) m rv) (g : Nat) (hg : g < m) : w.cell? ⟨b, g, none⟩ = some (rv g) ∧ w.frozen? ⟨b, g, none⟩ = false := by
  obtain ⟨xs, h1, h2⟩ := h
  refine ⟨?_, World.ownsRow.frozenAt h1 g⟩
  rw [World.ownsRow.cellAt h1 g (by omega)]
  exact h2 g hg
theorem OR.set {w : World} {b m cap : Nat} {rv : Nat → Value} (h : OR w (.slice (some ⟨b, 0, none⟩) m cap) m rv) (g : Nat) (hg : g < m) (x : Value) : OR (w.setCell ⟨b, g, none⟩ x) (.slice (some ⟨b, 0, none⟩) m cap) m (updV rv g x) := by
  obtain ⟨xs, h1, h2⟩ := h
  have hl : xs.length = m := by have := h1.1; omega
  have e1 : xs = xs.take g ++ rv g :: xs.drop (g + 1) := by
    have h3 := h2 g hg
    obtain ⟨hi, h4⟩ := List.getElem?_eq_some_iff.1 h3
    rw [← h4, List.getElem_cons_drop, List.take_append_drop]
  have e2 : (xs.take g).length = g := by simp; omega
  rw [e1] at h1
  have h5 := ownsRow_set h1 x
  rw [e2] at h5
  refine ⟨xs.take g ++ x :: xs.drop (g + 1), h5, fun i hi => ?_⟩
  unfold updV
  by_cases e3 : i = g
  · subst e3; rw [if_pos rfl, List.getElem?_append_right (by omega), e2]; simp
  · rw [if_neg e3, ← h2 i hi]
    by_cases e4 : i < g
    · rw [List.getElem?_append_left (by omega), List.getElem?_take_of_lt e4]
    · rw [List.getElem?_append_right (by omega), e2]
      obtain ⟨d, hd⟩ : ∃ d, i - g = d + 1 := ⟨i - g - 1, by omega⟩
      rw [hd, List.getElem?_cons_succ, List.getElem?_drop]
      congr 1; omega
/-- The grouping while its groups are gathered. -/
structure NG (e : List (List Int)) (n0 : Nat) (ea : Option Addr) (ec GB OB NB MB VB : Nat) (tg com of nb : Nat → Nat) (m : Nat) (gv : Value) (rv : Nat → Value) (L : Nat → List Nat) (W : World) : Prop where
  bx : Bx W GB [.slice ea e.length ec, gv, .slice (some ⟨OB, 0, none⟩) e.length e.length, .slice (some ⟨NB, 0, none⟩) e.length e.length, .slice none 0 0, .slice none 0 0, .slice none 0 0, .slice none 0 0]
  em : EM e n0 ea W
  sz : n0 ≤ W.heap.size
  ofs : FR W OB e.length of
  nxs : FR W NB e.length (fun _ => 0)
  mbs : FR W MB e.length nb
  vis : ∀ x, x < e.length → (∃ a b c : Nat, W.cell? ⟨VB, x * 4, none⟩ = some (iv a) ∧ W.cell? ⟨VB, x * 4 + 1, none⟩ = some (iv b) ∧ W.cell? ⟨VB, x * 4 + 2, none⟩ = some (iv c)) ∧ W.cell? ⟨VB, x * 4 + 3, none⟩ = some (iv (com x))
  out : OR W gv m rv
  row : ∀ g, g < m → IR2 W (rv g) (L g)
  t0 : ∀ c, c < n0 → tg c = 0
  tGB : tg GB = 1
  tOB : tg OB = 2
  tNB : tg NB = 3
  tMB : tg MB = 11
  tVB : tg VB = 12
  tgv : ∀ c, gv.ownBlock = some c → tg c = 13
  trv : ∀ g, g < m → ∀ c, (rv g).ownBlock = some c → tg c = 20 + g
  lts : OB < W.heap.size ∧ NB < W.heap.size ∧ MB < W.heap.size ∧ VB < W.heap.size
variable {e : List (List Int)} {n0 : Nat} {ea : Option Addr} {ec GB OB NB MB VB : Nat} {tg com of nb : Nat → Nat} {m : Nat} {gv : Value} {rv : Nat → Value} {L : Nat → List Nat} {W W' : World}
theorem vis_kept {S : Nat → Prop} (h : ∀ x, x < e.length → (∃ a b c : Nat, W.cell? ⟨VB, x * 4, none⟩ = some (iv a) ∧ W.cell? ⟨VB, x * 4 + 1, none⟩ = some (iv b) ∧ W.cell? ⟨VB, x * 4 + 2, none⟩ = some (iv c)) ∧ W.cell? ⟨VB, x * 4 + 3, none⟩ = some (iv (com x))) (k : Kept S W W') (hS : S VB) :
    ∀ x, x < e.length → (∃ a b c : Nat, W'.cell? ⟨VB, x * 4, none⟩ = some (iv a) ∧ W'.cell? ⟨VB, x * 4 + 1, none⟩ = some (iv b) ∧ W'.cell? ⟨VB, x * 4 + 2, none⟩ = some (iv c)) ∧ W'.cell? ⟨VB, x * 4 + 3, none⟩ = some (iv (com x)) := fun x hx => by
  obtain ⟨⟨a, b, c, h1, h2, h3⟩, h4⟩ := h x hx
  exact ⟨⟨a, b, c, (k.cell (p := ⟨VB, x * 4, none⟩) (block_lt_of_cell h1) hS).trans h1, (k.cell (p := ⟨VB, x * 4 + 1, none⟩) (block_lt_of_cell h2) hS).trans h2, (k.cell (p := ⟨VB, x * 4 + 2, none⟩) (block_lt_of_cell h3) hS).trans h3⟩, (k.cell (p := ⟨VB, x * 4 + 3, none⟩) (block_lt_of_cell h4) hS).trans h4⟩
theorem NG.kept (h : NG e n0 ea ec GB OB NB MB VB tg com of nb m gv rv L W) {S : Nat → Prop} (k : Kept S W W') (hS : ∀ c, c < W.heap.size → S c) : NG e n0 ea ec GB OB NB MB VB tg com of nb m gv rv L W' := by
  have k : Kept (fun _ => True) W W' := k.mono (fun c hc _ => hS c hc)
  exact ⟨h.bx.kept k trivial, h.em.kept k (fun _ _ => trivial) h.sz, Nat.le_trans h.sz k.size, h.ofs.kept k trivial, h.nxs.kept k trivial, h.mbs.kept k trivial, vis_kept h.vis k trivial, h.out.kept k (fun _ _ => trivial), fun g hg => (h.row g hg).kept k (fun _ _ => trivial), h.t0, h.tGB, h.tOB, h.tNB, h.tMB, h.tVB, h.tgv, h.trv, Nat.lt_of_lt_of_le h.lts.1 k.size, Nat.lt_of_lt_of_le h.lts.2.1 k.size, Nat.lt_of_lt_of_le h.lts.2.2.1 k.size, Nat.lt_of_lt_of_le h.lts.2.2.2 k.size⟩
theorem NG.tag (h : NG e n0 ea ec GB OB NB MB VB tg com of nb m gv rv L W) {tg' : Nat → Nat} (ht : ∀ c, c < W.heap.size → tg' c = tg c) : NG e n0 ea ec GB OB NB MB VB tg' com of nb m gv rv L W :=
  ⟨h.bx, h.em, h.sz, h.ofs, h.nxs, h.mbs, h.vis, h.out, h.row, fun c hc => by rw [ht c (Nat.lt_of_lt_of_le hc h.sz)]; exact h.t0 c hc, by rw [ht _ h.bx.lt]; exact h.tGB, by rw [ht _ h.lts.1]; exact h.tOB, by rw [ht _ h.lts.2.1]; exact h.tNB, by rw [ht _ h.lts.2.2.1]; exact h.tMB, by rw [ht _ h.lts.2.2.2]; exact h.tVB, fun c hc => by rw [ht c (h.out.lt c hc)]; exact h.tgv c hc, fun g hg c hc => by rw [ht c ((h.row g hg).lt c hc)]; exact h.trv g hg c hc, h.lts⟩
theorem NG.setOf (h : NG e n0 ea ec GB OB NB MB VB tg com of nb m gv rv L W) (t v : Nat) : NG e n0 ea ec GB OB NB MB VB tg com (Gr.upd of t v) nb m gv rv L (W.setCell ⟨OB, t, none⟩ (iv v)) := by
  have k : Kept (fun c => tg c ≠ 2) W (W.setCell ⟨OB, t, none⟩ (iv v)) := Kept.setCell _ _ _ _ (by simp [h.tOB])
  exact ⟨h.bx.kept k (by rw [h.tGB]; omega), h.em.kept k (fun c hc => by rw [h.t0 c hc]; omega) h.sz, Nat.le_trans h.sz k.size, h.ofs.set v, h.nxs.kept k (by rw [h.tNB]; omega), h.mbs.kept k (by rw [h.tMB]; omega), vis_kept h.vis k (by rw [h.tVB]; omega), h.out.kept k (fun c hc => by rw [h.tgv c hc]; omega), fun g hg => (h.row g hg).kept k (fun c hc => by rw [h.trv g hg c hc]; omega), h.t0, h.tGB, h.tOB, h.tNB, h.tMB, h.tVB, h.tgv, h.trv, Nat.lt_of_lt_of_le h.lts.1 k.size, Nat.lt_of_lt_of_le h.lts.2.1 k.size, Nat.lt_of_lt_of_le h.lts.2.2.1 k.size, Nat.lt_of_lt_of_le h.lts.2.2.2 k.size⟩
theorem NG.setNb (h : NG e n0 ea ec GB OB NB MB VB tg com of nb m gv rv L W) (t v : Nat) : NG e n0 ea ec GB OB NB MB VB tg com of (Gr.upd nb t v) m gv rv L (W.setCell ⟨MB, t, none⟩ (iv v)) := by
  have k : Kept (fun c => tg c ≠ 11) W (W.setCell ⟨MB, t, none⟩ (iv v)) := Kept.setCell _ _ _ _ (by simp [h.tMB])
  exact ⟨h.bx.kept k (by rw [h.tGB]; omega), h.em.kept k (fun c hc => by rw [h.t0 c hc]; omega) h.sz, Nat.le_trans h.sz k.size, h.ofs.kept k (by rw [h.tOB]; omega), h.nxs.kept k (by rw [h.tNB]; omega), h.mbs.set v, vis_kept h.vis k (by rw [h.tVB]; omega), h.out.kept k (fun c hc => by rw [h.tgv c hc]; omega), fun g hg => (h.row g hg).kept k (fun c hc => by rw [h.trv g hg c hc]; omega), h.t0, h.tGB, h.tOB, h.tNB, h.tMB, h.tVB, h.tgv, h.trv, Nat.lt_of_lt_of_le h.lts.1 k.size, Nat.lt_of_lt_of_le h.lts.2.1 k.size, Nat.lt_of_lt_of_le h.lts.2.2.1 k.size, Nat.lt_of_lt_of_le h.lts.2.2.2 k.size⟩
end Go.Proofs.Ytmnligaelihmiaa
