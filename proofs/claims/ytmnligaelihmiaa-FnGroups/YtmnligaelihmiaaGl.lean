import Derived.Test.YtmnligaelihmiaaHe
import Derived.Test.YtmnligaelihmiaaGk
namespace Go.Proofs.Ytmnligaelihmiaa
open Go.RowKit Go.Joins
/-- Ints in a block. -/
def FR (W : World) (b n : Nat) (f : Nat → Nat) : Prop := ∀ i, i < n → W.cell? ⟨b, i, none⟩ = some (iv (f i)) ∧ W.frozen? ⟨b, i, none⟩ = false
theorem FR.kept {W W' : World} {b n : Nat} {f : Nat → Nat} {S : Nat → Prop} (h : FR W b n f) (k : Kept S W W') (hb : S b) : FR W' b n f := fun i hi => by
  obtain ⟨h1, h2⟩ := h i hi
  have hl := block_lt_of_cell h1
  exact ⟨(k.cell (p := ⟨b, i, none⟩) hl hb).trans h1, (k.frozen (p := ⟨b, i, none⟩) hl hb).trans h2⟩
theorem FR.set {W : World} {b n : Nat} {f : Nat → Nat} (h : FR W b n f) {x : Nat} (v : Nat) : FR (W.setCell ⟨b, x, none⟩ (iv v)) b n (Gr.upd f x v) := fun i hi => by
  obtain ⟨h1, h2⟩ := h i hi
  refine ⟨?_, by rw [World.frozen?_setCell]; exact h2⟩
  by_cases e : i = x
  · subst e; rw [Gr.upd_same]; exact World.cell?_setCell_same _ _ _ h1
  · rw [Gr.upd_other e, World.cell?_setCell_other _ _ _ _ (fun e2 => e (by simpa using (congrArg Addr.off e2).symm))]; exact h1
/-- Truths in a block. -/
def FB (W : World) (b n : Nat) (f : Nat → Bool) : Prop := ∀ i, i < n → W.cell? ⟨b, i, none⟩ = some (.bool (f i)) ∧ W.frozen? ⟨b, i, none⟩ = false
theorem FB.kept {W W' : World} {b n : Nat} {f : Nat → Bool} {S : Nat → Prop} (h : FB W b n f) (k : Kept S W W') (hb : S b) : FB W' b n f := fun i hi => by
  obtain ⟨h1, h2⟩ := h i hi
  have hl := block_lt_of_cell h1
  exact ⟨(k.cell (p := ⟨b, i, none⟩) hl hb).trans h1, (k.frozen (p := ⟨b, i, none⟩) hl hb).trans h2⟩
theorem FB.set {W : World} {b n : Nat} {f g : Nat → Bool} (h : FB W b n f) {x : Nat} (v : Bool) (hg : ∀ i, i < n → g i = if i = x then v else f i) : FB (W.setCell ⟨b, x, none⟩ (.bool v)) b n g := fun i hi => by
  obtain ⟨h1, h2⟩ := h i hi
  refine ⟨?_, by rw [World.frozen?_setCell]; exact h2⟩
  rw [hg i hi]
  by_cases e : i = x
  · subst e; rw [if_pos rfl]; exact World.cell?_setCell_same _ _ _ h1
  · rw [if_neg e, World.cell?_setCell_other _ _ _ _ (fun e2 => e (by simpa using (congrArg Addr.off e2).symm))]; exact h1
/-- Rows of ints of their own, in a block; the row g is marked 20 + g. -/
structure WR (tg : Nat → Nat) (W : World) (b m : Nat) (vs : Nat → Value) (L : Nat → List Nat) : Prop where
  cel : ∀ g, g < m → W.cell? ⟨b, g, none⟩ = some (vs g) ∧ W.frozen? ⟨b, g, none⟩ = false
  row : ∀ g, g < m → IR 0 W (vs g) (L g)
  tgs : ∀ g, g < m → ∀ c, (vs g).ownBlock = some c → tg c = 20 + g
theorem WR.kept {tg : Nat → Nat} {W W' : World} {b m : Nat} {vs : Nat → Value} {L : Nat → List Nat} {S : Nat → Prop} (h : WR tg W b m vs L) (k : Kept S W W') (hb : S b) (hS : ∀ c g, g < m → tg c = 20 + g → S c) : WR tg W' b m vs L :=
  ⟨fun g hg => by
    obtain ⟨h1, h2⟩ := h.cel g hg
    have hl := block_lt_of_cell h1
    exact ⟨(k.cell (p := ⟨b, g, none⟩) hl hb).trans h1, (k.frozen (p := ⟨b, g, none⟩) hl hb).trans h2⟩, fun g hg => (h.row g hg).kept k (fun c hc => hS c g hg (h.tgs g hg c hc)), h.tgs⟩
theorem WR.tag {tg tg' : Nat → Nat} {W : World} {b m : Nat} {vs : Nat → Value} {L : Nat → List Nat} (h : WR tg W b m vs L) (ht : ∀ c, c < W.heap.size → tg' c = tg c) : WR tg' W b m vs L :=
  ⟨h.cel, h.row, fun g hg c hc => by rw [ht c ((h.row g hg).lt c hc).2]; exact h.tgs g hg c hc⟩
def updV (f : Nat → Value) (x : Nat) (v : Value) : Nat → Value := fun y => if y = x then v else f y
/-- The places of a grouping. -/
structure GA where
  ga : Option Addr
  gc : Nat
  PG : Nat
  OB : Nat
  NB : Nat
  la : Option Addr
  lc : Nat
  LB : Nat
  WQ : Nat
  PB : Nat
/-- A group's list has memory of its own. -/
def Sole (W : World) (A : GA) (m g gb : Nat) : Prop := (∀ j, W.frozen? ⟨gb, j, none⟩ = false) ∧ ∀ h, h < m → h ≠ g → ∀ hb n c, W.cell? ⟨A.PG, h, none⟩ = some (.slice (some ⟨hb, 0, none⟩) n c) → hb ≠ gb
theorem Sole.kept {W W' : World} {A : GA} {m g gb : Nat} {S : Nat → Prop} (h : Sole W A m g gb) (k : Kept S W W') (hP : S A.PG ∧ A.PG < W.heap.size) (hG : S gb ∧ gb < W.heap.size) : Sole W' A m g gb :=
  ⟨fun j => (k.frozen (p := ⟨gb, j, none⟩) hG.2 hG.1).trans (h.1 j), fun x hx hn hb n c hc => h.2 x hx hn hb n c ((k.cell (p := ⟨A.PG, x, none⟩) hP.2 hP.1).symm.trans hc)⟩
/-- The groups' lists, which stay. -/
def GRP (tg : Nat → Nat) (W : World) (A : GA) (m : Nat) (G : Nat → List Nat) : Prop := ∀ g, g < m → ∃ gb gc, (tg gb = 5 ∧ gb < W.heap.size) ∧ W.cell? ⟨A.PG, g, none⟩ = some (.slice (some ⟨gb, 0, none⟩) (G g).length gc) ∧ (G g).length ≤ gc ∧ (gc ≤ maxLen ∧ Sole W A m g gb) ∧ ∀ j, j < (G g).length → W.cell? ⟨gb, j, none⟩ = some (iv ((G g).getD j 0))
structure GM (e : List (List Int)) (n0 m : Nat) (ea : Option Addr) (ec GB : Nat) (A : GA) (tg : Nat → Nat) (of nx left : Nat → Nat) (G : Nat → List Nat) (wv : Nat → Value) (wait : Nat → List Nat) (pl : Nat → Bool) (hv : Value) (H : List Nat) (W : World) : Prop where
  bx : Bx W GB [.slice ea e.length ec, .slice A.ga m A.gc, .slice (some ⟨A.OB, 0, none⟩) e.length e.length, .slice (some ⟨A.NB, 0, none⟩) e.length e.length, .slice A.la m A.lc, .slice (some ⟨A.WQ, 0, none⟩) m m, .slice (some ⟨A.PB, 0, none⟩) m m, hv]
  em : EM e n0 ea W
  sz : n0 ≤ W.heap.size
  ofs : FR W A.OB e.length of
  nxs : FR W A.NB e.length nx
  lfs : FR W A.LB m left
  grp : GRP tg W A m G
  wts : WR tg W A.WQ m wv wait
  pls : FB W A.PB m pl
  rd : IR 0 W hv H
  t0 : ∀ c, c < n0 → tg c = 0
  tGB : tg GB = 1
  tOB : tg A.OB = 2
  tNB : tg A.NB = 3
  tLB : 0 < m → A.la = some ⟨A.LB, 0, none⟩ ∧ tg A.LB = 4 ∧ m ≤ A.lc
  tPG : 0 < m → A.ga = some ⟨A.PG, 0, none⟩ ∧ tg A.PG = 5 ∧ m ≤ A.gc
  tWQ : tg A.WQ = 6
  tPB : tg A.PB = 8
  tH : ∀ c, hv.ownBlock = some c → tg c = 7
  lts : A.OB < W.heap.size ∧ A.NB < W.heap.size ∧ A.WQ < W.heap.size ∧ A.PB < W.heap.size
theorem GRP.kept {tg : Nat → Nat} {W W' : World} {A : GA} {m : Nat} {G : Nat → List Nat} {S : Nat → Prop} (h : GRP tg W A m G) (k : Kept S W W') (hS : ∀ c, tg c = 5 → S c) (hP : 0 < m → tg A.PG = 5) : GRP tg W' A m G := fun g hg => by
  obtain ⟨gb, gc, h1, h2, h3, h4, h5⟩ := h g hg
  refine ⟨gb, gc, ⟨h1.1, Nat.lt_of_lt_of_le h1.2 k.size⟩, (k.cell (p := ⟨A.PG, g, none⟩) (block_lt_of_cell h2) (hS _ (hP (by omega)))).trans h2, h3, ⟨h4.1, h4.2.kept k ⟨hS _ (hP (by omega)), block_lt_of_cell h2⟩ ⟨hS _ h1.1, h1.2⟩⟩, fun j hj => ?_⟩
  have := h5 j hj
  exact (k.cell (p := ⟨gb, j, none⟩) (block_lt_of_cell this) (hS _ h1.1)).trans this
variable {e : List (List Int)} {n0 m : Nat} {ea : Option Addr} {ec GB : Nat} {A : GA} {tg : Nat → Nat} {of nx left : Nat → Nat} {G : Nat → List Nat} {wv : Nat → Value} {wait : Nat → List Nat} {pl : Nat → Bool} {hv : Value} {H : List Nat} {W W' : World}
/-- Nothing of it was touched. -/
theorem GM.kept (h : GM e n0 m ea ec GB A tg of nx left G wv wait pl hv H W) {S : Nat → Prop} (k : Kept S W W') (hS : ∀ c, c < W.heap.size → (tg c ≤ 8 ∨ 20 ≤ tg c) → S c) : GM e n0 m ea ec GB A tg of nx left G wv wait pl hv H W' := by
  have h1 : Kept (fun c => tg c ≤ 8 ∨ 20 ≤ tg c) W W' := k.mono (fun c hc h => hS c hc h)
  exact ⟨h.bx.kept h1 (by rw [h.tGB]; omega), h.em.kept h1 (fun c hc => by rw [h.t0 c hc]; omega) h.sz, Nat.le_trans h.sz k.size, h.ofs.kept h1 (by rw [h.tOB]; omega), h.nxs.kept h1 (by rw [h.tNB]; omega), (by
    by_cases hm : 0 < m
    · exact h.lfs.kept h1 (by rw [(h.tLB hm).2.1]; omega)
    · exact fun i hi => by omega), h.grp.kept h1 (fun c hc => by rw [hc]; omega) (fun hm => (h.tPG hm).2.1), h.wts.kept h1 (by rw [h.tWQ]; omega) (fun c g _ hc => by rw [hc]; omega), h.pls.kept h1 (by rw [h.tPB]; omega), h.rd.kept h1 (fun c hc => by rw [h.tH c hc]; omega), h.t0, h.tGB, h.tOB, h.tNB, h.tLB, h.tPG, h.tWQ, h.tPB, h.tH, ⟨Nat.lt_of_lt_of_le h.lts.1 k.size, Nat.lt_of_lt_of_le h.lts.2.1 k.size, Nat.lt_of_lt_of_le h.lts.2.2.1 k.size, Nat.lt_of_lt_of_le h.lts.2.2.2 k.size⟩⟩
theorem GM.drew (h : GM e n0 m ea ec GB A tg of nx left G wv wait pl hv H W) : GM e n0 m ea ec GB A tg of nx left G wv wait pl hv H W.drew := h.kept (Kept.drew (fun _ => True) W) (fun _ _ _ => trivial)
/-- The next name of a thing. -/
theorem GM.setNx (h : GM e n0 m ea ec GB A tg of nx left G wv wait pl hv H W) (t v : Nat) : GM e n0 m ea ec GB A tg of (Gr.upd nx t v) left G wv wait pl hv H (W.setCell ⟨A.NB, t, none⟩ (iv v)) ∧ Kept (fun c => tg c ≠ 3) W (W.setCell ⟨A.NB, t, none⟩ (iv v)) := by
  have k : Kept (fun c => tg c ≠ 3) W (W.setCell ⟨A.NB, t, none⟩ (iv v)) := Kept.setCell _ _ _ _ (by simp [h.tNB])
  refine ⟨⟨h.bx.kept k (by rw [h.tGB]; omega), h.em.kept k (fun c hc => by rw [h.t0 c hc]; omega) h.sz, Nat.le_trans h.sz k.size, h.ofs.kept k (by rw [h.tOB]; omega), h.nxs.set v, ?_, h.grp.kept k (fun c hc => by rw [hc]; omega) (fun hm => (h.tPG hm).2.1), h.wts.kept k (by rw [h.tWQ]; omega) (fun c g _ hc => by rw [hc]; omega), h.pls.kept k (by rw [h.tPB]; omega), h.rd.kept k (fun c hc => by rw [h.tH c hc]; omega), h.t0, h.tGB, h.tOB, h.tNB, h.tLB, h.tPG, h.tWQ, h.tPB, h.tH, ⟨Nat.lt_of_lt_of_le h.lts.1 k.size, Nat.lt_of_lt_of_le h.lts.2.1 k.size, Nat.lt_of_lt_of_le h.lts.2.2.1 k.size, Nat.lt_of_lt_of_le h.lts.2.2.2 k.size⟩⟩, k⟩
  by_cases hm : 0 < m
  · exact h.lfs.kept k (by rw [(h.tLB hm).2.1]; omega)
  · exact fun i hi => by omega
/-- How many of a group are left. -/
theorem GM.setLf (h : GM e n0 m ea ec GB A tg of nx left G wv wait pl hv H W) (hm : 0 < m) (t v : Nat) : GM e n0 m ea ec GB A tg of nx (Gr.upd left t v) G wv wait pl hv H (W.setCell ⟨A.LB, t, none⟩ (iv v)) ∧ Kept (fun c => tg c ≠ 4) W (W.setCell ⟨A.LB, t, none⟩ (iv v)) := by
  have k : Kept (fun c => tg c ≠ 4) W (W.setCell ⟨A.LB, t, none⟩ (iv v)) := Kept.setCell _ _ _ _ (by simp [(h.tLB hm).2.1])
  exact ⟨⟨h.bx.kept k (by rw [h.tGB]; omega), h.em.kept k (fun c hc => by rw [h.t0 c hc]; omega) h.sz, Nat.le_trans h.sz k.size, h.ofs.kept k (by rw [h.tOB]; omega), h.nxs.kept k (by rw [h.tNB]; omega), h.lfs.set v, h.grp.kept k (fun c hc => by rw [hc]; omega) (fun hm => (h.tPG hm).2.1), h.wts.kept k (by rw [h.tWQ]; omega) (fun c g _ hc => by rw [hc]; omega), h.pls.kept k (by rw [h.tPB]; omega), h.rd.kept k (fun c hc => by rw [h.tH c hc]; omega), h.t0, h.tGB, h.tOB, h.tNB, h.tLB, h.tPG, h.tWQ, h.tPB, h.tH, ⟨Nat.lt_of_lt_of_le h.lts.1 k.size, Nat.lt_of_lt_of_le h.lts.2.1 k.size, Nat.lt_of_lt_of_le h.lts.2.2.1 k.size, Nat.lt_of_lt_of_le h.lts.2.2.2 k.size⟩⟩, k⟩
/-- New blocks are marked. -/
theorem GM.tag (h : GM e n0 m ea ec GB A tg of nx left G wv wait pl hv H W) {tg' : Nat → Nat} (ht : ∀ c, c < W.heap.size → tg' c = tg c) : GM e n0 m ea ec GB A tg' of nx left G wv wait pl hv H W :=
  ⟨h.bx, h.em, h.sz, h.ofs, h.nxs, h.lfs, fun g hg => by
    obtain ⟨gb, gc, h1, h2, h3, h4, h5⟩ := h.grp g hg
    exact ⟨gb, gc, by rw [ht gb h1.2]; exact h1, h2, h3, h4, h5⟩, h.wts.tag ht, h.pls, h.rd, fun c hc => by rw [ht c (Nat.lt_of_lt_of_le hc h.sz)]; exact h.t0 c hc, by rw [ht _ h.bx.lt]; exact h.tGB, by rw [ht _ h.lts.1]; exact h.tOB, by rw [ht _ h.lts.2.1]; exact h.tNB, fun hm => by rw [ht _ (block_lt_of_cell (h.lfs 0 hm).1)]; exact h.tLB hm, fun hm => by
      obtain ⟨gb, gc, h1, h2, -⟩ := h.grp 0 hm
      rw [ht _ (block_lt_of_cell h2)]; exact h.tPG hm, by rw [ht _ h.lts.2.2.1]; exact h.tWQ, by rw [ht _ h.lts.2.2.2]; exact h.tPB, fun c hc => by rw [ht c (h.rd.lt c hc).2]; exact h.tH c hc, h.lts⟩
end Go.Proofs.Ytmnligaelihmiaa
