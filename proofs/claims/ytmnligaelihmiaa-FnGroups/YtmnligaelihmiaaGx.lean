import Derived.Test.YtmnligaelihmiaaGt
namespace Go.Proofs.Ytmnligaelihmiaa
open Go.RowKit Go.Joins
/-- The groups so far, in order. -/
def OV (A : GA) (tg : Nat → Nat) (l : List Nat) (ov : Value) (W : World) : Prop :=
  (∃ xs : List Value, W.ownsRow 0 27 1 ov l.length xs ∧ ∀ (i g : Nat), l[i]? = some g → W.cell? ⟨A.PG, g, none⟩ = xs[i]?) ∧ ∀ c, ov.ownBlock = some c → tg c = 10
variable {e : List (List Int)} {n0 m : Nat} {ea : Option Addr} {ec GB : Nat} {A : GA} {tg : Nat → Nat} {of nx left : Nat → Nat} {G : Nat → List Nat} {wv : Nat → Value} {wait : Nat → List Nat} {pl : Nat → Bool} {hv ov : Value} {H l : List Nat} {W W' : World}
theorem OV.kept {S : Nat → Prop} (h : OV A tg l ov W) (k : Kept S W W') (h0 : l ≠ [] → S A.PG ∧ A.PG < W.heap.size) (hS : ∀ c, ov.ownBlock = some c → S c) : OV A tg l ov W' := by
  obtain ⟨⟨xs, h1, h2⟩, h3⟩ := h
  refine ⟨⟨xs, ownsRow_kept h1 k hS, fun i g hg => ?_⟩, h3⟩
  have hl : l ≠ [] := fun e1 => by rw [e1] at hg; simp at hg
  rw [← h2 i g hg]
  exact k.cell (p := ⟨A.PG, g, none⟩) (h0 hl).2 (h0 hl).1
theorem OV.lt (h : OV A tg l ov W) : ∀ c, ov.ownBlock = some c → c < W.heap.size := by
  obtain ⟨⟨xs, h1, -⟩, -⟩ := h
  exact fun c hc => (World.ownsRow.lt h1 c hc).2
/-- A group is put to them. -/
theorem OV.push (h : OV A tg l ov W) (hm : GM e n0 m ea ec GB A tg of nx left G wv wait pl hv H W) {g : Nat} (hg : g < m) {x : Value} (hx : W.cell? ⟨A.PG, g, none⟩ = some x) {xs : List Value} (hx2 : ∀ (i g : Nat), l[i]? = some g → W.cell? ⟨A.PG, g, none⟩ = xs[i]?) (hxl : xs.length = l.length) {V W4 : World} (kV : Kept (fun _ => True) W V) {b cap : Nat} (hG : V.grownBy W4 ov.ownBlock) (hO : W4.ownsRow 0 27 1 (.slice (some ⟨b, 0, none⟩) (l.length + 1) cap) (l.length + 1) (xs ++ [x])) (hat : ov.ownBlock = some b ∨ b = V.heap.size) :
    OV A (mark tg b 10) (l ++ [g]) (.slice (some ⟨b, 0, none⟩) (l.length + 1) cap) W4 ∧ GM e n0 m ea ec GB A (mark tg b 10) of nx left G wv wait pl hv H W4 ∧ (∀ c, c < W.heap.size → mark tg b 10 c = tg c) ∧ Kept (fun c => tg c ≠ 10) W W4 ∧ b < W4.heap.size := by
  have ht : ∀ c, c < W.heap.size → mark tg b 10 c = tg c := fun c hc => by
    by_cases e1 : c = b
    · subst e1
      rw [mark_same]
      rcases hat with e2 | e2
      · exact (h.2 c e2).symm
      · have := kV.size; omega
    · exact mark_other e1
  have k4 : Kept (fun c => ov.ownBlock ≠ some c) W W4 := (kV.mono (fun _ _ _ => trivial)).trans (Kept.grown hG (fun k hk hn => hn hk))
  have k5 : Kept (fun c => tg c ≠ 10) W W4 := k4.mono (fun c _ hc e1 => hc (h.2 c e1))
  have hPl : A.PG < W.heap.size := block_lt_of_cell hx
  have tP := (hm.tPG (by omega)).2.1
  refine ⟨⟨⟨xs ++ [x], by rw [List.length_append]; exact hO, fun i u hu => ?_⟩, fun c hc => ?_⟩, (hm.tag ht).kept k5 (fun c hc h2 => by rw [ht c hc] at h2; omega), ht, k5, (World.ownsRow.lt hO b rfl).2⟩
  · rw [k5.cell (p := ⟨A.PG, u, none⟩) hPl (by show tg A.PG ≠ 10; omega)]
    by_cases e1 : i < l.length
    · rw [List.getElem?_append_left e1] at hu
      rw [List.getElem?_append_left (by omega)]
      exact hx2 i u hu
    · rw [List.getElem?_append_right (by omega)] at hu
      rw [List.getElem?_append_right (by omega), hxl]
      have e2 : i - l.length = 0 := by
        have := (List.getElem?_eq_some_iff.1 hu).1
        simp at this; omega
      rw [e2] at hu ⊢
      simp at hu
      subst hu
      simpa using hx
  · have : b = c := by simpa [Value.ownBlock] using hc
    rw [← this, mark_same]
/-- What Groups' loop knows. -/
def Q2 (e : List (List Int)) (n0 m : Nat) (ea : Option Addr) (ec GB : Nat) (A : GA) (of : Nat → Nat) (G : Nat → List Nat) (l : List Nat) (tg : Nat → Nat) (ov : Value) (W : World) : Prop :=
  ∃ pl, SS e n0 m ea ec GB A of G pl l tg [] W ∧ (∀ g, g < m → (pl g = true ↔ g ∈ l)) ∧ OV A tg l ov W
/-- The groups as answered. -/
def AnsG (n0 : Nat) (G : Nat → List Nat) (l : List Nat) (v : Value) (W : World) : Prop :=
  ∃ xs : List Value, W.ownsRow 0 27 1 v l.length xs ∧ (∀ c, v.ownBlock = some c → n0 ≤ c) ∧ ∀ (i g : Nat), l[i]? = some g → ∃ gb gc, xs[i]? = some (.slice (some ⟨gb, 0, none⟩) (G g).length gc) ∧ n0 ≤ gb ∧ gb < W.heap.size ∧ (G g).length ≤ gc ∧ gc ≤ maxLen ∧ ∀ j, j < (G g).length → W.cell? ⟨gb, j, none⟩ = some (iv ((G g).getD j 0))
/-- .. each with memory of its own. -/
def AnsO (n0 : Nat) (G : Nat → List Nat) (l : List Nat) (v : Value) (W : World) : Prop :=
  ∃ xs : List Value, W.ownsRow 0 27 1 v l.length xs ∧ (∀ c, v.ownBlock = some c → n0 ≤ c) ∧ ∀ (i g : Nat), l[i]? = some g → ∃ gb gc, xs[i]? = some (.slice (some ⟨gb, 0, none⟩) (G g).length gc) ∧ n0 ≤ gb ∧ gb < W.heap.size ∧ (G g).length ≤ gc ∧ (gc ≤ maxLen ∧ v.ownBlock ≠ some gb ∧ (∀ j, W.frozen? ⟨gb, j, none⟩ = false) ∧ ∀ k, k < l.length → k ≠ i → ∀ hb n c, xs[k]? = some (.slice (some ⟨hb, 0, none⟩) n c) → hb ≠ gb) ∧ ∀ j, j < (G g).length → W.cell? ⟨gb, j, none⟩ = some (iv ((G g).getD j 0))
theorem AnsO.ans {n0 : Nat} {G : Nat → List Nat} {l : List Nat} {v : Value} {W : World} (h : AnsO n0 G l v W) : AnsG n0 G l v W := by
  obtain ⟨xs, h1, h2, h3⟩ := h
  refine ⟨xs, h1, h2, fun i g hg => ?_⟩
  obtain ⟨gb, gc, a1, a2, a3, a4, a5, a6⟩ := h3 i g hg
  exact ⟨gb, gc, a1, a2, a3, a4, a5.1, a6⟩
theorem Q2.ans (h : Q2 e n0 m ea ec GB A of G l tg ov W) : AnsO n0 G l ov W := by
  obtain ⟨pl, ⟨st, nx, left, wv, wait, hv, H, hm, hw, hh⟩, hp, ⟨xs, h1, h2⟩, h3⟩ := h
  refine ⟨xs, h1, fun c hc => ?_, fun i g hg => ?_⟩
  · by_cases e1 : c < n0
    · have := hm.t0 c e1; have := h3 c hc; omega
    · omega
  · have hgm : g < m := hw.sq.lt g (List.mem_of_getElem? hg)
    obtain ⟨gb, gc, a1, a2, a3, a4, a5⟩ := hm.grp g hgm
    refine ⟨gb, gc, by rw [← h2 i g hg]; exact a2, ?_, a1.2, a3, ⟨a4.1, fun e1 => ?_, a4.2.1, fun k hk hki hb n c hx => ?_⟩, a5⟩
    · by_cases e1 : gb < n0
      · have := hm.t0 gb e1; omega
      · omega
    · have := h3 gb e1; omega
    · obtain ⟨u, hu⟩ : ∃ u, l[k]? = some u := ⟨l[k], List.getElem?_eq_getElem hk⟩
      refine a4.2.2 u (hw.sq.lt u (List.mem_of_getElem? hu)) (fun e1 => hki ?_) hb n c (by rw [h2 k u hu]; exact hx)
      rw [e1, ← hg] at hu
      exact (List.getElem?_inj hk hw.sq.nodup).1 hu
end Go.Proofs.Ytmnligaelihmiaa
