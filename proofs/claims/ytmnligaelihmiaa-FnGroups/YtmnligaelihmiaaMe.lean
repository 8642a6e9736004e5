import Derived.Test.YtmnligaelihmiaaMd
import Derived.Test.YtmnligaelihmiaaMc
namespace Go.Proofs.Ytmnligaelihmiaa
open Go.RowKit Go.Joins
/-- The model's groups so far. -/
def MO (n0 n : Nat) (of : Nat → Nat) (l : List Nat) (v : Value) (W : World) : Prop :=
  ∃ xs : List Value, W.ownsRow 0 27 1 v l.length xs ∧ (∀ c, v.ownBlock = some c → n0 ≤ c) ∧ ∀ (i g : Nat), l[i]? = some g → ∃ gb gc, xs[i]? = some (.slice (some ⟨gb, 0, none⟩) (Gr.gm of n g).length gc) ∧ n0 ≤ gb ∧ gb < W.heap.size ∧ v.ownBlock ≠ some gb ∧ (Gr.gm of n g).length ≤ gc ∧ gc ≤ maxLen ∧ ∀ j, j < (Gr.gm of n g).length → W.cell? ⟨gb, j, none⟩ = some (iv ((Gr.gm of n g).getD j 0))
theorem MO.kept {n0 n : Nat} {of : Nat → Nat} {l : List Nat} {v : Value} {W W' : World} (h : MO n0 n of l v W) (k : Kept (fun c => c < W.heap.size) W W') : MO n0 n of l v W' := by
  obtain ⟨xs, h1, h2, h3⟩ := h
  refine ⟨xs, ownsRow_kept h1 k (fun c hc => (World.ownsRow.lt h1 c hc).2), h2, fun i g hg => ?_⟩
  obtain ⟨gb, gc, a1, a2, a3, a4, a5, a6, a7⟩ := h3 i g hg
  exact ⟨gb, gc, a1, a2, Nat.lt_of_lt_of_le a3 k.size, a4, a5, a6, fun j hj => (k.cell (p := ⟨gb, j, none⟩) a3 a3).trans (a7 j hj)⟩
theorem MO.ans {n0 n : Nat} {of : Nat → Nat} {l : List Nat} {v : Value} {W : World} (h : MO n0 n of l v W) : AnsG n0 (Gr.gm of n) l v W := by
  obtain ⟨xs, h1, h2, h3⟩ := h
  refine ⟨xs, h1, h2, fun i g hg => ?_⟩
  obtain ⟨gb, gc, a1, a2, a3, -, a5, a6, a7⟩ := h3 i g hg
  exact ⟨gb, gc, a1, a2, a3, a5, a6, a7⟩
/-- A group is put to them. -/
theorem MO.push {n0 n : Nat} {of : Nat → Nat} {l : List Nat} {v : Value} {W V W4 : World} {xs : List Value} {g : Nat} (h1 : W.ownsRow 0 27 1 v l.length xs) (h2 : ∀ c, v.ownBlock = some c → n0 ≤ c) (h3 : ∀ (i g : Nat), l[i]? = some g → ∃ gb gc, xs[i]? = some (.slice (some ⟨gb, 0, none⟩) (Gr.gm of n g).length gc) ∧ n0 ≤ gb ∧ gb < W.heap.size ∧ v.ownBlock ≠ some gb ∧ (Gr.gm of n g).length ≤ gc ∧ gc ≤ maxLen ∧ ∀ j, j < (Gr.gm of n g).length → W.cell? ⟨gb, j, none⟩ = some (iv ((Gr.gm of n g).getD j 0)))
    {gb gc : Nat} (hb : n0 ≤ gb ∧ v.ownBlock ≠ some gb) (hr : IR2 W (.slice (some ⟨gb, 0, none⟩) (Gr.gm of n g).length gc) (Gr.gm of n g)) (hc : (Gr.gm of n g).length ≤ gc ∧ gc ≤ maxLen) (kV : Kept (fun _ => True) W V) {b cap : Nat} (hG : V.grownBy W4 v.ownBlock) (hO : W4.ownsRow 0 27 1 (.slice (some ⟨b, 0, none⟩) (l.length + 1) cap) (l.length + 1) (xs ++ [.slice (some ⟨gb, 0, none⟩) (Gr.gm of n g).length gc])) (hat : v.ownBlock = some b ∨ b = V.heap.size) :
    MO n0 n of (l ++ [g]) (.slice (some ⟨b, 0, none⟩) (l.length + 1) cap) W4 ∧ Kept (fun c => v.ownBlock ≠ some c) W W4 := by
  have k4 : Kept (fun c => v.ownBlock ≠ some c) W W4 := (kV.mono (fun _ _ _ => trivial)).trans (Kept.grown hG (fun k hk hn => hn hk))
  have hxl : xs.length = l.length := by have := h1.1; omega
  have hgl : gb < W.heap.size := hr.lt gb rfl
  have nb : ∀ r, r < W.heap.size → v.ownBlock ≠ some r → (Value.slice (some ⟨b, 0, none⟩) (l.length + 1) cap).ownBlock ≠ some r := fun r hr hn e1 => by
    have e2 : b = r := by simpa [Value.ownBlock] using e1
    rcases hat with e3 | e3
    · exact hn (by rw [e3, e2])
    · have := kV.size; omega
  refine ⟨⟨_, by rw [List.length_append]; exact hO, fun c hc => ?_, fun i u hu => ?_⟩, k4⟩
  · have e2 : b = c := by simpa [Value.ownBlock] using hc
    rcases hat with e3 | e3
    · rw [← e2]; exact h2 b e3
    · have := kV.size; omega
  · by_cases e1 : i < l.length
    · rw [List.getElem?_append_left e1] at hu
      obtain ⟨r, rc, a1, a2, a3, a4, a5, a6, a7⟩ := h3 i u hu
      exact ⟨r, rc, by rw [List.getElem?_append_left (by omega)]; exact a1, a2, Nat.lt_of_lt_of_le a3 k4.size, nb r a3 a4, a5, a6, fun j hj => (k4.cell (p := ⟨r, j, none⟩) a3 a4).trans (a7 j hj)⟩
    · rw [List.getElem?_append_right (by omega)] at hu
      have e2 : i - l.length = 0 := by
        have := (List.getElem?_eq_some_iff.1 hu).1
        simp at this; omega
      rw [e2] at hu
      simp at hu
      subst hu
      exact ⟨gb, gc, by rw [List.getElem?_append_right (by omega), hxl, e2]; rfl, hb.1, Nat.lt_of_lt_of_le hgl k4.size, nb gb hgl hb.2, hc.1, hc.2, fun j hj => (k4.cell (p := ⟨gb, j, none⟩) hgl hb.2).trans (hr.cell j hj).2⟩
/-- What leads to what, read. -/
theorem LR.read {e : List (List Int)} {n0 : Nat} {v : Value} {W : World} (h : LR e n0 e.length v W) : ∃ a cap, v = .slice a e.length cap ∧ e.length ≤ cap ∧ cap ≤ maxLen ∧ (e.length = 0 ∨ ∃ b, a = some ⟨b, 0, none⟩ ∧ n0 ≤ b ∧ b < W.heap.size ∧ ∀ x, x < e.length → ∃ (rb : Nat) (row : Nat → Bool), W.cell? ⟨b, x, none⟩ = some (.slice (some ⟨rb, 0, none⟩) e.length e.length) ∧ n0 ≤ rb ∧ rb < W.heap.size ∧ (∀ y, y < e.length → W.cell? ⟨rb, y, none⟩ = some (.bool (row y)) ∧ (row y = true ↔ Gr.Ld e x y))) := by
  obtain ⟨xs, h1, h2, h3⟩ := h
  rcases h1.2 with ⟨rfl, h0⟩ | ⟨b, cap, cur, rfl, hb, hg, hnc, hcm, -⟩
  · exact ⟨none, 0, by rw [h0], by omega, by simp [maxLen], .inl h0⟩
  · refine ⟨_, cap, rfl, hnc, hcm, .inr ⟨b, rfl, h2 b rfl, (Array.getElem?_eq_some_iff.1 hg).1, fun x hx => ?_⟩⟩
    obtain ⟨rb, a1, a2, a3, -, row, a5, a6⟩ := h3 x hx
    exact ⟨rb, row, by rw [World.ownsRow.cellAt h1 x (by omega)]; exact a1, a2, a3, fun y hy => ⟨(a5 y hy).1, a6 y hy⟩⟩
end Go.Proofs.Ytmnligaelihmiaa
