import Derived.Test.YtmnligaelihmiaaGv
import Derived.Test.YtmnligaelihmiaaGp
namespace Go.Proofs.Ytmnligaelihmiaa
open Go.RowKit Go.Joins
theorem FR.made {W : World} {b n : Nat} {t : TypeId} (h : W.heap[b]? = some (.cells (madeCells #[.int .i64 0] n) t)) : FR W b n (fun _ => 0) := fun i hi => by
  refine ⟨?_, by simp [World.frozen?, h]⟩
  simp [World.cell?, h, madeCells, hi, iv, Nat.mod_one]
def tgF (tg : Nat → Nat) (WQ PB : Nat) (c : Nat) : Nat := if c = WQ then 6 else if c = PB then 8 else if tg c = 13 ∨ 20 ≤ tg c then 5 else tg c
/-- The grouping is made. -/
theorem N2.done {e : List (List Int)} {n0 : Nat} {ea : Option Addr} {ec GB OB NB : Nat} {tg of : Nat → Nat} {m : Nat} {gv lv : Value} {rv : Nat → Value} {L : Nat → List Nat} {W A1 A2 A3 A4 : World} (h : N2 e n0 ea ec GB OB NB tg of m gv rv L m lv W) (hne : ∀ g, g < m → L g ≠ [])
    (h1 : W.setCell ⟨GB, 5, none⟩ (.slice (some ⟨W.heap.size, 0, none⟩) m m) = A1) (h2 : A1.setCell ⟨GB, 6, none⟩ (.slice (some ⟨W.heap.size + 1, 0, none⟩) m m) = A2) (h3 : A2.alloc (.cells (madeCells #[.slice none 0 0] m) 26) = A3) (h4 : A3.alloc (.cells (madeCells #[.bool false] m) 4) = A4) :
    (∃ A tg', GM e n0 m ea ec GB A tg' of (fun _ => 0) (fun g => (L g).length) L (fun _ => .slice none 0 0) (fun _ => []) (fun _ => false) (.slice none 0 0) [] A4) ∧ Kept (fun c => tg c ≠ 1) W A4 := by
  have s1 : A1.heap.size = W.heap.size := by rw [← h1]; simp
  have s2 : A2.heap.size = W.heap.size := by rw [← h2]; simpa using s1
  have s3 : A3.heap.size = W.heap.size + 1 := by rw [← h3]; simp [s2]
  have s4 : A4.heap.size = W.heap.size + 2 := by rw [← h4]; simp [s3]
  have k1 : Kept (fun c => c ≠ GB) W A1 := by rw [← h1]; exact Kept.setCell _ _ _ _ (by simp)
  have k2 : Kept (fun c => c ≠ GB) A1 A2 := by rw [← h2]; exact Kept.setCell _ _ _ _ (by simp)
  have k3 : Kept (fun _ => True) A2 A3 := by rw [← h3]; exact Kept.alloc _ _ _
  have k4 : Kept (fun _ => True) A3 A4 := by rw [← h4]; exact Kept.alloc _ _ _
  have hGl := h.bx.lt
  have b4 : Bx A4 GB [.slice ea e.length ec, gv, .slice (some ⟨OB, 0, none⟩) e.length e.length, .slice (some ⟨NB, 0, none⟩) e.length e.length, lv, .slice (some ⟨W.heap.size, 0, none⟩) m m, .slice (some ⟨W.heap.size + 1, 0, none⟩) m m, .slice none 0 0] := by
    have a1 := h.bx.put 5 (.slice (some ⟨W.heap.size, 0, none⟩) m m) (by simp)
    rw [h1] at a1
    have a2 := a1.put 6 (.slice (some ⟨W.heap.size + 1, 0, none⟩) m m) (by simp)
    rw [h2] at a2
    exact (a2.kept k3 trivial).kept k4 trivial
  have kG : Kept (fun c => c ≠ GB) W A4 := ((k1.trans k2).trans (k3.mono (fun _ _ _ => trivial))).trans (k4.mono (fun _ _ _ => trivial))
  have kt : Kept (fun c => tg c ≠ 1) W A4 := kG.mono (fun c _ hc e1 => hc (by rw [e1]; exact h.tGB))
  have wq : WR (tgF tg W.heap.size (W.heap.size + 1)) A4 W.heap.size m (fun _ => .slice none 0 0) (fun _ => []) := by
    have a0 : WR (tgF tg W.heap.size (W.heap.size + 1)) A3 W.heap.size m (fun _ => .slice none 0 0) (fun _ => []) := by rw [← h3, ← s2]; exact WR.made (heap_new _ _)
    exact a0.kept k4 trivial (fun _ _ _ _ => trivial)
  have pb : FB A4 (W.heap.size + 1) m (fun _ => false) := by rw [← h4, ← s3]; exact FB.made (heap_new _ _)
  have hga : ∃ ga gc PG, gv = .slice ga m gc ∧ m ≤ gc ∧ (0 < m → ga = some ⟨PG, 0, none⟩) := by
    obtain ⟨a, cap, e1, e2, e3, e4⟩ := h.out.shape
    rcases e4 with e4 | ⟨b, e4, -⟩
    · exact ⟨a, cap, 0, e1, e2, fun e5 => by omega⟩
    · exact ⟨a, cap, b, e1, e2, fun _ => e4⟩
  have hla : ∃ la lc LB, lv = .slice la m lc ∧ m ≤ lc ∧ (0 < m → la = some ⟨LB, 0, none⟩) := by
    obtain ⟨a, cap, e1, e2, e3, e4⟩ := h.lrow.shape
    rw [List.length_map, List.length_range] at e1 e2
    rcases e4 with e4 | ⟨b, e4, -⟩
    · exact ⟨a, cap, 0, e1, e2, fun e5 => by have := congrArg List.length e4; simp at this; omega⟩
    · exact ⟨a, cap, b, e1, e2, fun _ => e4⟩
  obtain ⟨ga, gc, PG, hgv, hgc, hPG⟩ := hga
  obtain ⟨la, lc, LB, hlv, hlc, hLB⟩ := hla
  have hF : ∀ c, c < W.heap.size → tgF tg W.heap.size (W.heap.size + 1) c = if tg c = 13 ∨ 20 ≤ tg c then 5 else tg c := fun c hc => by
    unfold tgF
    rw [if_neg (by omega), if_neg (by omega)]
  have hFo : ∀ c, c < W.heap.size → ∀ v, tg c = v → v < 13 → tgF tg W.heap.size (W.heap.size + 1) c = v := fun c hc v hv hl => by
    rw [hF c hc, if_neg (by omega), hv]
  refine ⟨⟨⟨ga, gc, PG, OB, NB, la, lc, LB, W.heap.size, W.heap.size + 1⟩, tgF tg W.heap.size (W.heap.size + 1), ⟨?_, h.em.kept kt (fun c hc => by rw [h.t0 c hc]; omega) h.sz, Nat.le_trans h.sz kt.size, h.ofs.kept kt (by rw [h.tOB]; omega), h.nxs.kept kt (by rw [h.tNB]; omega), ?_, ?_, wq, pb, IR.nil _ _, fun c hc => hFo c (Nat.lt_of_lt_of_le hc h.sz) _ (h.t0 c hc) (by omega), hFo _ hGl _ h.tGB (by omega), hFo _ h.lts.1 _ h.tOB (by omega), hFo _ h.lts.2 _ h.tNB (by omega), fun hm => ?_, fun hm => ?_, ?_, ?_, fun c hc => by simp [Value.ownBlock] at hc, ?_⟩⟩, kt⟩
  · rw [hgv, hlv] at b4
    exact b4
  · intro i hi
    have hl := h.lrow
    rw [hlv, hLB (by omega)] at hl
    have ht := h.tlv LB (by rw [hlv, hLB (by omega)]; rfl)
    have c1 := hl.cell i (by simpa using hi)
    have hlt := (hl.lt LB rfl).2
    refine ⟨(kt.cell (p := ⟨LB, i, none⟩) hlt (by show tg LB ≠ 1; omega)).trans (c1.trans ?_), (kt.frozen (p := ⟨LB, i, none⟩) hlt (by show tg LB ≠ 1; omega)).trans (hl.frozen i)⟩
    congr 2
    simp [hi]
  · intro g hg
    have ho := h.out
    rw [hgv, hPG (by omega)] at ho
    have htP := h.tgv PG (by rw [hgv, hPG (by omega)]; rfl)
    obtain ⟨c1, -⟩ := ho.cell g hg
    obtain ⟨gb, cap, e1, e2, e3, e4, e5⟩ := (h.row g hg).shape (hne g hg)
    have htg := h.trv g hg gb (by rw [e1]; rfl)
    rw [e1] at c1
    refine ⟨gb, cap, ⟨by rw [hF gb e4, if_pos (by omega)], Nat.lt_of_lt_of_le e4 kt.size⟩, (kt.cell (p := ⟨PG, g, none⟩) (ho.lt PG rfl) (by show tg PG ≠ 1; omega)).trans c1, e2, ⟨e3, fun j => ?_, fun x hx hn hb n c hc => ?_⟩, fun j hj => (kt.cell (p := ⟨gb, j, none⟩) e4 (by show tg gb ≠ 1; omega)).trans (e5 j hj)⟩
    · have hr := h.row g hg
      rw [e1] at hr
      exact (kt.frozen (p := ⟨gb, j, none⟩) e4 (by show tg gb ≠ 1; omega)).trans (World.ownsRow.frozenAt hr j)
    · obtain ⟨d1, -⟩ := ho.cell x hx
      have d2 := ((kt.cell (p := ⟨PG, x, none⟩) (ho.lt PG rfl) (by show tg PG ≠ 1; omega)).trans d1).symm.trans hc
      have d3 := h.trv x hx hb (by rw [Option.some.inj d2]; rfl)
      intro e6
      rw [e6] at d3
      omega
  · have hl := h.lrow
    rw [hlv, hLB hm] at hl
    have ht := h.tlv LB (by rw [hlv, hLB hm]; rfl)
    exact ⟨hLB hm, hFo LB (hl.lt LB rfl).2 _ ht (by omega), hlc⟩
  · have ho := h.out
    rw [hgv, hPG hm] at ho
    have htP := h.tgv PG (by rw [hgv, hPG hm]; rfl)
    exact ⟨hPG hm, by rw [hF PG (ho.lt PG rfl), if_pos (by omega)], hgc⟩
  · unfold tgF; rw [if_pos rfl]
  · unfold tgF; rw [if_neg (by show W.heap.size + 1 ≠ W.heap.size; omega), if_pos rfl]
  · have := h.lts
    exact ⟨by show OB < _; omega, by show NB < _; omega, by show W.heap.size < _; omega, by show W.heap.size + 1 < _; omega⟩
end Go.Proofs.Ytmnligaelihmiaa
