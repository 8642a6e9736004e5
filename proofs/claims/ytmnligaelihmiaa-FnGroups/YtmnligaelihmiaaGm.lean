import Derived.Test.YtmnligaelihmiaaGl
namespace Go.Proofs.Ytmnligaelihmiaa
open Go.RowKit Go.Joins
variable {e : List (List Int)} {n0 m : Nat} {ea : Option Addr} {ec GB : Nat} {A : GA} {tg : Nat → Nat} {of nx left : Nat → Nat} {G : Nat → List Nat} {wv : Nat → Value} {wait : Nat → List Nat} {pl : Nat → Bool} {hv : Value} {H : List Nat} {W W' : World}
def mark (tg : Nat → Nat) (b k : Nat) : Nat → Nat := fun c => if c = b then k else tg c
theorem mark_same (tg : Nat → Nat) (b k : Nat) : mark tg b k b = k := by simp [mark]
theorem mark_other {tg : Nat → Nat} {b k c : Nat} (h : c ≠ b) : mark tg b k c = tg c := by simp [mark, h]
theorem GM.hb (h : GM e n0 m ea ec GB A tg of nx left G wv wait pl hv H W) (hl : H.length ≤ 1048576) : He.HB W GB 7 0 hv H :=
  ⟨h.bx.lt, h.bx.cel 7 _ rfl, h.bx.live 7, h.rd, fun e => by have := h.tH GB e; have := h.tGB; omega, hl⟩
/-- The heap was changed. -/
theorem GM.ready (h : GM e n0 m ea ec GB A tg of nx left G wv wait pl hv H W) {b hk cap : Nat} {H' : List Nat} (hB : He.HB W' GB 7 0 (.slice (some ⟨b, 0, none⟩) hk cap) H') (hat : hv.ownBlock = some b ∨ W.heap.size ≤ b) (kk : Kept (fun c => c ≠ GB ∧ hv.ownBlock ≠ some c) W W') (ho : He.Oth GB 7 W W') :
    GM e n0 m ea ec GB A (mark tg b 7) of nx left G wv wait pl (.slice (some ⟨b, 0, none⟩) hk cap) H' W' ∧ (∀ c, c < W.heap.size → mark tg b 7 c = tg c) ∧ Kept (fun c => tg c ≠ 1 ∧ tg c ≠ 7) W W' := by
  have ht : ∀ c, c < W.heap.size → mark tg b 7 c = tg c := fun c hc => by
    by_cases e1 : c = b
    · subst e1
      rw [mark_same]
      rcases hat with e2 | e2
      · exact (h.tH c e2).symm
      · omega
    · exact mark_other e1
  have kt : Kept (fun c => tg c ≠ 1 ∧ tg c ≠ 7) W W' := kk.mono (fun c _ hc => ⟨fun e1 => hc.1 (by rw [e1]; exact h.tGB), fun e1 => hc.2 (h.tH c e1)⟩)
  have h' := h.tag ht
  have k : Kept (fun c => mark tg b 7 c ≠ 1 ∧ mark tg b 7 c ≠ 7) W W' := kt.mono (fun c hc hcc => by rw [← ht c hc]; exact hcc)
  refine ⟨⟨⟨hB.lt, fun i v hi => ?_, fun j => ?_⟩, h'.em.kept k (fun c hc => by rw [h'.t0 c hc]; omega) h.sz, Nat.le_trans h.sz k.size, h'.ofs.kept k (by rw [h'.tOB]; omega), h'.nxs.kept k (by rw [h'.tNB]; omega), ?_, h'.grp.kept k (fun c hc => by rw [hc]; omega) (fun hm => (h'.tPG hm).2.1), h'.wts.kept k (by rw [h'.tWQ]; omega) (fun c g _ hc => by rw [hc]; omega), h'.pls.kept k (by rw [h'.tPB]; omega), hB.row, h'.t0, h'.tGB, h'.tOB, h'.tNB, h'.tLB, h'.tPG, h'.tWQ, h'.tPB, fun c hc => ?_, ⟨Nat.lt_of_lt_of_le h.lts.1 k.size, Nat.lt_of_lt_of_le h.lts.2.1 k.size, Nat.lt_of_lt_of_le h.lts.2.2.1 k.size, Nat.lt_of_lt_of_le h.lts.2.2.2 k.size⟩⟩, ht, kt⟩
  · by_cases e1 : i = 7
    · subst e1
      have : v = .slice (some ⟨b, 0, none⟩) hk cap := by simpa using hi.symm
      rw [this]; exact hB.cell
    · rw [(ho i e1).1]
      refine h.bx.cel i v ?_
      match i, e1 with
      | 0, _ => exact hi
      | 1, _ => exact hi
      | 2, _ => exact hi
      | 3, _ => exact hi
      | 4, _ => exact hi
      | 5, _ => exact hi
      | 6, _ => exact hi
      | 7, e1 => exact absurd rfl e1
      | n + 8, _ => simp at hi
  · by_cases e1 : j = 7
    · subst e1; exact hB.fr
    · rw [(ho j e1).2]; exact h.bx.live j
  · by_cases hm : 0 < m
    · exact h'.lfs.kept k (by rw [(h'.tLB hm).2.1]; omega)
    · exact fun i hi => by omega
  · have : b = c := by simpa [Value.ownBlock] using hc
    rw [← this, mark_same]
/-- A thing waits for a group. -/
theorem GM.push (h : GM e n0 m ea ec GB A tg of nx left G wv wait pl hv H W) {g t : Nat} (hg : g < m) {V W4 : World} (kV : Kept (fun _ => True) W V) {b cap : Nat} (hG : V.grownBy W4 (wv g).ownBlock) (hO : W4.ownsRow 0 3 1 (.slice (some ⟨b, 0, none⟩) ((wait g).length + 1) cap) ((wait g).length + 1) ((wait g).map iv ++ [iv t])) (hat : (wv g).ownBlock = some b ∨ b = V.heap.size) :
    GM e n0 m ea ec GB A (mark tg b (20 + g)) of nx left G (updV wv g (.slice (some ⟨b, 0, none⟩) ((wait g).length + 1) cap)) (Gr.updL wait g (wait g ++ [t])) pl hv H (W4.setCell ⟨A.WQ, g, none⟩ (.slice (some ⟨b, 0, none⟩) ((wait g).length + 1) cap)) ∧ (∀ c, c < W.heap.size → mark tg b (20 + g) c = tg c) ∧ Kept (fun c => tg c ≠ 6 ∧ tg c < 20) W (W4.setCell ⟨A.WQ, g, none⟩ (.slice (some ⟨b, 0, none⟩) ((wait g).length + 1) cap)) := by
  have ht : ∀ c, c < W.heap.size → mark tg b (20 + g) c = tg c := fun c hc => by
    by_cases e1 : c = b
    · subst e1
      rw [mark_same]
      rcases hat with e2 | e2
      · exact (h.wts.tgs g hg c e2).symm
      · have := kV.size; omega
    · exact mark_other e1
  have k4 : Kept (fun c => (wv g).ownBlock ≠ some c) W W4 := (kV.mono (fun _ _ _ => trivial)).trans (Kept.grown hG (fun k hk hn => hn hk))
  have k5 : Kept (fun c => (wv g).ownBlock ≠ some c ∧ c ≠ A.WQ) W (W4.setCell ⟨A.WQ, g, none⟩ (.slice (some ⟨b, 0, none⟩) ((wait g).length + 1) cap)) := (k4.mono (fun c _ h => h.1)).trans (Kept.setCell _ _ _ _ (by simp))
  have kt : Kept (fun c => tg c ≠ 6 ∧ tg c < 20) W (W4.setCell ⟨A.WQ, g, none⟩ (.slice (some ⟨b, 0, none⟩) ((wait g).length + 1) cap)) := k5.mono (fun c _ hc => ⟨fun e1 => by have := h.wts.tgs g hg c e1; omega, fun e1 => hc.1 (by rw [e1]; exact h.tWQ)⟩)
  have h' := h.tag ht
  have hbW : b ≠ A.WQ := fun e1 => by
    rcases hat with e2 | e2
    · have h1 := h.wts.tgs g hg b e2; have h2 := h.tWQ; rw [e1] at h1; omega
    · have := h.lts.2.2.1; have := kV.size; omega
  have k : Kept (fun c => mark tg b (20 + g) c ≠ 6 ∧ mark tg b (20 + g) c < 20) W (W4.setCell ⟨A.WQ, g, none⟩ (.slice (some ⟨b, 0, none⟩) ((wait g).length + 1) cap)) := kt.mono (fun c hc hcc => by rw [← ht c hc]; exact hcc)
  have hrow : IR 0 W4 (.slice (some ⟨b, 0, none⟩) ((wait g).length + 1) cap) (wait g ++ [t]) := by
    unfold IR
    rw [List.map_append, List.length_append]
    exact hO
  refine ⟨⟨h'.bx.kept k (by rw [h'.tGB]; omega), h'.em.kept k (fun c hc => by rw [h'.t0 c hc]; omega) h.sz, Nat.le_trans h.sz k.size, h'.ofs.kept k (by rw [h'.tOB]; omega), h'.nxs.kept k (by rw [h'.tNB]; omega), ?_, h'.grp.kept k (fun c hc => by rw [hc]; omega) (fun hm => (h'.tPG hm).2.1), ⟨fun u hu => ?_, fun u hu => ?_, fun u hu c hc => ?_⟩, h'.pls.kept k (by rw [h'.tPB]; omega), h'.rd.kept k (fun c hc => by rw [h'.tH c hc]; omega), h'.t0, h'.tGB, h'.tOB, h'.tNB, h'.tLB, h'.tPG, h'.tWQ, h'.tPB, h'.tH, ⟨Nat.lt_of_lt_of_le h.lts.1 k.size, Nat.lt_of_lt_of_le h.lts.2.1 k.size, Nat.lt_of_lt_of_le h.lts.2.2.1 k.size, Nat.lt_of_lt_of_le h.lts.2.2.2 k.size⟩⟩, ht, kt⟩
  · by_cases hm : 0 < m
    · exact h'.lfs.kept k (by rw [(h'.tLB hm).2.1]; omega)
    · exact fun i hi => by omega
  · obtain ⟨h1, h2⟩ := h.wts.cel u hu
    have hWl := h.lts.2.2.1
    have hWn : (wv g).ownBlock ≠ some A.WQ := fun e1 => by have := h.wts.tgs g hg A.WQ e1; have := h.tWQ; omega
    refine ⟨?_, by rw [World.frozen?_setCell, k4.frozen (p := ⟨A.WQ, u, none⟩) hWl hWn]; exact h2⟩
    unfold updV
    by_cases e1 : u = g
    · subst e1
      rw [if_pos rfl]
      exact World.cell?_setCell_same _ _ _ ((k4.cell (p := ⟨A.WQ, u, none⟩) hWl hWn).trans h1)
    · rw [if_neg e1, World.cell?_setCell_other _ _ _ _ (fun e2 => e1 (by simpa using (congrArg Addr.off e2).symm))]
      exact (k4.cell (p := ⟨A.WQ, u, none⟩) hWl hWn).trans h1
  · unfold updV
    by_cases e1 : u = g
    · subst e1
      rw [if_pos rfl, Gr.updL_same]
      exact hrow.kept (Kept.setCell (fun c => c ≠ A.WQ) _ _ _ (by simp)) (fun c hc => by
        have : b = c := by simpa [Value.ownBlock] using hc
        rw [← this]; exact hbW)
    · rw [if_neg e1, Gr.updL_other e1]
      refine (h.wts.row u hu).kept k5 (fun c hc => ⟨fun e2 => ?_, fun e2 => ?_⟩)
      · have h1 := h.wts.tgs u hu c hc; have h2 := h.wts.tgs g hg c e2; omega
      · have h1 := h.wts.tgs u hu c hc; have h2 := h.tWQ; rw [e2] at h1; omega
  · unfold updV at hc
    by_cases e1 : u = g
    · subst e1
      rw [if_pos rfl] at hc
      have : b = c := by simpa [Value.ownBlock] using hc
      rw [← this, mark_same]
    · rw [if_neg e1] at hc
      rw [ht c ((h.wts.row u hu).lt c hc).2]
      exact h.wts.tgs u hu c hc
end Go.Proofs.Ytmnligaelihmiaa
