import Derived.Test.YtmnligaelihmiaaGq
namespace Go.Proofs.Ytmnligaelihmiaa
open Go.RowKit Go.Joins
variable {e : List (List Int)} {n0 : Nat} {ea : Option Addr} {ec GB OB NB MB VB : Nat} {tg com of nb : Nat → Nat} {m : Nat} {gv : Value} {rv : Nat → Value} {L : Nat → List Nat} {W W' : World}
/-- A new group. -/
theorem NG.grow (h : NG e n0 ea ec GB OB NB MB VB tg com of nb m gv rv L W) {xs : List Value} (hxs : ∀ g, g < m → xs[g]? = some (rv g)) (hxl : xs.length = m) {V W4 : World} (kV : Kept (fun _ => True) W V) {b cap : Nat} (hG : V.grownBy W4 gv.ownBlock) (hO : W4.ownsRow 0 27 1 (.slice (some ⟨b, 0, none⟩) (m + 1) cap) (m + 1) (xs ++ [.slice none 0 0])) (hat : gv.ownBlock = some b ∨ b = V.heap.size) :
    NG e n0 ea ec GB OB NB MB VB (mark tg b 13) com of nb (m + 1) (.slice (some ⟨b, 0, none⟩) (m + 1) cap) (updV rv m (.slice none 0 0)) (Gr.updL L m []) (W4.setCell ⟨GB, 1, none⟩ (.slice (some ⟨b, 0, none⟩) (m + 1) cap)) ∧ (∀ c, c < W.heap.size → mark tg b 13 c = tg c) := by
  have ht : ∀ c, c < W.heap.size → mark tg b 13 c = tg c := fun c hc => by
    by_cases e1 : c = b
    · subst e1
      rw [mark_same]
      rcases hat with e2 | e2
      · exact (h.tgv c e2).symm
      · have := kV.size; omega
    · exact mark_other e1
  have k4 : Kept (fun c => gv.ownBlock ≠ some c) W W4 := (kV.mono (fun _ _ _ => trivial)).trans (Kept.grown hG (fun k hk hn => hn hk))
  have k5 : Kept (fun c => gv.ownBlock ≠ some c ∧ c ≠ GB) W (W4.setCell ⟨GB, 1, none⟩ (.slice (some ⟨b, 0, none⟩) (m + 1) cap)) := (k4.mono (fun c _ h => h.1)).trans (Kept.setCell _ _ _ _ (by simp))
  have kt : Kept (fun c => tg c ≠ 1 ∧ tg c ≠ 13) W (W4.setCell ⟨GB, 1, none⟩ (.slice (some ⟨b, 0, none⟩) (m + 1) cap)) := k5.mono (fun c _ hc => ⟨fun e1 => by have := h.tgv c e1; omega, fun e1 => hc.1 (by rw [e1]; exact h.tGB)⟩)
  have hbG : b ≠ GB := fun e1 => by
    rcases hat with e2 | e2
    · have h1 := h.tgv b e2; have h2 := h.tGB; rw [e1] at h1; omega
    · have := h.bx.lt; have := kV.size; omega
  have hGn : gv.ownBlock ≠ some GB := fun e1 => by have := h.tgv GB e1; have := h.tGB; omega
  have h' := h.tag ht
  have k : Kept (fun c => mark tg b 13 c ≠ 1 ∧ mark tg b 13 c ≠ 13) W (W4.setCell ⟨GB, 1, none⟩ (.slice (some ⟨b, 0, none⟩) (m + 1) cap)) := kt.mono (fun c hc hcc => by rw [← ht c hc]; exact hcc)
  have hb4 := (h.bx.kept k4 hGn).put 1 (.slice (some ⟨b, 0, none⟩) (m + 1) cap) (by simp)
  refine ⟨⟨hb4, h'.em.kept k (fun c hc => by rw [h'.t0 c hc]; omega) h.sz, Nat.le_trans h.sz k.size, h'.ofs.kept k (by rw [h'.tOB]; omega), h'.nxs.kept k (by rw [h'.tNB]; omega), h'.mbs.kept k (by rw [h'.tMB]; omega), vis_kept h'.vis k (by rw [h'.tVB]; omega), ?_, fun g hg => ?_, h'.t0, h'.tGB, h'.tOB, h'.tNB, h'.tMB, h'.tVB, fun c hc => ?_, fun g hg c hc => ?_, ⟨Nat.lt_of_lt_of_le h.lts.1 k.size, Nat.lt_of_lt_of_le h.lts.2.1 k.size, Nat.lt_of_lt_of_le h.lts.2.2.1 k.size, Nat.lt_of_lt_of_le h.lts.2.2.2 k.size⟩⟩, ht⟩
  · have h1 : OR W4 (.slice (some ⟨b, 0, none⟩) (m + 1) cap) (m + 1) (updV rv m (.slice none 0 0)) := ⟨_, hO, fun g hg => by
      unfold updV
      by_cases e1 : g = m
      · rw [if_pos e1, e1, List.getElem?_append_right (by omega), hxl, Nat.sub_self]; rfl
      · rw [if_neg e1, List.getElem?_append_left (by omega)]; exact hxs g (by omega)⟩
    exact h1.kept (Kept.setCell (fun c => c ≠ GB) _ _ _ (by simp)) (fun c hc => by
      have : b = c := by simpa [Value.ownBlock] using hc
      rw [← this]; exact hbG)
  · unfold updV
    by_cases e1 : g = m
    · subst e1
      rw [if_pos rfl, Gr.updL_same]; exact IR2.nil _
    · rw [if_neg e1, Gr.updL_other e1]
      exact (h'.row g (by omega)).kept k (fun c hc => by rw [h'.trv g (by omega) c hc]; omega)
  · have : b = c := by simpa [Value.ownBlock] using hc
    rw [← this, mark_same]
  · unfold updV at hc
    by_cases e1 : g = m
    · rw [if_pos e1] at hc; simp [Value.ownBlock] at hc
    · rw [if_neg e1] at hc; exact h'.trv g (by omega) c hc
/-- A thing is put to its group. -/
theorem NG.push {PG pc : Nat} (h : NG e n0 ea ec GB OB NB MB VB tg com of nb m (.slice (some ⟨PG, 0, none⟩) m pc) rv L W) {g t : Nat} (hg : g < m) {V W4 : World} (kV : Kept (fun _ => True) W V) {b cap : Nat} (hG : V.grownBy W4 (rv g).ownBlock) (hO : W4.ownsRow 0 2 1 (.slice (some ⟨b, 0, none⟩) ((L g).length + 1) cap) ((L g).length + 1) ((L g).map iv ++ [iv t])) (hat : (rv g).ownBlock = some b ∨ b = V.heap.size) :
    NG e n0 ea ec GB OB NB MB VB (mark tg b (20 + g)) com of nb m (.slice (some ⟨PG, 0, none⟩) m pc) (updV rv g (.slice (some ⟨b, 0, none⟩) ((L g).length + 1) cap)) (Gr.updL L g (L g ++ [t])) (W4.setCell ⟨PG, g, none⟩ (.slice (some ⟨b, 0, none⟩) ((L g).length + 1) cap)) ∧ (∀ c, c < W.heap.size → mark tg b (20 + g) c = tg c) := by
  have ht : ∀ c, c < W.heap.size → mark tg b (20 + g) c = tg c := fun c hc => by
    by_cases e1 : c = b
    · subst e1
      rw [mark_same]
      rcases hat with e2 | e2
      · exact (h.trv g hg c e2).symm
      · have := kV.size; omega
    · exact mark_other e1
  have tPG := h.tgv PG rfl
  have k4 : Kept (fun c => (rv g).ownBlock ≠ some c) W W4 := (kV.mono (fun _ _ _ => trivial)).trans (Kept.grown hG (fun k hk hn => hn hk))
  have k5 : Kept (fun c => (rv g).ownBlock ≠ some c ∧ c ≠ PG) W (W4.setCell ⟨PG, g, none⟩ (.slice (some ⟨b, 0, none⟩) ((L g).length + 1) cap)) := (k4.mono (fun c _ h => h.1)).trans (Kept.setCell _ _ _ _ (by simp))
  have kt : Kept (fun c => tg c ≠ 13 ∧ tg c < 20) W (W4.setCell ⟨PG, g, none⟩ (.slice (some ⟨b, 0, none⟩) ((L g).length + 1) cap)) := k5.mono (fun c _ hc => ⟨fun e1 => by have := h.trv g hg c e1; omega, fun e1 => hc.1 (by rw [e1]; exact tPG)⟩)
  have hbP : b ≠ PG := fun e1 => by
    rcases hat with e2 | e2
    · have h1 := h.trv g hg b e2; rw [e1] at h1; omega
    · have := h.out.lt PG rfl; have := kV.size; omega
  have hPn : (rv g).ownBlock ≠ some PG := fun e1 => by have := h.trv g hg PG e1; omega
  have h' := h.tag ht
  have k : Kept (fun c => mark tg b (20 + g) c ≠ 13 ∧ mark tg b (20 + g) c < 20) W (W4.setCell ⟨PG, g, none⟩ (.slice (some ⟨b, 0, none⟩) ((L g).length + 1) cap)) := kt.mono (fun c hc hcc => by rw [← ht c hc]; exact hcc)
  have hrow : IR2 W4 (.slice (some ⟨b, 0, none⟩) ((L g).length + 1) cap) (L g ++ [t]) := by
    unfold IR2
    rw [List.map_append, List.length_append]
    exact hO
  refine ⟨⟨h'.bx.kept k (by rw [h'.tGB]; omega), h'.em.kept k (fun c hc => by rw [h'.t0 c hc]; omega) h.sz, Nat.le_trans h.sz k.size, h'.ofs.kept k (by rw [h'.tOB]; omega), h'.nxs.kept k (by rw [h'.tNB]; omega), h'.mbs.kept k (by rw [h'.tMB]; omega), vis_kept h'.vis k (by rw [h'.tVB]; omega), ?_, fun u hu => ?_, h'.t0, h'.tGB, h'.tOB, h'.tNB, h'.tMB, h'.tVB, h'.tgv, fun u hu c hc => ?_, ⟨Nat.lt_of_lt_of_le h.lts.1 k.size, Nat.lt_of_lt_of_le h.lts.2.1 k.size, Nat.lt_of_lt_of_le h.lts.2.2.1 k.size, Nat.lt_of_lt_of_le h.lts.2.2.2 k.size⟩⟩, ht⟩
  · exact (h.out.kept k4 (fun c hc => by
      have : PG = c := by simpa [Value.ownBlock] using hc
      rw [← this]; exact hPn)).set g hg _
  · unfold updV
    by_cases e1 : u = g
    · subst e1
      rw [if_pos rfl, Gr.updL_same]
      exact hrow.kept (Kept.setCell (fun c => c ≠ PG) _ _ _ (by simp)) (fun c hc => by
        have : b = c := by simpa [Value.ownBlock] using hc
        rw [← this]; exact hbP)
    · rw [if_neg e1, Gr.updL_other e1]
      refine (h.row u hu).kept k5 (fun c hc => ⟨fun e2 => ?_, fun e2 => ?_⟩)
      · have h1 := h.trv u hu c hc; have h2 := h.trv g hg c e2; omega
      · have h1 := h.trv u hu c hc; rw [e2] at h1; omega
  · unfold updV at hc
    by_cases e1 : u = g
    · subst e1
      rw [if_pos rfl] at hc
      have : b = c := by simpa [Value.ownBlock] using hc
      rw [← this, mark_same]
    · rw [if_neg e1] at hc
      exact h'.trv u hu c hc
end Go.Proofs.Ytmnligaelihmiaa
