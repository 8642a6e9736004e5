import Derived.Test.YtmccdomgechkkaaFh
namespace Go.Proofs.Ytmccdomgechkkaa
open Go.RowKit Go.Joins

set_option maxHeartbeats 4000000 in
set_option maxRecDepth 100000 in
/-- A new set. -/
theorem i_empty {W : World} {B0 s : Nat} (h : Bx W s [.slice none 0 0, .int .i64 0, .int .i64 0]) (hs : B0 ≤ s) :
    Calls Try.prog 11 #[.pointer (some ⟨s, 0, none⟩)] W fun e W' => (∃ v, e = .returned v) ∧ NS W' B0 s none [] ∧ Kept (fun c => c ≠ s) W W' := by
  have p1 := h.cel 1 _ rfl
  have p2 := h.cel 2 _ rfl
  have f1 := h.live 1
  have f2 := h.live 2
  have HE : Hid (NS ((W.setCell ⟨s, 1, none⟩ (.int .i64 1)).setCell ⟨s, 2, none⟩ (.int .i64 0)) B0 s none [] ∧ Kept (fun c => c ≠ s) W ((W.setCell ⟨s, 1, none⟩ (.int .i64 1)).setCell ⟨s, 2, none⟩ (.int .i64 0))) := by
    refine ⟨⟨⟨none, 0, ?_, World.ownsRow_nil _ _ _ _, rfl⟩, ?_, ⟨0, ?_⟩, fun j => ?_, by simp, hs⟩, (Kept.setCell _ _ _ _ (fun hx => hx rfl)).trans (Kept.setCell _ _ _ _ (fun hx => hx rfl))⟩
    · rw [World.cell?_setCell_other _ _ _ _ (by simp), World.cell?_setCell_other _ _ _ _ (by simp)]
      exact h.cel 0 _ rfl
    · rw [World.cell?_setCell_other _ _ _ _ (by simp)]
      exact World.cell?_setCell_same _ _ _ p1
    · exact World.cell?_setCell_same _ _ _ (by rw [World.cell?_setCell_other _ _ _ _ (by simp)]; exact p2)
    · rw [World.frozen?_setCell, World.frozen?_setCell]
      exact h.live j
  clear h
  go_enter Try.func11, Try.ntmps11
  go_wp2_with fail
  go_end0
  exact ⟨⟨_, rfl⟩, HE.out⟩

set_option maxHeartbeats 4000000 in
set_option maxRecDepth 100000 in
/-- A new book. -/
theorem i_book (W : World) : Calls Try.prog 10 #[] W fun e W' => ∃ b M g1 g2 g3, e = .returned (.pointer (some ⟨b, 0, none⟩)) ∧ NB W' W.heap.size b M g1 g2 g3 [⟨#[]⟩] [0] ∧ Below W.heap.size W W' := by
  obtain ⟨V, hV⟩ : ∃ V, (W.alloc (.map #[] 0)).alloc (.cells #[.map (some W.heap.size), .slice none 0 0, .slice none 0 0, .slice none 0 0] 40) = V := ⟨_, rfl⟩
  have hz : (W.alloc (.map #[] 0)).heap.size = W.heap.size + 1 := by simp
  have bx : Bx V (W.heap.size + 1) [.map (some W.heap.size), .slice none 0 0, .slice none 0 0, .slice none 0 0] := by
    rw [← hV, ← hz]
    exact Bx.new _ _ _
  have bw : Below W.heap.size W V := by
    rw [← hV]
    exact (below_alloc1 _ _).trans ((below_alloc1 _ _).mono (by simp))
  have hm : MS V W.heap.size [] := by
    rw [← hV]
    exact (MS.start W).kept (Kept.alloc (fun _ => True) _ _) trivial
  have nb : NB V W.heap.size (W.heap.size + 1) W.heap.size none none none [] [] := by
    refine ⟨⟨bx.cel 0 _ rfl, hm, ⟨none, 0, bx.cel 1 _ rfl, World.ownsRow_nil _ _ _ _, rfl⟩, ⟨none, 0, bx.cel 2 _ rfl, World.ownsRow_nil _ _ _ _, rfl⟩, ⟨none, 0, bx.cel 3 _ rfl, World.ownsRow_nil _ _ _ _, rfl⟩, bx.live, ⟨by omega, by simp, by simp, by simp, by simp, by simp, by simp, by simp, by simp, by simp⟩, fun c hc => ?_⟩, List.nodup_nil, rfl⟩
    have := bx.lt
    rcases hc with e | e | e | e | e
    · omega
    · omega
    · cases e
    · cases e
    · cases e
  have HC := hide (num_new nb ⟨#[]⟩ (by simp) (by decide) (by simp) bw.size)
  have HB := hide bw
  have HNB := hide nb
  have HV := hide hV
  clear bx bw hm nb hV hz
  have hmk := run_makeMap36 W
  go_enter Try.func10, Try.ntmps10
  go_upto_region 2 with fail
  rw [HV.out]
  go_wp2_with (go_at_call 13; refine HC.out.mono ?_; rintro e W1 ⟨rfl, h1, h2, h3, n1, n2⟩)
  go_ret
  refine ⟨_, _, h1, h2, h3, rfl, n1, below_own HB.out n2.kept (fun c hc => (HNB.out.nx.lo c (Classical.not_not.1 hc)).1)⟩

end Go.Proofs.Ytmccdomgechkkaa
