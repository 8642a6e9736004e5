import Derived.Test.YtacaihhlcaoheaaJE
namespace Go.Proofs.Ytacaihhlcaoheaa.K
open Go.RowKit Go.Joins
variable {O : Nat → Nat}

set_option maxHeartbeats 4000000 in
set_option maxRecDepth 100000 in
/-- There are no things, but there is a map. -/
theorem i_settleE {lo G : Nat} {V : World} {M : Nat} {sv : Value} (h : GS O lo G V [] [] (.map (some M)) sv zf) (hc2 : ∃ v, V.cell? ⟨G, 2, none⟩ = some v) :
    Calls Try.prog 39 #[.pointer (some ⟨G, 0, none⟩)] V fun r V' => (∃ v, r = .returned v) ∧ SeP O lo G V [] (.map (some M)) sv V' := by
  obtain ⟨a, cap, rfl⟩ := h.slice0
  have c1 : V.cell? ⟨G, 1, none⟩ = some (.slice a 0 cap) := h.gs
  have c0 := h.gm
  have tf := h.gf 2
  have hlp : LP O lo G V [] (.map (some M)) (.slice a 0 cap) 0 V := ⟨by rw [fsI_zero]; exact h, Kept.refl _ _⟩
  obtain ⟨c, hr, hSL⟩ := SL.start (K := []) hlp h (by simp) hc2 0 rfl
  obtain ⟨v2, c2⟩ := hc2
  have hmk : (Instr.makeSlice 65 (.int .i64 0) (.int .i64 0)).run Try.prog V = .ok (.slice (some ⟨V.heap.size, 0, none⟩) 0 0) (V.alloc (.cells (madeCells #[.pointer none] 0) 87)) := run_makeP 0 (by omega) V
  obtain ⟨w1, hw1⟩ : ∃ w1, V.alloc (.cells (madeCells #[.pointer none] 0) 87) = w1 := ⟨_, rfl⟩
  rw [hw1] at hmk hr hSL
  have k1 : Kept (fun _ => True) V w1 := by rw [← hw1]; exact Kept.alloc _ _ _
  have hGw : G < V.heap.size := block_lt_of_cell c0
  have t21 : w1.cell? ⟨G, 2, none⟩ = some v2 := (k1.cell (p := ⟨G, 2, none⟩) hGw trivial).trans c2
  have tf1 : w1.frozen? ⟨G, 2, none⟩ = false := (k1.frozen (p := ⟨G, 2, none⟩) hGw trivial).trans tf
  have t01 : w1.cell? ⟨G, 0, none⟩ = some (.map (some M)) := (k1.cell (p := ⟨G, 0, none⟩) hGw trivial).trans c0
  obtain ⟨w2, hw2⟩ : ∃ w2, w1.setCell ⟨G, 2, none⟩ (.slice (some ⟨V.heap.size, 0, none⟩) 0 0) = w2 := ⟨_, rfl⟩
  rw [hw2] at hr hSL
  have t02 : w2.cell? ⟨G, 0, none⟩ = some (.map (some M)) := by
    rw [← hw2, World.cell?_setCell_other _ _ _ _ (fun x => (by decide : ¬ (2 : Nat) = 0) (congrArg Addr.off x))]
    exact t01
  obtain ⟨w3, hw3⟩ : ∃ w3, w2.alloc (.mapIter (some M) c #[] c) = w3 := ⟨_, rfl⟩
  rw [hw3] at hr hSL
  have hIM : V.heap.size + 1 ≠ M := by have := h.map.2.2; omega
  have hnx := hSL.i.next (P := Try.prog) hIM 0
  have hnx2 : (Instr.next (.pointer (some ⟨V.heap.size + 1, 0, none⟩)) false 0).run Try.prog w3 = .ok (.tuple #[.bool false]) w3 := by
    rcases hnx with ⟨-, h2⟩ | ⟨x, v, l, w', h2, -⟩
    · exact h2
    · simp [ents] at h2
  have HE := hide hSL.fin
  have HW2 := hide hw2
  obtain ⟨I, hI⟩ : ∃ I, V.heap.size + 1 = I := ⟨_, rfl⟩
  rw [hI] at hr hnx2
  clear h hlp hSL hnx k1 hw1 hw2 hw3 hGw tf c2 t01 hIM hI
  go_enter Try.func39, Try.ntmps39
  go_upto_region 2 with fail
  go_loopw [2, 3, 4, 11] (fun s2 _ _ s11 wr => s2 = .int .i64 0 ∧ s11 = .int .i64 0 ∧ wr = V) (fun _ _ _ _ _ => 0)
  case atStart => exact ⟨rfl, rfl, rfl⟩
  case round =>
    obtain ⟨rfl, rfl, rfl⟩ := hrel
    go_upto_region 10 with fail
    rw [HW2.out]
    go_upto_region 11 with fail
    go_loopw [5] (fun _ wx => wx = w3) (fun _ _ => 0)
    case atStart => rfl
    case round =>
      subst hrel
      go_wp2_with fail
      go_end0
      exact ⟨⟨_, rfl⟩, HE.out⟩

/-- Settle, whatever there is. -/
theorem i_settleX {lo G : Nat} {V : World} {K : List (Nat × Nat)} {mv sv : Value} (h : GS O lo G V K K mv sv zf) (hn : (K.map Prod.fst).Nodup) (hl : K.length ≤ 10000000) (hof : off K K.length ≤ 10000000) (hc2 : ∃ v, V.cell? ⟨G, 2, none⟩ = some v) :
    Calls Try.prog 39 #[.pointer (some ⟨G, 0, none⟩)] V fun r V' => (∃ v, r = .returned v) ∧ SeP O lo G V K mv sv V' := by
  by_cases h0 : 0 < K.length
  · rcases h.mp with ⟨h1, -⟩ | ⟨M, rfl, -⟩
    · rw [h1] at h0; simp at h0
    · exact i_settle h hn h0 hl hof hc2
  · have e : K = [] := List.length_eq_zero_iff.1 (by omega)
    subst e
    rcases h.mp with ⟨-, rfl⟩ | ⟨M, rfl, -⟩
    · exact i_settle0 h hc2
    · exact i_settleE h hc2

end Go.Proofs.Ytacaihhlcaoheaa.K
