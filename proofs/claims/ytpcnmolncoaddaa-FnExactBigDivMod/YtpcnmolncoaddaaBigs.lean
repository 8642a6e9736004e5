import Derived.Test.YtpcnmolncoaddaaBase
namespace Go.Proofs.Ytpcnmolncoaddaa
open Go.RowKit Go.Joins

theorem bcell {W w1 : World} (hb : Below W.heap.size W w1) : (∀ b o, b < W.heap.size → w1.cell? ⟨b, o, none⟩ = W.cell? ⟨b, o, none⟩) ∧ (∀ b o, b < W.heap.size → w1.frozen? ⟨b, o, none⟩ = W.frozen? ⟨b, o, none⟩) :=
  ⟨fun b o h => hb.cell (p := ⟨b, o, none⟩) h, fun b o h => hb.frozen (p := ⟨b, o, none⟩) h⟩

theorem Own.below {B w w' v n f} (h : Own B w v n f) (hb : Below w.heap.size w w') : Own B w' v n f := by
  obtain ⟨a, c, rfl, h1, h2, h3, h4⟩ := h
  refine ⟨a, c, rfl, h1, h2, h3, fun hn => ?_⟩
  obtain ⟨b, off, rfl, h7, h5, h6⟩ := h4 hn
  exact ⟨b, off, rfl, h7, fun i hi => (hb.cell (block_lt_of_cell (h5 i hi))).trans (h5 i hi), fun i hi => (hb.frozen (block_lt_of_cell (h5 i hi))).trans (h6 i hi)⟩

theorem Own.less {B B' w v n f} (h : Own B w v n f) (hb : B' ≤ B) : Own B' w v n f := by
  obtain ⟨a, c, rfl, h1, h2, h3, h4⟩ := h
  refine ⟨a, c, rfl, h1, h2, h3, fun hn => ?_⟩
  obtain ⟨b, off, rfl, h7, h5, h6⟩ := h4 hn
  exact ⟨b, off, rfl, by omega, h5, h6⟩

/-- A store into another block, or behind draws: what is owned stays. -/
theorem Own.set {B w v n f} (h : Own B w v n f) (p : Addr) (u : Value) (hp : p.block < B) : Own B (w.setCell p u) v n f := by
  obtain ⟨a, c, rfl, h1, h2, h3, h4⟩ := h
  refine ⟨a, c, rfl, h1, h2, h3, fun hn => ?_⟩
  obtain ⟨b, off, rfl, h7, h5, h6⟩ := h4 hn
  refine ⟨b, off, rfl, h7, fun i hi => ?_, fun i hi => ?_⟩
  · rw [← h5 i hi]; simp only [World.cell?]; rw [Below.heap_setCell _ _ _ _ (by omega)]
  · rw [← h6 i hi]; simp only [World.frozen?]; rw [Below.heap_setCell _ _ _ _ (by omega)]

set_option maxHeartbeats 400000 in
theorem szBig_any (m : Bool) (a : Option Addr) (n c : Nat) (left : Int) (w : World) (h0 : 0 ≤ left) (h1 : left ≤ 1048576) (hn : n ≤ 9223372036854775807) :
    Calls Try.prog 32 #[.agg #[.bool m, .slice a n c], .int .i64 left] w fun e w' => e = .returned (.int .i64 (if left < n then -1 else left - n)) ∧ Below w.heap.size w w' := by
  by_cases h : left < n
  · go_enter Try.func32, Try.ntmps32
    go_wp2_with (go_at_call 73; refine (szU_any _ _ _ _ _ h0 h1 hn).mono ?_; rintro e w' ⟨rfl, rfl⟩)
    go_ret
    exact ⟨rfl, (Below.refl _ _).alloc (Nat.le_refl _) _⟩
  · go_enter Try.func32, Try.ntmps32
    go_wp2_with (go_at_call 73; refine (szU_any _ _ _ _ _ h0 h1 hn).mono ?_; rintro e w' ⟨rfl, rfl⟩)
    go_ret
    exact ⟨rfl, (Below.refl _ _).alloc (Nat.le_refl _) _⟩

set_option maxHeartbeats 400000 in
theorem toBig_any (m : Bool) (v : Value) (n : Nat) (f : Nat → Nat) (w : World) (hL : Lim w v n f) (hn : n ≤ 1048576) :
    Calls Try.prog 33 #[.agg #[.bool m, v]] w fun e w' => ∃ v', e = .returned (.agg #[.bool m, v']) ∧ Own w.heap.size w' v' n f ∧ Below w.heap.size w w' := by
  obtain ⟨a, c, rfl, h1, h2, h3, h4⟩ := id hL
  go_enter Try.func33, Try.ntmps33
  go_wp2_with fail
  refine (toU_any (hL.below (below_alloc3 _ _ _ _)) hn).mono ?_
  rintro e w1 ⟨rfl, hh, hb⟩
  obtain ⟨hc, hf⟩ := bcell hb
  have hz := hb.size
  simp only [World.size_alloc] at hc hf hz
  simp only [World.size_alloc] at hh
  have hown := hh.own rfl (Nat.le_refl _) (by unfold maxLen; omega) h3
  clear hh
  go_wp2_with fail
  refine bodyPost_ret (v := .agg #[.bool m, .slice (some ⟨w.heap.size + 1 + 1 + 1, 0, none⟩) n n]) (by simp [results, Try.results33, go_sem, hc]) rfl ⟨_, rfl, ?_, ?_⟩
  · exact (((hown.set _ _ (by simp)).set _ _ (by simp)).set _ _ (by simp)).less (by omega)
  · exact ((((below_alloc3 w _ _ _).trans (hb.mono (by simp; omega))).setCell (by simp; omega) _).setCell (by simp) _).setCell (by simp) _

set_option maxHeartbeats 400000 in
theorem eqBig_any (m : Bool) (v v' : Value) (n : Nat) (f g : Nat → Nat) (w : World) (hL : Lim w v n f) (hL' : Lim w v' n g) (hn : n ≤ 1048576) (he : ∀ i, i < n → f i = g i) :
    Calls Try.prog 34 #[.agg #[.bool m, v], .agg #[.bool m, v']] w fun e w' => e = .returned (.bool true) ∧ Below w.heap.size w w' := by
  obtain ⟨a, c, rfl, h1, h2, h3, h4⟩ := id hL
  obtain ⟨a', c', rfl, h1', h2', h3', h4'⟩ := id hL'
  go_enter Try.func34, Try.ntmps34
  go_wp2_with fail
  refine (eqU_any (hL.below (below_alloc2 _ _ _)) (hL'.below (below_alloc2 _ _ _)) hn he).mono ?_
  rintro e w1 ⟨rfl, q, rfl⟩
  go_wp2_with fail
  go_ret
  exact ⟨rfl, (below_alloc2 _ _ _).trans (below_draws _ _ _)⟩

end Go.Proofs.Ytpcnmolncoaddaa
