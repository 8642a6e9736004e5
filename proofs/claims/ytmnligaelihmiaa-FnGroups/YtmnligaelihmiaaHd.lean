import Derived.Test.YtmnligaelihmiaaHc
import Derived.Test.YtmnligaelihmiaaVm
import Derived.Test.YtmnligaelihmiaaGe
namespace Go.Proofs.Ytmnligaelihmiaa.He
open Go.RowKit Go.Joins
theorem run_ta (x : Int) (w : World) : (Instr.typeAssert (.iface 3 (.int .i64 x)) 20 3 false).run Try.prog w = .ok (.int .i64 x) w := by kernel_rfl
theorem JR.lt {B : Nat} {w : World} {v : Value} {L : List Nat} (h : JR B w v L) : ∀ k, v.ownBlock = some k → B ≤ k ∧ k < w.heap.size := World.ownsRow.lt h
theorem JR.kept {B : Nat} {w w' : World} {v : Value} {L : List Nat} (h : JR B w v L) {S : Nat → Prop} (k : Kept S w w') (hS : ∀ c, v.ownBlock = some c → S c) : JR B w' v L := ownsRow_kept h k hS
/-- The other cells of the box. -/
def Oth (hb ho : Nat) (w w' : World) : Prop := ∀ j, j ≠ ho → w'.cell? ⟨hb, j, none⟩ = w.cell? ⟨hb, j, none⟩ ∧ w'.frozen? ⟨hb, j, none⟩ = w.frozen? ⟨hb, j, none⟩
set_option maxHeartbeats 2000000 in
set_option maxRecDepth 100000 in
theorem push58 (hb ho B : Nat) (v : Value) (L : List Nat) (x : Nat) (w : World) (h : HB w hb ho B v L) (hl : L.length < 1048576) (hB : B ≤ w.heap.size) :
    Calls Try.prog 58 #[.pointer (some ⟨hb, ho, none⟩), .iface 3 (.int .i64 x)] w fun e w' => e = .returned (.tuple #[]) ∧ ∃ b cap, HB w' hb ho B (.slice (some ⟨b, 0, none⟩) (L.length + 1) cap) (L ++ [x]) ∧ (v.ownBlock = some b ∨ w.heap.size ≤ b) ∧ Kept (fun c => c ≠ hb ∧ v.ownBlock ≠ some c) w w' ∧ Oth hb ho w w' := by
  obtain ⟨n, hn⟩ : ∃ n, n = L.length := ⟨_, rfl⟩
  rw [← hn] at hl ⊢
  have HN := hide hn
  have c0 := h.cell
  have lt := h.lt
  have c0a : ∀ o, (w.alloc o).drew.cell? ⟨hb, ho, none⟩ = some v := fun o => ((below_alloc1 w o).cell (p := ⟨hb, ho, none⟩) lt).trans c0
  have H := hide h
  have HR : Hid (∀ V, Kept (fun _ => True) w V → V.ownsRow B 3 1 v n (L.map iv) ∧ B ≤ V.heap.size) := fun V kV => ⟨by rw [hn]; exact h.row.kept kV (fun _ _ => trivial), Nat.le_trans hB kV.size⟩
  have hTA := run_ta (x : Int)
  have HM : Hid (n + 1 ≤ maxLen ∧ (n + 1) * 8 ≤ 140737488355328) := by unfold Hid maxLen; omega
  have HE : Hid (∀ (V : World) (b : Nat) (W6 : World), Kept (fun _ => True) w V → V.grownBy W6 v.ownBlock → (v.ownBlock = some b ∨ b = V.heap.size) → W6.cell? ⟨hb, ho, none⟩ = some v ∧ W6.frozen? ⟨hb, ho, none⟩ = false ∧ b ≠ hb ∧ w.heap.size ≤ W6.heap.size ∧ (v.ownBlock = some b ∨ w.heap.size ≤ b) ∧ Kept (fun c => v.ownBlock ≠ some c) w W6) := fun V b W6 kV hG hat => by
    have kG : Kept (fun c => v.ownBlock ≠ some c) w W6 := (kV.mono (fun _ _ _ => trivial)).trans (Kept.grown hG (fun k hk hn2 => hn2 hk))
    refine ⟨(kG.cell (p := ⟨hb, ho, none⟩) h.lt h.ne).trans h.cell, (kG.frozen (p := ⟨hb, ho, none⟩) h.lt h.ne).trans h.fr, ?_, kG.size, ?_, kG⟩
    · rcases hat with e | e
      · intro e2; exact h.ne (by rw [e, e2])
      · have := kV.size; have := h.lt; omega
    · rcases hat with e | e
      · exact .inl e
      · right; have := kV.size; omega
  clear h hn
  go_enter Try.func58, Try.ntmps58
  go_upto_region 0 with fail
  refine wp_region_held_drew (S := (fun _ => True)) (by kernel_rfl) trivial (fun hHeld => ?_)
  refine tn 0 ?_
  refine tn 1 ?_
  refine tn 2 ?_
  refine tn 3 ?_
  refine tn 5 ?_
  refine tn 6 ?_
  refine wpAnyH_ready (rs := [4, 7]) (by kernel_rfl) (by simp) ?_
  refine AllReadyH.cons rfl (fun K hK => ?_) (AllReadyH.cons rfl (fun K hK => ?_) AllReadyH.nil)
  · go_simp
    refine hK.out _ _ trivial (fun hHeld1 => ?_)
    clear hK K
    refine rk 7 (fun K hK => ?_)
    go_simp
    refine hK.out _ _ trivial (fun hHeld2 => ?_)
    clear hK K
    refine rk 8 (fun K hK => ?_)
    refine ur_draw (by rfl) _ _ 41 3 (by rfl) Try.info3 Try.underlying41 rfl (by decide) B _ v n (L.map iv) [.int .i64 (x : Int)] _ 1 (by rfl) (HR.out _ ((Kept.alloc _ _ _).dr)).1 (by rfl) (heap_new_dr _ _) (HR.out _ ((Kept.alloc _ _ _).dr)).2 rfl (by simp [Value.oneCell']) HM.out.1 HM.out.2 ?_
    intro b cap W6 hO6 hG6 hat6
    obtain ⟨e1, e2, e3, e4, e5, e6⟩ := HE.out _ b W6 ((Kept.alloc _ _ _).dr) hG6 hat6
    refine hK.out _ _ trivial (fun hHeld3 => ?_)
    clear hK K
    refine tn 9 ?_
    refine tn 10 ?_
    refine rk 11 (fun K hK => ?_)
    go_simp
    refine hK.out _ _ trivial (fun hHeld4 => ?_)
    clear hK K
    refine wpAnyH_done (by kernel_rfl) ?_ _
    go_wp2_with fail
    go_end0
    refine ⟨rfl, b, cap, ⟨by simpa using Nat.lt_of_lt_of_le lt e4, World.cell?_setCell_same _ _ _ e1, by rw [World.frozen?_setCell]; exact e2, ?_, fun e => e3 (by simpa [Value.ownBlock] using e), by have := HN.out; simp; omega⟩, e5, (e6.mono (fun c _ h => h.2)).trans (Kept.setCell _ _ _ _ (by simp)), fun j hj => ?_⟩
    · have h1 : JR B W6 (.slice (some ⟨b, 0, none⟩) (n + 1) cap) (L ++ [x]) := by
        unfold JR
        rw [List.map_append, List.length_append, ← HN.out]
        exact hO6
      exact h1.kept (Kept.setCell (fun c => c ≠ hb) _ _ _ (by simp)) (fun c hc => by
        have : b = c := by simpa [Value.ownBlock] using hc
        rw [← this]; exact e3)
    · rw [World.cell?_setCell_other _ _ _ _ (fun e => hj (by simpa using (congrArg Addr.off e).symm)), World.frozen?_setCell]
      exact ⟨e6.cell (p := ⟨hb, j, none⟩) lt H.out.ne, e6.frozen (p := ⟨hb, j, none⟩) lt H.out.ne⟩
  · go_simp
    refine hK.out _ _ trivial (fun hHeld1 => ?_)
    clear hK K
    refine rk 4 (fun K hK => ?_)
    go_simp
    refine hK.out _ _ trivial (fun hHeld2 => ?_)
    clear hK K
    refine rk 8 (fun K hK => ?_)
    refine ur_draw (by rfl) _ _ 41 3 (by rfl) Try.info3 Try.underlying41 rfl (by decide) B _ v n (L.map iv) [.int .i64 (x : Int)] _ 1 (by rfl) (HR.out _ ((Kept.alloc _ _ _).dr)).1 (by rfl) (heap_new_dr _ _) (HR.out _ ((Kept.alloc _ _ _).dr)).2 rfl (by simp [Value.oneCell']) HM.out.1 HM.out.2 ?_
    intro b cap W6 hO6 hG6 hat6
    obtain ⟨e1, e2, e3, e4, e5, e6⟩ := HE.out _ b W6 ((Kept.alloc _ _ _).dr) hG6 hat6
    refine hK.out _ _ trivial (fun hHeld3 => ?_)
    clear hK K
    refine tn 9 ?_
    refine tn 10 ?_
    refine rk 11 (fun K hK => ?_)
    go_simp
    refine hK.out _ _ trivial (fun hHeld4 => ?_)
    clear hK K
    refine wpAnyH_done (by kernel_rfl) ?_ _
    go_wp2_with fail
    go_end0
    refine ⟨rfl, b, cap, ⟨by simpa using Nat.lt_of_lt_of_le lt e4, World.cell?_setCell_same _ _ _ e1, by rw [World.frozen?_setCell]; exact e2, ?_, fun e => e3 (by simpa [Value.ownBlock] using e), by have := HN.out; simp; omega⟩, e5, (e6.mono (fun c _ h => h.2)).trans (Kept.setCell _ _ _ _ (by simp)), fun j hj => ?_⟩
    · have h1 : JR B W6 (.slice (some ⟨b, 0, none⟩) (n + 1) cap) (L ++ [x]) := by
        unfold JR
        rw [List.map_append, List.length_append, ← HN.out]
        exact hO6
      exact h1.kept (Kept.setCell (fun c => c ≠ hb) _ _ _ (by simp)) (fun c hc => by
        have : b = c := by simpa [Value.ownBlock] using hc
        rw [← this]; exact e3)
    · rw [World.cell?_setCell_other _ _ _ _ (fun e => hj (by simpa using (congrArg Addr.off e).symm)), World.frozen?_setCell]
      exact ⟨e6.cell (p := ⟨hb, j, none⟩) lt H.out.ne, e6.frozen (p := ⟨hb, j, none⟩) lt H.out.ne⟩
end Go.Proofs.Ytmnligaelihmiaa.He
