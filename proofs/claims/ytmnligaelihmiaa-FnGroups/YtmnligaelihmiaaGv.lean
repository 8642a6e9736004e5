import Derived.Test.YtmnligaelihmiaaGs
namespace Go.Proofs.Ytmnligaelihmiaa
open Go.RowKit Go.Joins
/-- The grouping while the groups' members are counted. -/
structure N2 (e : List (List Int)) (n0 : Nat) (ea : Option Addr) (ec GB OB NB : Nat) (tg of : Nat → Nat) (m : Nat) (gv : Value) (rv : Nat → Value) (L : Nat → List Nat) (j : Nat) (lv : Value) (W : World) : Prop where
  bx : Bx W GB [.slice ea e.length ec, gv, .slice (some ⟨OB, 0, none⟩) e.length e.length, .slice (some ⟨NB, 0, none⟩) e.length e.length, lv, .slice none 0 0, .slice none 0 0, .slice none 0 0]
  em : EM e n0 ea W
  sz : n0 ≤ W.heap.size
  ofs : FR W OB e.length of
  nxs : FR W NB e.length (fun _ => 0)
  out : OR W gv m rv
  row : ∀ g, g < m → IR2 W (rv g) (L g)
  lrow : IR 0 W lv ((List.range j).map (fun g => (L g).length))
  t0 : ∀ c, c < n0 → tg c = 0
  tGB : tg GB = 1
  tOB : tg OB = 2
  tNB : tg NB = 3
  tgv : ∀ c, gv.ownBlock = some c → tg c = 13
  trv : ∀ g, g < m → ∀ c, (rv g).ownBlock = some c → tg c = 20 + g
  tlv : ∀ c, lv.ownBlock = some c → tg c = 4
  lts : OB < W.heap.size ∧ NB < W.heap.size
variable {e : List (List Int)} {n0 : Nat} {ea : Option Addr} {ec GB OB NB MB VB : Nat} {tg com of nb : Nat → Nat} {m : Nat} {gv lv : Value} {rv : Nat → Value} {L : Nat → List Nat} {W W' : World}
theorem NG.count (h : NG e n0 ea ec GB OB NB MB VB tg com of nb m gv rv L W) : N2 e n0 ea ec GB OB NB tg of m gv rv L 0 (.slice none 0 0) W :=
  ⟨h.bx, h.em, h.sz, h.ofs, h.nxs, h.out, h.row, IR.nil _ _, h.t0, h.tGB, h.tOB, h.tNB, h.tgv, h.trv, fun c hc => by simp [Value.ownBlock] at hc, h.lts.1, h.lts.2.1⟩
theorem N2.tag {j : Nat} (h : N2 e n0 ea ec GB OB NB tg of m gv rv L j lv W) {tg' : Nat → Nat} (ht : ∀ c, c < W.heap.size → tg' c = tg c) : N2 e n0 ea ec GB OB NB tg' of m gv rv L j lv W :=
  ⟨h.bx, h.em, h.sz, h.ofs, h.nxs, h.out, h.row, h.lrow, fun c hc => by rw [ht c (Nat.lt_of_lt_of_le hc h.sz)]; exact h.t0 c hc, by rw [ht _ h.bx.lt]; exact h.tGB, by rw [ht _ h.lts.1]; exact h.tOB, by rw [ht _ h.lts.2]; exact h.tNB, fun c hc => by rw [ht c (h.out.lt c hc)]; exact h.tgv c hc, fun g hg c hc => by rw [ht c ((h.row g hg).lt c hc)]; exact h.trv g hg c hc, fun c hc => by rw [ht c (h.lrow.lt c hc).2]; exact h.tlv c hc, h.lts⟩
theorem N2.push {j : Nat} (h : N2 e n0 ea ec GB OB NB tg of m gv rv L j lv W) {V W4 : World} (kV : Kept (fun _ => True) W V) {b cap : Nat} (hG : V.grownBy W4 lv.ownBlock) (hO : W4.ownsRow 0 3 1 (.slice (some ⟨b, 0, none⟩) (j + 1) cap) (j + 1) (((List.range j).map (fun g => (L g).length)).map iv ++ [iv (L j).length])) (hat : lv.ownBlock = some b ∨ b = V.heap.size) :
    N2 e n0 ea ec GB OB NB (mark tg b 4) of m gv rv L (j + 1) (.slice (some ⟨b, 0, none⟩) (j + 1) cap) (W4.setCell ⟨GB, 4, none⟩ (.slice (some ⟨b, 0, none⟩) (j + 1) cap)) ∧ Kept (fun c => tg c ≠ 1 ∧ tg c ≠ 4) W (W4.setCell ⟨GB, 4, none⟩ (.slice (some ⟨b, 0, none⟩) (j + 1) cap)) ∧ W4.cell? ⟨GB, 4, none⟩ = some lv ∧ W4.frozen? ⟨GB, 4, none⟩ = false := by
  have ht : ∀ c, c < W.heap.size → mark tg b 4 c = tg c := fun c hc => by
    by_cases e1 : c = b
    · subst e1
      rw [mark_same]
      rcases hat with e2 | e2
      · exact (h.tlv c e2).symm
      · have := kV.size; omega
    · exact mark_other e1
  have k4 : Kept (fun c => lv.ownBlock ≠ some c) W W4 := (kV.mono (fun _ _ _ => trivial)).trans (Kept.grown hG (fun k hk hn => hn hk))
  have k5 : Kept (fun c => lv.ownBlock ≠ some c ∧ c ≠ GB) W (W4.setCell ⟨GB, 4, none⟩ (.slice (some ⟨b, 0, none⟩) (j + 1) cap)) := (k4.mono (fun c _ h => h.1)).trans (Kept.setCell _ _ _ _ (by simp))
  have kt : Kept (fun c => tg c ≠ 1 ∧ tg c ≠ 4) W (W4.setCell ⟨GB, 4, none⟩ (.slice (some ⟨b, 0, none⟩) (j + 1) cap)) := k5.mono (fun c _ hc => ⟨fun e1 => by have := h.tlv c e1; omega, fun e1 => hc.1 (by rw [e1]; exact h.tGB)⟩)
  have hbG : b ≠ GB := fun e1 => by
    rcases hat with e2 | e2
    · have h1 := h.tlv b e2; have h2 := h.tGB; rw [e1] at h1; omega
    · have := h.bx.lt; have := kV.size; omega
  have hGn : lv.ownBlock ≠ some GB := fun e1 => by have := h.tlv GB e1; have := h.tGB; omega
  have h' := h.tag ht
  have k : Kept (fun c => mark tg b 4 c ≠ 1 ∧ mark tg b 4 c ≠ 4) W (W4.setCell ⟨GB, 4, none⟩ (.slice (some ⟨b, 0, none⟩) (j + 1) cap)) := kt.mono (fun c hc hcc => by rw [← ht c hc]; exact hcc)
  have hb4 := (h.bx.kept k4 hGn).put 4 (.slice (some ⟨b, 0, none⟩) (j + 1) cap) (by simp)
  refine ⟨⟨hb4, h'.em.kept k (fun c hc => by rw [h'.t0 c hc]; omega) h.sz, Nat.le_trans h.sz k.size, h'.ofs.kept k (by rw [h'.tOB]; omega), h'.nxs.kept k (by rw [h'.tNB]; omega), h'.out.kept k (fun c hc => by rw [h'.tgv c hc]; omega), fun g hg => (h'.row g hg).kept k (fun c hc => by rw [h'.trv g hg c hc]; omega), ?_, h'.t0, h'.tGB, h'.tOB, h'.tNB, h'.tgv, h'.trv, fun c hc => ?_, ⟨Nat.lt_of_lt_of_le h.lts.1 k.size, Nat.lt_of_lt_of_le h.lts.2 k.size⟩⟩, kt, (k4.cell (p := ⟨GB, 4, none⟩) h.bx.lt hGn).trans (h.bx.cel 4 _ rfl), (k4.frozen (p := ⟨GB, 4, none⟩) h.bx.lt hGn).trans (h.bx.live 4)⟩
  · have h1 : IR 0 W4 (.slice (some ⟨b, 0, none⟩) (j + 1) cap) ((List.range (j + 1)).map (fun g => (L g).length)) := by
      unfold IR
      rw [List.range_succ, List.map_append, List.map_append, List.length_append, List.length_map, List.length_range]
      exact hO
    exact h1.kept (Kept.setCell (fun c => c ≠ GB) _ _ _ (by simp)) (fun c hc => by
      have : b = c := by simpa [Value.ownBlock] using hc
      rw [← this]; exact hbG)
  · have : b = c := by simpa [Value.ownBlock] using hc
    rw [← this, mark_same]
theorem Try.info26 : (Try.prog.info? 26).map (fun i => (i.zero, i.size, i.bytes)) = some (some (.slice none 0 0), 1, 24) := by kernel_rfl
theorem Try.info4 : (Try.prog.info? 4).map (fun i => (i.zero, i.size, i.bytes)) = some (some (.bool false), 1, 1) := by kernel_rfl
theorem run_make_rows (n : Nat) (hn : n ≤ 1048576) (w : World) :
    (Instr.makeSlice 40 (.int .i64 (n : Int)) (.int .i64 (n : Int))).run Try.prog w = .ok (.slice (some ⟨w.heap.size, 0, none⟩) n n) (w.alloc (.cells (madeCells #[.slice none 0 0] (n * 1)) 26)) := by
  obtain ⟨i, hi, hzz⟩ := Option.map_eq_some_iff.1 Try.info26
  simp only [Prod.mk.injEq] at hzz
  obtain ⟨hz, hs, hb⟩ := hzz
  have hr := run_make (P := Try.prog) w 40 26 i _ Try.underlying40 hi hz .i64 .i64 n n (by omega) (Int.le_refl _) (by rw [hb]; omega) (by omega)
  simp only [Int.toNat_natCast, hs] at hr
  exact hr
theorem run_make_bools (n : Nat) (hn : n ≤ 1048576) (w : World) :
    (Instr.makeSlice 28 (.int .i64 (n : Int)) (.int .i64 (n : Int))).run Try.prog w = .ok (.slice (some ⟨w.heap.size, 0, none⟩) n n) (w.alloc (.cells (madeCells #[.bool false] (n * 1)) 4)) := by
  obtain ⟨i, hi, hzz⟩ := Option.map_eq_some_iff.1 Try.info4
  simp only [Prod.mk.injEq] at hzz
  obtain ⟨hz, hs, hb⟩ := hzz
  have hr := run_make (P := Try.prog) w 28 4 i _ Try.underlying28 hi hz .i64 .i64 n n (by omega) (Int.le_refl _) (by rw [hb]; omega) (by omega)
  simp only [Int.toNat_natCast, hs] at hr
  exact hr
theorem FB.made {W : World} {b n : Nat} {t : TypeId} (h : W.heap[b]? = some (.cells (madeCells #[.bool false] n) t)) : FB W b n (fun _ => false) := fun i hi => by
  refine ⟨?_, by simp [World.frozen?, h]⟩
  simp [World.cell?, h, madeCells, hi, Nat.mod_one]
theorem WR.made {tg : Nat → Nat} {W : World} {b n : Nat} {t : TypeId} (h : W.heap[b]? = some (.cells (madeCells #[.slice none 0 0] n) t)) : WR tg W b n (fun _ => .slice none 0 0) (fun _ => []) := ⟨fun i hi => by
  refine ⟨?_, by simp [World.frozen?, h]⟩
  simp [World.cell?, h, madeCells, hi, Nat.mod_one], fun _ _ => IR.nil _ _, fun _ _ c hc => by simp [Value.ownBlock] at hc⟩
theorem IR2.shape {w : World} {v : Value} {L : List Nat} (h : IR2 w v L) (h0 : L ≠ []) : ∃ b cap, v = .slice (some ⟨b, 0, none⟩) L.length cap ∧ L.length ≤ cap ∧ cap ≤ maxLen ∧ b < w.heap.size ∧ ∀ j, j < L.length → w.cell? ⟨b, j, none⟩ = some (iv (L.getD j 0)) := by
  have hh : w.ownsRow 0 2 1 v L.length (L.map iv) := h
  rcases hh.2 with ⟨rfl, h1⟩ | ⟨b, cap, cur, rfl, hb, hg, hnc, hcm, -⟩
  · exact absurd (List.eq_nil_of_length_eq_zero h1) h0
  · refine ⟨b, cap, rfl, hnc, hcm, (Array.getElem?_eq_some_iff.1 hg).1, fun j hj => ?_⟩
    rw [World.ownsRow.cellAt hh j (by omega)]
    simp [hj]
end Go.Proofs.Ytmnligaelihmiaa
