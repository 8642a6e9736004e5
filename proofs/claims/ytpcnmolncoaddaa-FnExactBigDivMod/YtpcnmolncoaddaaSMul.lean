import Derived.Test.YtpcnmolncoaddaaProd
import Derived.Test.YtpcnmolncoaddaaSAdd
namespace Go.Proofs.Ytpcnmolncoaddaa
open Go.RowKit Go.Joins

theorem limb_q (v : Value) (n : Nat) (f : Nat → Nat) (i : Nat) (w : World) (q : Nat) (hL : Lim w v n f) (hn : n ≤ 1048576) :
    Calls Try.prog 72 #[v, .int .i64 i] (w.drewN q) fun e w'' => e = .returned (.int .u64 (ext n f i)) ∧ ∃ m, w'' = w.drewN m :=
  (limb_any v n f i (w.drewN q) hL hn).mono fun _ _ ⟨he, hm⟩ => ⟨he, q, hm.symm⟩

theorem Half.limb {w B n f} (h : Half w B n n f) (j : Nat) (hj : j < n) : w.cell? ⟨B, j, none⟩ = some (.int .u32 (f j)) := by
  obtain ⟨cs, h1, h2, h3⟩ := h
  rw [cell_of_block h1]; exact h3 j hj
theorem Half.setAt {w B n f} (h : Half w B n n f) (i x : Nat) (hi : i < n) : Half (w.setCell ⟨B, i, none⟩ (.int .u32 x)) B n n (upd f i x) := by
  obtain ⟨cs, h1, h2, h3⟩ := h
  refine ⟨_, block_setCell h1 _, by simp [h2], fun j hj => ?_⟩
  by_cases e : j = i
  · subst e; rw [Array.getElem?_setIfInBounds_self_of_lt (by rw [h2]; omega)]; simp [upd]
  · rw [Array.getElem?_setIfInBounds_ne (by omega)]; simp only [upd, if_neg e]; exact h3 j hj
theorem Half.eq {w B n f f'} (h : Half w B n n f) (he : ∀ i, i < n → f i = f' i) : Half w B n n f' := by
  obtain ⟨cs, h1, h2, h3⟩ := h
  exact ⟨cs, h1, h2, fun i hi => by rw [← he i hi]; exact h3 i hi⟩
theorem half_made (w : World) (n : Nat) : Half (w.alloc (.cells (madeCells #[.int .u32 0] n) 60)) w.heap.size n n (fun _ => 0) :=
  ⟨_, heap_alloc_new _ _, size_madeCells _ _, fun i hi => by simp [madeCells, hi, Nat.mod_one]⟩

/-- What the inner loop of l1Mul holds. -/
def MulSt (wy : World) (b N m i k : Nat) (F G P : Nat → Nat) (s7 : Value) : Prop :=
  (k ≤ m ∧ s7 = .int .u64 (mulC F G i P k) ∧ Half wy b N N (mulIn F G i P k)) ∨ (k = m + 1 ∧ s7 = .int .u64 0 ∧ Half wy b N N (mulRow F G m i P))

set_option maxHeartbeats 4000000 in
set_option maxRecDepth 100000 in
theorem sMul_pos (b0 off c : Nat) (v2 : Value) (n m : Nat) (f g : Nat → Nat) (w : World) (hp : 0 < n) (hL : Lim w (.slice (some ⟨b0, off, none⟩) n c) n f) (hc : ∀ i, i < n → w.cell? ⟨b0, off + i, none⟩ = some (.int .u32 (f i))) (hL' : Lim w v2 m g) (hn : n ≤ 1000) (hm : m ≤ 1000) :
    Calls Try.prog 82 #[.slice (some ⟨b0, off, none⟩) n c, v2] w fun e w' => ∃ v', e = .returned v' ∧ Row w.heap.size w' v' (trimN (mulP (ext n f) (ext m g) m n) (n + m)) (mulP (ext n f) (ext m g) m n) ∧ Below w.heap.size w w' := by
  have HF := fun i => extLt hL i
  have HG := fun i => extLt hL' i
  obtain ⟨a', c', rfl, -⟩ := id hL'
  have hmk := run_make_row' (P := Try.prog) 23 60 (.int .u32 0) 4 Try.underlying23 Try.info60 rfl .i64 .i64 (n + m + 1) (by omega) (by omega)
  have ec : (((n + m + 1 : Nat) : Nat) : Int) = (n : Int) + (m : Int) + 1 := by omega
  rw [ec] at hmk
  clear ec
  have HFh : Hid (∀ i, ext n f i < 4294967296) := HF
  have HGh : Hid (∀ i, ext m g i < 4294967296) := HG
  have hbl : b0 < w.heap.size := block_lt_of_cell (hc 0 hp)
  have hc2 : ∀ i, i < n → w.cell? ⟨b0, off + i, none⟩ = some (.int .u32 (ext n f i)) := fun i hi => by rw [hc i hi]; simp [ext, hi]
  have Hc : Hid (∀ i, i < n → w.cell? ⟨b0, off + i, none⟩ = some (.int .u32 (ext n f i))) := hc2
  clear HF HG hc hc2
  generalize ext n f = F at *
  go_enter Try.func82, Try.ntmps82
  go_wp2_with fail
  clear hmk
  go_loopw [6] (fun s6 wr => ∃ i : Nat, i ≤ n ∧ s6 = .int .i64 i ∧ Half wr w.heap.size (n + m + 1) (n + m + 1) (mulP F (ext m g) m i) ∧ Below w.heap.size w wr) (fun s6 _ => n - (intOf s6).toNat)
  case atStart => exact ⟨0, Nat.zero_le _, rfl, half_made w (n + m + 1), below_alloc1 _ _⟩
  case round =>
    obtain ⟨i, hi, rfl, hh, bel'⟩ := hrel
    have hP := mulP_lt HFh.out HGh.out m i
    by_cases hlt : i < n
    · go_wp2_with fail
      go_loopw [7, 8] (fun s7 s8 wy => ∃ k : Nat, s8 = .int .i64 k ∧ MulSt wy w.heap.size (n + m + 1) m i k F (ext m g) (mulP F (ext m g) m i) s7 ∧ Below w.heap.size w wy) (fun _ s8 _ => m + 1 - (intOf s8).toNat)
      case atStart => exact ⟨0, rfl, .inl ⟨Nat.zero_le _, rfl, by rw [mulIn_zero]; exact hh⟩, bel'⟩
      case round =>
        obtain ⟨k, rfl, hst, bel2⟩ := hrel
        clear hh bel'
        have g2 : wr.cell? ⟨b0, off + i, none⟩ = some (.int .u32 (F i)) := (bel2.cell (p := ⟨b0, off + i, none⟩) hbl).trans (Hc.out i hlt)
        have bF := HFh.out i
        rcases hst with ⟨hk, rfl, hs⟩ | ⟨rfl, rfl, hs⟩
        · have bC := mulC_lt HFh.out HGh.out i hP k
          have bP := hP (i + k)
          have bM := mul_bound (HFh.out i) (HGh.out k)
          have bG := HGh.out k
          have g1 := hs.limb (i + k) (by omega)
          rw [mulIn_at] at g1
          have g4 := hs.frozen (i + k)
          have z2 := bel2.size
          by_cases hlk : k < m
          · have ec : Hid (((F i : Int) * (ext m g k : Int) + ((mulP F (ext m g) m i) (i + k) : Int) + (mulC F (ext m g) i (mulP F (ext m g) m i) k : Int)) / 4294967296 = ((mulC F (ext m g) i (mulP F (ext m g) m i) (k + 1) : Nat) : Int)) := by
              show _ = (((mulC F (ext m g) i (mulP F (ext m g) m i) k + ((mulP F (ext m g) m i) (i + k) + F i * ext m g k)) / 4294967296 : Nat) : Int)
              rw [← Int.natCast_mul]; omega
            have ed : Hid (((F i : Int) * (ext m g k : Int) + ((mulP F (ext m g) m i) (i + k) : Int) + (mulC F (ext m g) i (mulP F (ext m g) m i) k : Int)) % 4294967296 = ((mulD F (ext m g) i (mulP F (ext m g) m i) k : Nat) : Int)) := by
              show _ = (((mulC F (ext m g) i (mulP F (ext m g) m i) k + ((mulP F (ext m g) m i) (i + k) + F i * ext m g k)) % 4294967296 : Nat) : Int)
              rw [← Int.natCast_mul]; omega
            clear hP
            go_wp2_with fail
            go_quiet ((go_at_call 72; exact limb_q _ m g k _ _ (hL'.below bel2) (by omega)))
            go_wp2_with fail
            go_roundw
            case rel =>
              refine ⟨k + 1, by go_num, .inl ⟨by omega, by rw [ec.out], ?_⟩, bel2.trans ((onlyd wr ⟨w.heap.size, i + k, none⟩ _ _).below (by exact Nat.le_refl _))⟩
              have := hs.setAt (i + k) (mulD F (ext m g) i (mulP F (ext m g) m i) k) (by omega)
              rw [mulIn_upd, ← ed.out] at this
              exact this
            case measure => simp [intOf]; omega
          · obtain rfl : m = k := by omega
            have hPz : (mulP F (ext m g) m i) (i + m) = 0 := mulP_zero F (ext m g) m i (i + m) (by omega) (by omega)
            have hGz : ext m g m = 0 := ext_ge m g m (Nat.le_refl _)
            have d1 : decide ((m : Int) < (m : Int)) = false := by simp
            by_cases hc0 : 0 < mulC F (ext m g) i (mulP F (ext m g) m i) m
            · have ec : Hid (((F i : Int) * (ext m g m : Int) + ((mulP F (ext m g) m i) (i + m) : Int) + (mulC F (ext m g) i (mulP F (ext m g) m i) m : Int)) / 4294967296 = 0) := by
                unfold Hid; rw [hPz, hGz]; first | (simp; done) | (simp; omega)
              have ed : Hid (((F i : Int) * (ext m g m : Int) + ((mulP F (ext m g) m i) (i + m) : Int) + (mulC F (ext m g) i (mulP F (ext m g) m i) m : Int)) % 4294967296 = ((mulC F (ext m g) i (mulP F (ext m g) m i) m : Nat) : Int)) := by
                unfold Hid; rw [hPz, hGz]; first | (simp; done) | (simp; omega)
              clear hP hPz hGz
              go_wp2_with fail
              go_quiet ((go_at_call 72; exact limb_q _ m g m _ _ (hL'.below bel2) (by omega)))
              go_wp2_with fail
              go_roundw
              case rel =>
                refine ⟨m + 1, by go_num, .inr ⟨rfl, by rw [ec.out], ?_⟩, bel2.trans ((onlyd wr ⟨w.heap.size, i + m, none⟩ _ _).below (by exact Nat.le_refl _))⟩
                have := hs.setAt (i + m) (mulC F (ext m g) i (mulP F (ext m g) m i) m) (by omega)
                rw [← ed.out] at this
                exact this
              case measure => simp [intOf]
            · have d2 : decide (0 < (mulC F (ext m g) i (mulP F (ext m g) m i) m : Int)) = false := by simp; omega
              have hs2 : Half wr w.heap.size (n + m + 1) (n + m + 1) (mulP F (ext m g) m (i + 1)) := hs.eq (fun x _ => by
                show _ = upd _ _ _ x
                unfold upd
                split
                · next h => subst h; rw [mulIn_at, hPz]; omega
                · rfl)
              clear hs g1 g4 hP hPz hGz
              go_wp2_with fail
              go_roundw
              case rel => exact ⟨i + 1, by omega, by go_num, hs2, bel2⟩
              case measure => simp [intOf]; omega
        · have hs2 : Half wr w.heap.size (n + m + 1) (n + m + 1) (mulP F (ext m g) m (i + 1)) := hs
          have d1 : decide ((m : Int) + 1 < (m : Int)) = false := decide_eq_false (by omega)
          clear hs hP
          go_wp2_with fail
          go_roundw
          case rel => exact ⟨i + 1, by omega, by go_num, hs2, bel2⟩
          case measure => simp [intOf]; omega
    · obtain rfl : n = i := by omega
      have z2 := bel'.size
      have ho := hh.own (B' := w.heap.size) rfl (Nat.le_refl _) (by unfold maxLen; omega) (fun i _ => hP i)
      have HT : Hid (trimN (mulP F (ext m g) m n) (n + m + 1) = trimN (mulP F (ext m g) m n) (n + m)) := by
        show (if mulP F (ext m g) m n (n + m) = 0 then _ else _) = _
        rw [if_pos (mulP_zero F (ext m g) m n (n + m) (by omega) (by omega))]
      clear hP hh
      go_wp2_with fail
      refine (trim_any ho.lim ho.nil (by omega)).mono ?_
      rintro e w2 ⟨v2, rfl, hr2, hb2⟩
      go_wp2_with fail
      go_ret
      exact ⟨v2, rfl, by rw [← HT.out]; exact hr2.less z2, bel'.trans (hb2.mono z2)⟩

end Go.Proofs.Ytpcnmolncoaddaa
