import Derived.Test.YtbgocfcnkhfejaaDraw2
import Derived.Test.YtbgocfcnkhfejaaRead5
namespace Go.Proofs.Ytbgocfcnkhfejaa
open Go.RowKit Go.Joins

/-- Two cells that may be written. -/
structure Bx (wx : World) (b : Nat) (x0 x1 : Value) : Prop where
  c0 : wx.cell? ⟨b, 0, none⟩ = some x0
  c1 : wx.cell? ⟨b, 1, none⟩ = some x1
  f0 : wx.frozen? ⟨b, 0, none⟩ = false
  f1 : wx.frozen? ⟨b, 1, none⟩ = false
  lt : b < wx.heap.size
theorem Bx.start (w : World) (x0 x1 : Value) (t : TypeId) : Bx (w.alloc (.cells #[x0, x1] t)) w.heap.size x0 x1 := ⟨by simp, by simp, by simp, by simp, by simp⟩
theorem Bx.dr {w w' b x0 x1 p} (h : Bx w b x0 x1) (hd : Dr p w w') (hb : b ≠ p) : Bx w' b x0 x1 :=
  ⟨(hd.cell h.lt hb).trans h.c0, (hd.cell h.lt hb).trans h.c1, (hd.frozen h.lt hb).trans h.f0, (hd.frozen h.lt hb).trans h.f1, by have := hd.size; have := h.lt; omega⟩
theorem Bx.keep {w w' b x0 x1} (h : Bx w b x0 x1) (hk : w'.heap[b]? = w.heap[b]?) (hz : w.heap.size ≤ w'.heap.size) : Bx w' b x0 x1 := by
  obtain ⟨c0, c1, f0, f1, lt⟩ := h
  refine ⟨?_, ?_, ?_, ?_, by omega⟩
  · rw [← c0]; simp only [World.cell?]; rw [hk]
  · rw [← c1]; simp only [World.cell?]; rw [hk]
  · rw [← f0]; simp only [World.frozen?]; rw [hk]
  · rw [← f1]; simp only [World.frozen?]; rw [hk]
theorem Bx.next {w w' b x0 x1} (h : Bx w b x0 x1) (hb : Below w.heap.size w w') : Bx w' b x0 x1 := h.keep (hb.block _ h.lt) hb.size

theorem Row.keepB {B w w' v n f} (h : Row B w v n f) (hk : ∀ b, B ≤ b → b < w.heap.size → w'.heap[b]? = w.heap[b]?) : Row B w' v n f := by
  obtain ⟨h1, h2⟩ := h
  rcases h2 with ⟨rfl, rfl⟩ | ⟨g, cap, cur, rfl, hb, hg, hn, hc, hs, ht⟩
  · exact ⟨h1, .inl ⟨rfl, rfl⟩⟩
  · have hl : g < w.heap.size := by
      apply Decidable.byContradiction
      intro hx
      rw [Array.getElem?_eq_none (by omega)] at hg
      cases hg
    exact ⟨h1, .inr ⟨g, cap, cur, rfl, hb, (hk g hb hl).trans hg, hn, hc, hs, ht⟩⟩

theorem Dr.below' {p w w1 w2} (h : Dr p w w1) (hb : Below w.heap.size w1 w2) (hp : p ≤ w.heap.size) : Dr p w w2 := ⟨h.bel.trans (hb.mono hp), fun b h1 h2 => (hb.block b h2).trans (h.up b h1 h2)⟩

theorem fault_trim (r : Bool) (f : Nat → Nat) (i : Nat) (hi : i ≤ 40) : faultB (r && decide (0 < trimN f i)) (trimN f i) f = false := by
  have h1 := trimN_le f i
  unfold faultB
  split
  · have : ¬ 0 < trimN f i := by omega
    simp [this]
  · have h2 := trimN_top f i (by omega)
    have h3 : ¬ 40 < trimN f i := by omega
    simp [h3, h2]

theorem or24 (a b : Nat) (ha : a < 256) (hb : b < 256) : ∃ X : Nat, bits BinOp.or IntKind.u32 (a : Int) ((b : Int) * 16777216) = (X : Int) ∧ X < 4294967296 := by
  refine ⟨b * 16777216 + a, ?_, by omega⟩
  have e : (b : Int) * 16777216 = ((b * 16777216 : Nat) : Int) := by omega
  rw [e, u32_or_nat _ _ (by omega) (by omega), Nat.or_comm]
  have := Nat.two_pow_add_eq_or_of_lt (i := 24) (b := a) (by omega) b
  rw [show 2 ^ 24 * b = b * 16777216 from by omega] at this
  rw [this]

set_option maxHeartbeats 2000000 in
set_option maxRecDepth 100000 in
theorem drawBig_any (p k t : Nat) (w : World) (hS : Src w p k t) (hk : k ≤ 2000000) (ht : t < 50000) :
    Calls Try.prog 89 #[.pointer (some ⟨p, 0, none⟩)] w fun e w' => ∃ (m : Bool) (v : Value) (n : Nat) (f : Nat → Nat) (t' : Nat), e = .returned (.agg #[.bool m, v]) ∧ Row w.heap.size w' v n f ∧ (∀ j, j < n → f j < 4294967296) ∧ faultB m n f = false ∧ Src w' p k t' ∧ t' ≤ t + 1000 ∧ Dr p w w' := by
  have hp := hS.lt
  have hS0 := hS.below (below_alloc1 w (.cells #[.bool false, .slice none 0 0] 25))
  have hd0 : Dr p w (w.alloc (.cells #[.bool false, .slice none 0 0] 25)) := Dr.below (below_alloc1 _ _) (by omega)
  have hx0 := Bx.start w (.bool false) (.slice none 0 0) 25
  go_enter Try.func89, Try.ntmps89
  go_wp2_with fail
  refine (next_any p k t 4 _ hS0 hk (by omega) (by decide) (by decide)).mono ?_
  rintro e w1 ⟨n0, hn0, rfl, hS1, ho1⟩
  have hd1 := hd0.trans (Dr.only ho1)
  have hx1 := hx0.dr (Dr.only ho1) (by omega)
  clear hS hS0 hd0 hx0 ho1
  go_wp2_with fail
  refine (chance_any p k (t + 1) 12 _ hS1 hk (by omega) (by decide) (by decide)).mono ?_
  rintro e w2 ⟨r2, rfl, hS2, ho2⟩
  have hd2 := hd1.trans (Dr.only ho2)
  have hx2 := hx1.dr (Dr.only ho2) (by omega)
  clear hS1 hd1 hx1 ho2
  go_upto_if 10 with fail
  go_cut [3] (fun s3 wx => ∃ N tt : Nat, N ≤ 40 ∧ s3 = .int .i64 N ∧ Src wx p k tt ∧ tt ≤ t + 3 ∧ Dr p w wx ∧ Bx wx w.heap.size (.bool false) (.slice none 0 0))
  case first =>
    cases r2
    · go_wp2_with fail
      go_meet
      case rel => exact ⟨n0, t + 2, by omega, rfl, hS2, by omega, hd2, hx2⟩
    · go_wp2_with fail
      refine (next_any p k (t + 2) 2 _ hS2 hk (by omega) (by decide) (by decide)).mono ?_
      rintro e w3 ⟨n3, hn3, rfl, hS3, ho3⟩
      go_wp2_with fail
      go_meet
      case rel => exact ⟨40 - n3, t + 3, by omega, by go_num, hS3, by omega, hd2.trans (Dr.only ho3), hx2.dr (Dr.only ho3) (by omega)⟩
  case rest =>
    obtain ⟨N, tt, hN, rfl, hS3, htt, hd3, hx3⟩ := hcut
    clear hS2 hd2 hx2
    go_wp2_with fail
    have hz3 := hd3.size
    have hl3 := hx3.lt
    go_loopw [4, 5, 6] (fun s4 s5 _ wr => ∃ (i tx : Nat) (f : Nat → Nat), i ≤ N ∧ s5 = .int .i64 i ∧ Row (w.heap.size + 1) wr s4 i f ∧ (∀ j, j < i → f j < 4294967296) ∧ Src wr p k tx ∧ tx ≤ t + 3 + 10 * i ∧ Dr p w wr ∧ Bx wr w.heap.size (.bool false) (.slice none 0 0)) (fun _ s5 _ _ => N - (intOf s5).toNat)
    case atStart =>
      exact ⟨0, tt, fun _ => 0, by omega, rfl, (Row.empty wc _).less (by omega), fun j hj => by omega, hS3.below (below_alloc1 _ _), by omega, hd3.trans (Dr.below (below_alloc1 _ _) (by omega)), hx3.next (below_alloc1 _ _)⟩
    case round =>
      obtain ⟨i, tx, f, hi, rfl, hrow, hf, hS4, htx, hd4, hx4⟩ := hrel
      clear hS3 hd3 hx3
      by_cases hlt : i < N
      · go_wp2_with fail
        refine (next_any p k tx 256 _ hS4 hk (by omega) (by decide) (by decide)).mono ?_
        rintro e w5 ⟨r5, hr5, rfl, hS5, ho5⟩
        have hd5 := hd4.trans (Dr.only ho5)
        have hx5 := hx4.dr (Dr.only ho5) (by omega)
        have hrow5 := hrow.dr (Dr.only ho5) (by omega)
        clear hS4 hd4 hx4 hrow ho5
        go_wp2_with fail
        refine (next_any p k (tx + 1) 256 _ hS5 hk (by omega) (by decide) (by decide)).mono ?_
        rintro e w6 ⟨r6, hr6, rfl, hS6, ho6⟩
        have hd6 := hd5.trans (Dr.only ho6)
        have hx6 := hx5.dr (Dr.only ho6) (by omega)
        have hrow6 := hrow5.dr (Dr.only ho6) (by omega)
        clear hS5 hd5 hx5 hrow5 ho6
        go_wp2_with fail
        refine (chance_any p k (tx + 1 + 1) 4 _ hS6 hk (by omega) (by decide) (by decide)).mono ?_
        rintro e w7 ⟨r7, rfl, hS7, ho7⟩
        have hd7 := hd6.trans (Dr.only ho7)
        have hx7 := hx6.dr (Dr.only ho7) (by omega)
        have hrow7 := hrow6.dr (Dr.only ho7) (by omega)
        clear hS6 hd6 hx6 hrow6 ho7
        obtain ⟨X, hX, hX1⟩ : ∃ X : Nat, bits BinOp.or IntKind.u32 (r5 : Int) ((r6 : Int) * 16777216) = (X : Int) ∧ X < 4294967296 := or24 r5 r6 hr5 hr6
        have hz7 := hd7.size
        have hl7 := hx7.lt
        cases r7
        · go_wp2_with (at_builtin; (with_reducible refine wpList_appendU (.tmp 35) (.tmp 37) (w.heap.size + 1) _ _ i 1 f (fun _ => X) (Row.alloc hrow7 _) (lim_one w7 X _ _ rfl hX1 rfl) (nilOk_some _ _ _) ?_ ?_ ?_ ?_ ?_ ?_ ?_); omega; (simp; omega); rfl; rfl; rfl; rfl; intro v' w' hr hb)
          have hb9 := ((below_alloc1 w7 _).mono (show w.heap.size + 1 ≤ _ by omega)).trans hb
          have hz9 := hb9.size
          go_roundw
          case rel => exact ⟨i + 1, tx + 1 + 1 + 1, fun j => if j < i then f j else X, by omega, by go_num, hr, fun j hj => by (dsimp only; split; exact hf j (by omega); exact hX1), hS7.up hb9 (by omega), by omega, hd7.below' (hb9.mono (by omega)) (by omega), hx7.keep (hb9.block _ (by omega)) hz9⟩
          case measure => simp [intOf]; omega
        · go_wp2_with fail
          refine (next_any p k (tx + 1 + 1 + 1) 4 _ (hS7.below (below_alloc1 _ _)) hk (by omega) (by decide) (by decide)).mono ?_
          rintro e w8 ⟨r8, hr8, rfl, hS8, ho8⟩
          have hd8 := (hd7.trans (Dr.below (below_alloc1 w7 _) (by omega))).trans (Dr.only ho8)
          have hx8 := (hx7.next (below_alloc1 w7 _)).dr (Dr.only ho8) (by omega)
          have hrow8 := (hrow7.alloc _).dr (Dr.only ho8) (by omega)
          have hz8 := hd8.size
          have hl8 := hx8.lt
          obtain ⟨Y, hY, hY1⟩ : ∃ Y : Nat, w8.cell? ⟨w7.heap.size, r8, none⟩ = some (.int .u32 Y) ∧ Y < 4294967296 := by
            rw [ho8.cell _ _ (by omega)]
            match r8, hr8 with
            | 0, _ => exact ⟨0, by simp, by decide⟩
            | 1, _ => exact ⟨1, by simp, by decide⟩
            | 2, _ => exact ⟨4294967295, by simp, by decide⟩
            | 3, _ => exact ⟨2147483648, by simp, by decide⟩
          clear hS7 hd7 hx7 hrow7 ho8 hX
          go_wp2_with (at_builtin; (with_reducible refine wpList_appendU (.tmp 35) (.tmp 37) (w.heap.size + 1) _ _ i 1 f (fun _ => Y) (Row.alloc hrow8 _) (lim_one w8 Y _ _ rfl hY1 rfl) (nilOk_some _ _ _) ?_ ?_ ?_ ?_ ?_ ?_ ?_); omega; (simp; omega); rfl; rfl; rfl; rfl; intro v' w' hr hb)
          have hb9 := ((below_alloc1 w8 _).mono (show w.heap.size + 1 ≤ _ by omega)).trans hb
          have hz9 := hb9.size
          go_roundw
          case rel => exact ⟨i + 1, tx + 1 + 1 + 1 + 1, fun j => if j < i then f j else Y, by omega, by go_num, hr, fun j hj => by (dsimp only; split; exact hf j (by omega); exact hY1), hS8.up hb9 (by omega), by omega, hd8.below' (hb9.mono (by omega)) (by omega), hx8.keep (hb9.block _ (by omega)) hz9⟩
          case measure => simp [intOf]; omega
      · have hiN : Hid (i = N) := by unfold Hid; omega
        have dl : decide ((i : Int) < (N : Int)) = false := by simp; omega
        go_wp2_with fail
        refine (chance_any p k tx 2 _ hS4 hk (by omega) (by decide) (by decide)).mono ?_
        rintro e w5 ⟨r5, rfl, hS5, ho5⟩
        have hd5 := hd4.trans (Dr.only ho5)
        have hx5 := hx4.dr (Dr.only ho5) (by omega)
        have hown := (hrow.dr (Dr.only ho5) (by omega)).own hf
        clear hS4 hd4 hx4 hrow ho5
        have hz5 := hd5.size
        have hl5 := hx5.lt
        go_wp2_with fail
        refine (trim_any hown.lim hown.nil (by omega)).mono ?_
        rintro e w6 ⟨v6, rfl, hrow6, hb6⟩
        have hfl : ∀ j, j < trimN f i → f j < 4294967296 := fun j hj => hf j (by have := trimN_le f i; omega)
        have hown6 := hrow6.own hfl
        obtain ⟨a6, c6, rfl, -⟩ := id hown6
        go_wp2_with fail
        refine (make_any r5 a6 _ c6 _).mono ?_
        rintro e w7 ⟨rfl, hb7⟩
        have hx7 := (hx5.next hb6).next hb7
        have hS7 := (hS5.below hb6).below hb7
        have hd7 := (hd5.trans (Dr.below hb6 (by omega))).trans (Dr.below hb7 (by have := hb6.size; omega))
        have y6 := hb6.size
        have y7 := hb7.size
        obtain ⟨c0, c1, f0, f1, lt⟩ := id hx7
        go_wp2_with fail
        have hbe : Below w.heap.size w7 ((w7.setCell ⟨w.heap.size, 0, none⟩ (.bool (r5 && decide (0 < trimN f i)))).setCell ⟨w.heap.size, 1, none⟩ (.slice a6 (trimN f i) c6)) := ((Below.refl _ _).setCell (by exact Nat.le_refl _) _).setCell (by exact Nat.le_refl _) _
        refine bodyPost_ret (v := .agg #[.bool (r5 && decide (0 < trimN f i)), .slice a6 (trimN f i) c6]) (by simp [results, Try.results89, go_sem, c0, c1]) rfl ⟨_, _, trimN f i, f, tx + 1, rfl, ?_, hfl, fault_trim r5 f i (by omega), ?_, by omega, ?_⟩
        · refine (hrow6.keepB fun b h1 h2 => ?_).less (by omega)
          rw [Below.heap_setCell _ _ _ _ (by show b ≠ w.heap.size; omega), Below.heap_setCell _ _ _ _ (by show b ≠ w.heap.size; omega)]
          exact hb7.block b h2
        · exact hS7.up hbe (by omega)
        · exact hd7.below' hbe (by omega)

end Go.Proofs.Ytbgocfcnkhfejaa
