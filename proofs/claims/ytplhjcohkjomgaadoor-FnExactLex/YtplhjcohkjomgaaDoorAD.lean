import Derived.Test.YtplhjcohkjomgaaDoorAB
namespace Go.Proofs.YtplhjcohkjomgaaDoor
open Go.RowKit Go.Joins

theorem prefix_two (s : ByteArray) (i : Nat) (x y : UInt8) (hi : i ≤ s.size) : Lib.hasPrefix (s.extract i s.size).data.toList [x, y] = two s i x.toNat y.toNat := by
  have hz : (s.extract i s.size).data.toList.length = s.size - i := by
    rw [Array.length_toList]
    show (s.extract i s.size).size = _
    rw [ByteArray.size_extract]; omega
  have e0 := bt_ext s i 0 hi
  have e1 := bt_ext s i 1 hi
  rw [bt_data] at e0 e1
  rw [Nat.add_zero] at e0
  unfold two
  rw [← e0, ← e1]
  have hsz : decide (i + 2 ≤ s.size) = decide (2 ≤ (s.extract i s.size).data.toList.length) := by rw [hz]; exact decide_eq_decide.2 (by omega)
  rw [hsz]
  generalize (s.extract i s.size).data.toList = L
  unfold Lib.hasPrefix
  match L with
  | [] => simp
  | [u] => simp [List.isPrefixOf]
  | u :: v :: L =>
    rw [Bool.eq_iff_iff]
    simp [List.isPrefixOf]
    constructor
    · rintro ⟨rfl, rfl⟩; exact ⟨rfl, rfl⟩
    · rintro ⟨h1, h2⟩; exact ⟨(UInt8.toNat_inj.1 h1).symm, (UInt8.toNat_inj.1 h2).symm⟩

theorem nest_skip {s : ByteArray} {i d : Nat} (hi : i < s.size) (h1 : two s i 123 45 = false) (h2 : two s i 45 125 = false) : nest s i d = nest s (i + 1) d := by
  rw [nest, if_neg (by omega), if_neg (by rw [h1]; decide), if_neg (by rw [h2]; decide)]

theorem two_high {s : ByteArray} {i x y : Nat} (h : 128 ≤ bt s i) (hx : x < 128) : two s i x y = false := by
  rcases q : two s i x y with _ | _
  · rfl
  · have := (two_bt q).1; omega

theorem nest_run {s : ByteArray} {i d : Nat} : ∀ k, i + k ≤ s.size → (∀ j, j < k → 128 ≤ bt s (i + j)) → nest s i d = nest s (i + k) d
  | 0, _, _ => rfl
  | k + 1, h, hj => by
    rw [nest_run k (by omega) (fun j hjk => hj j (by omega))]
    exact nest_skip (by omega) (two_high (hj k (by omega)) (by omega)) (two_high (hj k (by omega)) (by omega))

set_option maxHeartbeats 2000000 in
set_option maxRecDepth 100000 in
theorem iNested {s p b mb nx ln ls ao cp n T w} (h : At s p b mb nx ln ls ao cp n T w) (h2 : two s p 123 45 = true) :
    Calls Tryd.prog 71 #[.pointer (some ⟨b, 0, none⟩), .int .i64 p] w (RP s p b mb ln ls T w) := by
  obtain ⟨c0, c1, c2, c3, c4, c5, fr, lt⟩ := id h.sc
  have hp := h.lt
  have hp' : (p : Int) ≤ s.size := by omega
  have hsz := h.sz
  have hz : (s.extract p s.size).size = s.size - p := by rw [ByteArray.size_extract]; omega
  have hcell : ∀ w1, Below w.heap.size w w1 → w1.cell? ⟨b, 0, none⟩ = some (.string s) ∧ w1.cell? ⟨b, 2, none⟩ = some (.int .i64 nx) ∧ w1.frozen? ⟨b, 2, none⟩ = false := fun w1 b1 => ⟨(b1.cell (p := ⟨b, 0, none⟩) lt).trans c0, (b1.cell (p := ⟨b, 2, none⟩) lt).trans c2, (b1.frozen (p := ⟨b, 2, none⟩) lt).trans (fr 2)⟩
  have HC := hide hcell
  have hbu : ∀ i, bt (s.extract p s.size) i = bt s (p + i) := fun i => bt_ext s p i (by omega)
  have HBU := hide hbu
  have hgood : ∀ w1 j, Below w.heap.size w w1 → nest s p 0 = some j → bt s (j - 1) < 128 → RP s p b mb ln ls T w (.returned (.int .i64 0)) (w1.setCell ⟨b, 2, none⟩ (.int .i64 (j : Int))) := fun w1 j b1 hj hb => by
    have g := h.next b1
    have hgt := nest_gt _ _ _ hj
    refine .inr ⟨rfl, j, [], ao, cp, n, hgt.2, .inr (.inr ⟨by omega, hb⟩), by simp, ?_, g.sc.set2 _, ?_, (KB.of (Nat.le_of_lt lt) b1).only (Only.setCell _ ⟨b, 2, none⟩ _)⟩
    · have e : max j (p + 1) = j := by omega
      rw [e, lex_nest hp h2 hj]
      simp
    · rw [List.append_nil]
      exact g.tr.only (Only.setCell _ ⟨b, 2, none⟩ _) (Nat.lt_succ_self b)
  have HG := hide hgood
  have hbad : ∀ w1, Below w.heap.size w w1 → nest s p 0 = none → RP s p b mb ln ls T w (.returned (.int .i64 2)) w1 := fun w1 b1 hn => .inl ⟨2, rfl, h.same b1 (by decide) (lex_open hp h2 hn)⟩
  have HBad := hide hbad
  clear hcell hgood hbad hbu
  have H2 := hide h2
  go_enter Tryd.func71, Tryd.ntmps71
  go_wp2_with fail
  go_loopw [5, 6, 7, 8] (fun s5 s6 _ _ wr => ∃ (pos d nt : Nat), s5 = .int .i64 d ∧ s6 = .int .i64 nt ∧ pos ≤ s.size - p ∧ d ≤ pos ∧ nt ≤ s.size ∧ (p + pos < nt → p + pos + 1 = nt ∧ bt s (p + pos) < 128) ∧ (pos = 0 ∧ d = 0 ∧ nt = p ∨ 0 < d) ∧ Hid (nest s (max (p + pos) nt) d = nest s p 0) ∧ wr.heap[w.heap.size]? = some (.stringIter (s.extract p s.size) pos) ∧ Below w.heap.size w wr) (fun _ _ _ _ wr => s.size - wr.iterPos w.heap.size)
  case atStart => exact ⟨0, 0, p, rfl, rfl, Nat.zero_le _, Nat.le_refl _, by omega, by omega, .inl ⟨rfl, rfl, rfl⟩, by unfold Hid; simp, heap_new w _, below_alloc1 _ _⟩
  case round =>
    obtain ⟨pos, d, nt, rfl, rfl, g1, g2, g3, g4, g5, hN, hit, hb⟩ := hrel
    obtain ⟨d0, d2, f2⟩ := HC.out wr hb
    by_cases hlt : pos < s.size - p
    · have hlt' : pos < (s.extract p s.size).size := by rw [hz]; exact hlt
      have hnx : ∀ ty, (Instr.next (.pointer (some ⟨w.heap.size, 0, none⟩)) true ty).run Tryd.prog wr = _ := fun ty => Lib.run_next_any_at wr w.heap.size (s.extract p s.size) pos ty hit hlt'
      have hD : 1 ≤ (Utf8.decode (s.extract p s.size) pos).2 ∧ pos + (Utf8.decode (s.extract p s.size) pos).2 ≤ s.size - p ∧ (bt s (p + pos) < 128 → (Utf8.decode (s.extract p s.size) pos).2 = 1) ∧ (128 ≤ bt s (p + pos) → ∀ j, j < (Utf8.decode (s.extract p s.size) pos).2 → 128 ≤ bt s (p + pos + j)) := by
        have e := HBU.out pos
        by_cases hl : bt s (p + pos) < 128
        · rw [dec_low hlt' (by rw [e]; exact hl)]
          exact ⟨Nat.le_refl _, by simp only; omega, fun _ => rfl, fun hh => by omega⟩
        · obtain ⟨h1, h2, h3, h4, h5⟩ := dec_high hlt' (by rw [e]; omega)
          refine ⟨h3, by rw [hz] at h4; exact h4, fun hh => by omega, fun _ j hj => ?_⟩
          rcases Nat.eq_zero_or_pos j with rfl | h0
          · rw [Nat.add_zero]; omega
          · have := h5 j h0 hj
            rwa [HBU.out, ← Nat.add_assoc] at this
      obtain ⟨w1, w2, w3, w4⟩ := hD
      generalize (Utf8.decode (s.extract p s.size) pos).1 = cc at *
      generalize (Utf8.decode (s.extract p s.size) pos).2 = wd at *
      have hit2 := Lib.iterAt_heap wr w.heap.size (s.extract p s.size) pos (pos + wd) hit
      have hb2 := Lib.below_iterAt hb (k := w.heap.size) (Nat.le_refl _) (s.extract p s.size) (pos + wd)
      clear d0 d2 f2
      obtain ⟨d0, d2, f2⟩ := HC.out _ hb2
      obtain ⟨q, hq⟩ : ∃ q, q = p + pos := ⟨_, rfl⟩
      rw [← hq] at g4 hN w3 w4
      have hsum : (p : Int) + (pos : Int) = (q : Int) := by omega
      have hwq : IntKind.i64.wrap (q : Int) = (q : Int) := by simp [IntKind.wrap, IntKind.bits, IntKind.signed]; omega
      have hqs : (q : Int) ≤ s.size := by omega
      have HQ := hide hq
      have HP1 : Hid (∀ w1, Calls Tryd.prog 70 #[.string (s.extract q s.size), .string ⟨#[123, 45]⟩] w1 fun e w' => e = .returned (.bool (two s q 123 45)) ∧ w' = w1) := fun w1 => by
        refine (Tryd.strings_HasPrefix _ _ _).mono ?_
        rintro e w2 ⟨rfl, rfl⟩
        exact ⟨ret_b (prefix_two s q 123 45 (by omega)), rfl⟩
      have HP2 : Hid (∀ w1, Calls Tryd.prog 70 #[.string (s.extract q s.size), .string ⟨#[45, 125]⟩] w1 fun e w' => e = .returned (.bool (two s q 45 125)) ∧ w' = w1) := fun w1 => by
        refine (Tryd.strings_HasPrefix _ _ _).mono ?_
        rintro e w2 ⟨rfl, rfl⟩
        exact ⟨ret_b (prefix_two s q 45 125 (by omega)), rfl⟩
      clear hq
      have hmeas : s.size - World.iterPos (wr.iterAt w.heap.size (s.extract p s.size) (pos + wd)) w.heap.size < s.size - World.iterPos wr w.heap.size := by
        simp only [World.iterPos, hit2, hit]
        omega
      have HM := hide hmeas
      clear hmeas
      by_cases hc : q < nt
      · have hc' : (q : Int) < nt := by omega
        obtain ⟨g6, g7⟩ := g4 hc
        have hwd := hide (w3 g7)
        clear w3 w4 g7 g4
        go_wp2_with fail
        go_roundw
        case rel =>
          have := HQ.out
          have hwd := hwd.out
          refine ⟨pos + wd, d, nt, rfl, rfl, w2, by omega, g3, by omega, by omega, ?_, hit2, hb2⟩
          have e1 : max (p + (pos + wd)) nt = max q nt := by omega
          unfold Hid
          rw [e1]
          exact hN.out
        case measure => exact HM.out
      · have hc' : ¬ (q : Int) < nt := by omega
        have hmx : max q nt = q := by omega
        rw [hmx] at hN
        rcases q1 : two s q 123 45 with _ | _
        · rcases q2 : two s q 45 125 with _ | _
          · have hdp : 0 < d := by
              rcases g5 with ⟨e1, e2, e3⟩ | g5
              · have := HQ.out
                have h2 := H2.out
                rw [show p = q by omega, q1] at h2
                cases h2
              · exact g5
            have z1 : ((d : Int) == 0) = false := by simp; omega
            have hN2 : Hid (nest s (q + wd) d = nest s p 0) := by
              have e0 := HQ.out
              unfold Hid
              rw [← hN.out]
              by_cases hl : bt s q < 128
              · rw [w3 hl, nest_skip (by omega) q1 q2]
              · exact (nest_run wd (by omega) (w4 (by omega))).symm
            go_wp2_with fail
            refine (HP1.out _).mono ?_
            rintro e w5 ⟨rfl, hw5⟩
            obtain rfl := hw5.symm
            rw [q1]
            go_wp2_with fail
            refine (HP2.out _).mono ?_
            rintro e w5 ⟨rfl, hw5⟩
            obtain rfl := hw5.symm
            rw [q2]
            go_wp2_with fail
            go_roundw
            case rel =>
              have := HQ.out
              refine ⟨pos + wd, d, nt, rfl, rfl, w2, by omega, g3, by omega, .inr hdp, ?_, hit2, hb2⟩
              have e1 : max (p + (pos + wd)) nt = q + wd := by omega
              unfold Hid
              rw [e1]
              exact hN2.out
            case measure => exact HM.out
          · have hdp : 0 < d := by
              rcases g5 with ⟨e1, e2, e3⟩ | g5
              · have := HQ.out
                have h2 := H2.out
                rw [show p = q by omega, q1] at h2
                cases h2
              · exact g5
            have h22 := two_le q2
            have hb45 := two_bt q2
            have hwd := hide (w3 (by omega))
            obtain ⟨q3, hq3⟩ : ∃ q3, q3 = q + 2 := ⟨_, rfl⟩
            have hs3 : (q : Int) + 2 = (q3 : Int) := by omega
            have hw3 : IntKind.i64.wrap (q3 : Int) = (q3 : Int) := by simp [IntKind.wrap, IntKind.bits, IntKind.signed]; omega
            have HQ3 := hide hq3
            have HB45 := hide hb45
            by_cases hd1 : d = 1
            · have hn : nest s p 0 = some q3 := by
                rw [← hN.out, nest, if_neg (by omega), if_neg (by rw [q1]; decide), if_pos q2, if_pos hd1, hq3]
              have HN := hide hn
              have z0 : (d : Int) - 1 = 0 := by omega
              clear hn hN hq3 hb45 hd1
              go_wp2_with fail
              refine (HP1.out _).mono ?_
              rintro e w5 ⟨rfl, hw5⟩
              obtain rfl := hw5.symm
              rw [q1]
              go_wp2_with fail
              refine (HP2.out _).mono ?_
              rintro e w5 ⟨rfl, hw5⟩
              obtain rfl := hw5.symm
              rw [q2]
              go_wp2_with fail
              go_ret
              refine HG.out _ q3 hb2 HN.out ?_
              have := HQ3.out
              rw [show q3 - 1 = q + 1 by omega, HB45.out.2]
              decide
            · have hN2 : Hid (nest s (q + 2) (d - 1) = nest s p 0) := by
                unfold Hid
                rw [← hN.out]
                conv => rhs; rw [nest, if_neg (by omega), if_neg (by rw [q1]; decide), if_pos q2, if_neg hd1]
              obtain ⟨d', hd'⟩ : ∃ d', d' = d - 1 := ⟨_, rfl⟩
              have z0 : (d : Int) - 1 = (d' : Int) := by omega
              have z1 : ((d' : Int) == 0) = false := by simp; omega
              have hdp' : 0 < d' := by omega
              have hdle : d' ≤ pos := by omega
              rw [← hd'] at hN2
              clear hN hq3 hb45 hd1 hd'
              go_wp2_with fail
              refine (HP1.out _).mono ?_
              rintro e w5 ⟨rfl, hw5⟩
              obtain rfl := hw5.symm
              rw [q1]
              go_wp2_with fail
              refine (HP2.out _).mono ?_
              rintro e w5 ⟨rfl, hw5⟩
              obtain rfl := hw5.symm
              rw [q2]
              go_wp2_with fail
              go_roundw
              case rel =>
                have e0 := HQ.out
                have e3 := HQ3.out
                have e4 := hwd.out
                refine ⟨pos + wd, d', q3, rfl, rfl, w2, by omega, by omega, fun _ => ⟨by omega, ?_⟩, .inr hdp', ?_, hit2, hb2⟩
                · rw [show p + (pos + wd) = q + 1 by omega, HB45.out.2]; decide
                · have e1 : max (p + (pos + wd)) q3 = q + 2 := by omega
                  unfold Hid
                  rw [e1]
                  exact hN2.out
              case measure => exact HM.out
        · have h22 := two_le q1
          have hb45 := two_bt q1
          have hwd := hide (w3 (by omega))
          obtain ⟨q3, hq3⟩ : ∃ q3, q3 = q + 2 := ⟨_, rfl⟩
          have hs3 : (q : Int) + 2 = (q3 : Int) := by omega
          have hw3 : IntKind.i64.wrap (q3 : Int) = (q3 : Int) := by simp [IntKind.wrap, IntKind.bits, IntKind.signed]; omega
          have HQ3 := hide hq3
          have HB45 := hide hb45
          have hN2 : Hid (nest s (q + 2) (d + 1) = nest s p 0) := by
            unfold Hid
            rw [← hN.out]
            conv => rhs; rw [nest, if_neg (by omega), if_pos q1]
          obtain ⟨d', hd'⟩ : ∃ d', d' = d + 1 := ⟨_, rfl⟩
          have z0 : (d : Int) + 1 = (d' : Int) := by omega
          have z1 : ((d' : Int) == 0) = false := by simp; omega
          have hwd' : IntKind.i64.wrap (d' : Int) = (d' : Int) := by simp [IntKind.wrap, IntKind.bits, IntKind.signed]; omega
          have hdp' : 0 < d' := by omega
          have hdle : d' ≤ pos + 1 := by omega
          rw [← hd'] at hN2
          clear hN hq3 hb45 hd'
          go_wp2_with fail
          refine (HP1.out _).mono ?_
          rintro e w5 ⟨rfl, hw5⟩
          obtain rfl := hw5.symm
          rw [q1]
          go_wp2_with fail
          go_roundw
          case rel =>
            have e0 := HQ.out
            have e3 := HQ3.out
            have e4 := hwd.out
            refine ⟨pos + wd, d', q3, rfl, rfl, w2, by omega, by omega, fun _ => ⟨by omega, ?_⟩, .inr hdp', ?_, hit2, hb2⟩
            · rw [show p + (pos + wd) = q + 1 by omega, HB45.out.2]; decide
            · have e1 : max (p + (pos + wd)) q3 = q + 2 := by omega
              unfold Hid
              rw [e1]
              exact hN2.out
          case measure => exact HM.out
    · have hnx : ∀ ty, (Instr.next (.pointer (some ⟨w.heap.size, 0, none⟩)) true ty).run Tryd.prog wr = _ := fun ty => Lib.run_next_end_at wr w.heap.size (s.extract p s.size) pos ty hit (by rw [hz]; omega)
      have hnone : nest s p 0 = none := by
        rw [← hN.out, nest, if_pos (by omega)]
      clear hN
      go_wp2_with fail
      go_ret
      exact HBad.out wr hb hnone

end Go.Proofs.YtplhjcohkjomgaaDoor
