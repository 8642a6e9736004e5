import Derived.Test.YtplhjcohkjomgaaDoorAB
namespace Go.Proofs.YtplhjcohkjomgaaDoor
open Go.RowKit Go.Joins

theorem rl_add (q : Nat → Bool) (s : ByteArray) (a n : Nat) (h : a + n ≤ s.size) (hq : ∀ i, i < n → q (bt s (a + i)) = true) : rl q s a = n + rl q s (a + n) := by
  have h1 := rl_run q s (a + n) h
  have hr : Run q s a (n + rl q s (a + n)) := by
    refine ⟨by have := h1.le; omega, fun i hi => ?_, fun hx => ?_⟩
    · by_cases hn : i < n
      · exact hq i hn
      · have := h1.all (i - n) (by omega)
        rwa [show a + n + (i - n) = a + i by omega] at this
    · have := h1.stop (by omega)
      rwa [show a + n + rl q s (a + n) = a + (n + rl q s (a + n)) by omega] at this
  exact hr.rl.symm

theorem dropW_nil {α : Type} (q : α → Bool) : ∀ l : List α, l.dropWhile q = [] ↔ ∀ x ∈ l, q x = true
  | [] => by simp
  | x :: l => by
    rw [List.dropWhile_cons]
    split
    · rename_i h
      rw [dropW_nil q l]
      simp [h]
    · rename_i h
      constructor
      · intro e; cases e
      · intro e; exact absurd (e x (List.mem_cons_self)) h

theorem takeW_mem {α : Type} (q : α → Bool) : ∀ (l : List α) (x : α), x ∈ l.takeWhile q → q x = true
  | [], x, h => by simp at h
  | y :: l, x, h => by
    rw [List.takeWhile_cons] at h
    split at h
    · rename_i hy
      rcases List.mem_cons.1 h with rfl | h
      · exact hy
      · exact takeW_mem q l x h
    · cases h

theorem trim_nil (l : List UInt8) (c : UInt8) : (Lib.trimB l c).isEmpty = l.all (· == c) := by
  rw [Bool.eq_iff_iff]
  constructor
  · intro h
    rw [List.isEmpty_iff] at h
    unfold Lib.trimB Lib.trimLeftB Lib.trimRightB at h
    rw [List.all_eq_true]
    intro x hx
    rw [dropW_nil] at h
    by_cases hm : x ∈ (List.dropWhile (· == c) l.reverse).reverse
    · exact h x hm
    · have h2 : x ∈ l.reverse := List.mem_reverse.2 hx
      rw [← List.takeWhile_append_dropWhile (p := (· == c)) (l := l.reverse)] at h2
      rcases List.mem_append.1 h2 with h3 | h3
      · exact (takeW_mem (· == c) _ _ h3)
      · exact absurd (List.mem_reverse.2 h3) hm
  · intro h
    rw [List.all_eq_true] at h
    rw [List.isEmpty_iff]
    unfold Lib.trimB Lib.trimLeftB Lib.trimRightB
    rw [dropW_nil]
    intro x hx
    have h3 : x ∈ List.dropWhile (· == c) l.reverse := List.mem_reverse.1 hx
    exact h x (List.mem_reverse.1 ((List.dropWhile_sublist _).subset h3))

theorem all_dash (s : ByteArray) (p r : Nat) (h : p + r ≤ s.size) : ((s.extract p (p + r)).data.toList.all (· == 45)) = decide (r ≤ rl (fun c => c == 45) s p) := by
  have hz : (s.extract p (p + r)).size = r := by rw [ByteArray.size_extract]; omega
  have hlen : (s.extract p (p + r)).data.toList.length = r := by rw [Array.length_toList]; exact hz
  have hget : ∀ i (hi : i < (s.extract p (p + r)).data.toList.length), ((s.extract p (p + r)).data.toList[i]).toNat = bt s (p + i) := fun i hi => by
    rw [hlen] at hi
    rw [← bt_extract s p (p + r) i h (by omega)]
    unfold bt
    rw [dif_pos (by rw [hz]; exact hi)]
    rfl
  have hr := rl_run (fun c => c == 45) s p (by omega)
  rw [Bool.eq_iff_iff, List.all_eq_true, decide_eq_true_eq]
  constructor
  · intro hall
    apply Decidable.byContradiction
    intro hn
    have h1 := hr.stop (by omega)
    have h2 := hall _ (List.getElem_mem (show rl (fun c => c == 45) s p < _ by rw [hlen]; omega))
    have h3 := hget (rl (fun c => c == 45) s p) (by rw [hlen]; omega)
    rw [beq_iff_eq] at h2
    rw [h2] at h3
    simp at h1
    exact h1 (by rw [← h3]; rfl)
  · intro hle x hx
    obtain ⟨i, hi, rfl⟩ := List.getElem_of_mem hx
    have h3 := hget i hi
    have h4 := hr.all i (by rw [hlen] at hi; omega)
    simp at h4
    rw [h4] at h3
    rw [beq_iff_eq]
    exact UInt8.toNat_inj.1 h3

theorem dash_le (s : ByteArray) (p : Nat) (hp : p ≤ s.size) : rl (fun c => c == 45) s p ≤ rl sym s p := by
  have h1 := rl_run (fun c => c == 45) s p hp
  have h2 := rl_run sym s p hp
  apply Decidable.byContradiction
  intro hn
  have h3 := h1.all (rl sym s p) (by omega)
  have h4 := h2.stop (by have := h1.le; omega)
  simp at h3
  rw [h3] at h4
  revert h4
  decide

set_option maxHeartbeats 2000000 in
set_option maxRecDepth 100000 in
theorem iSymbols {s p b mb nx ln ls ao cp n T w} (h : At s p b mb nx ln ls ao cp n T w) (n1 : sml (bt s p) = false) (n2 : cap (bt s p) = false) (n3 : dig (bt s p) = false) (nq : ¬ (bt s p = 39 ∨ bt s p = 34)) (hy : sym (bt s p) = true) :
    Calls Tryd.prog 69 #[.pointer (some ⟨b, 0, none⟩), .int .i64 p, .int .i32 (bt s p)] w fun e w' => e = .returned (.tuple #[]) ∧ RG s p b mb ln ls T w w' := by
  obtain ⟨c0, c1, c2, c3, c4, c5, fr, lt⟩ := id h.sc
  have hp := h.lt
  have hp' : (p : Int) ≤ s.size := by omega
  have hsz := h.sz
  have hrun := (rl_run sym s p (by omega)).le
  have hpos := rl_pos hp hy
  have hbd := bd_run sym_low hp hy
  have hs1 : ¬ (bt s p = 32 ∨ bt s p = 10) := by intro hh; rcases hh with hh | hh <;> rw [hh] at hy <;> revert hy <;> decide
  have hs2 : two s p 123 45 = false := by
    rcases q : two s p 123 45 with _ | _
    · rfl
    · rw [(two_bt q).1] at hy; revert hy; decide
  have hR := fun w1 => iRun68 sym class68 high_sym (s.extract p s.size) w1
  rw [rl_ext sym s p (by omega)] at hR
  have hline := h.line
  have hdl := dash_le s p (by omega)
  have hTr := fun w1 => Tryd.strings_Trim_one (s.extract p (p + rl sym s p)) 45 (by decide) w1 (by rw [ByteArray.size_extract]; omega)
  have hTE : (⟨(Lib.trimB (s.extract p (p + rl sym s p)).data.toList 45).toArray⟩ : ByteArray).toList.isEmpty = decide (rl sym s p ≤ rl (fun c => c == 45) s p) := by
    rw [Lib.toList_data]
    show (Lib.trimB (s.extract p (p + rl sym s p)).data.toList 45).isEmpty = _
    rw [trim_nil, all_dash s p _ hrun]
  have hcell : ∀ w1, Below w.heap.size w w1 → w1.cell? ⟨b, 0, none⟩ = some (.string s) ∧ w1.cell? ⟨b, 2, none⟩ = some (.int .i64 nx) ∧ w1.frozen? ⟨b, 2, none⟩ = false := fun w1 b1 => ⟨(b1.cell (p := ⟨b, 0, none⟩) lt).trans c0, (b1.cell (p := ⟨b, 2, none⟩) lt).trans c2, (b1.frozen (p := ⟨b, 2, none⟩) lt).trans (fr 2)⟩
  have HC := hide hcell
  have HR := hide hR
  have HTr := hide hTr
  clear hcell hR hTr
  have hTr2 : ∀ w1, Calls Tryd.prog 85 #[.string (s.extract p (p + rl sym s p)), .string ⟨#[45]⟩] w1 fun e w' => (∃ tb : ByteArray, e = .returned (.string tb) ∧ tb.toList.isEmpty = decide (rl sym s p ≤ rl (fun c => c == 45) s p)) ∧ Below w1.heap.size w1 w' := fun w1 => by
    refine (HTr.out w1).mono ?_
    rintro e w2 ⟨rfl, hw2⟩
    refine ⟨⟨_, rfl, hTE⟩, ?_⟩
    rcases hw2 with rfl | rfl
    · exact Below.refl _ _
    · exact (Below.refl _ _).drew
  have HT2 := hide hTr2
  clear hTr2 HTr hTE
  rcases hD : dash s p with _ | _
  · have hst := blank_stop hp hs1 hs2 hD
    have htk : tok s p = .ok (if mark (s.extract p (p + rl sym s p)) = true then 9 else if bt s p = 58 then 4 else 3) (s.extract p (p + rl sym s p)) (rl sym s p) := by
      unfold tok
      rw [if_neg (by rw [n1, n2]; decide), if_neg (by rw [n3]; decide), if_neg nq, if_pos hy]
    have hwd : word (s.extract p (p + rl sym s p)) = false := by
      rcases q : word (s.extract p (p + rl sym s p)) with _ | _
      · rfl
      · have := word_sml q
        rw [bt_first s p _ (by omega) hrun, n1] at this
        cases this
    have hU := fun k w1 (b1 : Below w.heap.size w w1) => iUnless b s p (p + rl sym s p) mb nx ln ls (pc s p) ao cp n T k w1 (h.next b1).sc (h.next b1).tr (h.next b1).km (by have := h.tl; omega) (by omega) (by omega) hrun h.col (pc_pos s p) (by have := pc_le s p; omega)
    have hfin : ∀ k w1 w2, Below w.heap.size w w1 → k = (if bt s p = 58 then 4 else 3) → Added b s mb (p + rl sym s p) ln ls (n + 1) (T ++ [⟨if kk (s.extract p (p + rl sym s p)) = 0 then k else kk (s.extract p (p + rl sym s p)), s.extract p (p + rl sym s p), ln, pc s p⟩]) w1 w2 → RG s p b mb ln ls T w w2 := by
      intro k w1 w2 b1 hk hA
      obtain ⟨hA1, hA2⟩ := hA
      refine rg_tok (n := n + 1) hp hst htk hbd ⟨?_, (KB.of (Nat.le_of_lt lt) b1).trans hA2⟩
      have e : (if kk (s.extract p (p + rl sym s p)) = 0 then k else kk (s.extract p (p + rl sym s p))) = (if mark (s.extract p (p + rl sym s p)) = true then 9 else if bt s p = 58 then 4 else 3) := by
        unfold kk
        rw [hwd]
        rcases mark (s.extract p (p + rl sym s p)) with _ | _ <;> simp [hk]
      rw [e] at hA1
      obtain ⟨ao', cap', s1, t1⟩ := hA1
      exact ⟨ao', cap', s1, by rw [← hline]; exact t1⟩
    have hno : (decide (rl sym s p ≤ rl (fun c => c == 45) s p) && decide (1 < rl sym s p)) = false := by
      unfold dash at hD
      rcases Nat.lt_or_ge 1 (rl sym s p) with h1 | h1
      · rw [decide_eq_false (show ¬ rl sym s p ≤ rl (fun c => c == 45) s p from fun hle => by
          have e : rl (fun c => c == 45) s p = rl sym s p := by omega
          rw [e] at hD
          simp at hD
          omega)]
        rfl
      · rw [decide_eq_false (show ¬ 1 < rl sym s p by omega), Bool.and_false]
    have HU := hide hU
    have HF := hide hfin
    clear hU hfin htk hbd hst hwd hD hdl
    generalize decide (rl sym s p ≤ rl (fun c => c == 45) s p) = D at *
    generalize rl sym s p = r at *
    obtain ⟨j, hj⟩ : ∃ j, j = p + r := ⟨_, rfl⟩
    rw [← hj] at HU HF HT2
    have hsum : (p : Int) + (r : Int) = (j : Int) := by omega
    have hdif : (j : Int) - (p : Int) = (r : Int) := by omega
    have hjs : (j : Int) ≤ s.size := by omega
    have hpj : (p : Int) ≤ j := by omega
    have hwr : IntKind.i64.wrap (j : Int) = (j : Int) := by simp [IntKind.wrap, IntKind.bits, IntKind.signed]; omega
    have hwr2 : IntKind.i64.wrap (r : Int) = (r : Int) := by simp [IntKind.wrap, IntKind.bits, IntKind.signed]; omega
    clear hj
    rcases (show ¬ bt s p = 58 ∨ bt s p = 58 by omega) with h58 | h58
    · have z58 : ((bt s p : Int) == 58) = false := by simp; omega
      cases D
      · go_enter Tryd.func69, Tryd.ntmps69
        go_wp2_with fail
        refine (HR.out w).mono ?_
        rintro e w1 ⟨rfl, b1⟩
        obtain ⟨d0, d2, f2⟩ := HC.out w1 b1
        go_wp2_with fail
        refine (HT2.out w1).mono ?_
        rintro e w2 ⟨⟨tb, rfl, htb⟩, b2⟩
        have b12 := b1.trans (b2.mono b1.size)
        go_wp2_with fail
        refine (HU.out 3 w2 b12).mono ?_
        rintro e w3 ⟨rfl, h3⟩
        go_wp2_with fail
        go_end0
        exact ⟨rfl, HF.out 3 w2 w3 b12 (by rw [if_neg h58]) h3⟩
      · have y1 : decide (1 < (r : Int)) = false := by simp at hno; simp; omega
        go_enter Tryd.func69, Tryd.ntmps69
        go_wp2_with fail
        refine (HR.out w).mono ?_
        rintro e w1 ⟨rfl, b1⟩
        obtain ⟨d0, d2, f2⟩ := HC.out w1 b1
        go_wp2_with fail
        refine (HT2.out w1).mono ?_
        rintro e w2 ⟨⟨tb, rfl, htb⟩, b2⟩
        have b12 := b1.trans (b2.mono b1.size)
        go_wp2_with fail
        refine (HU.out 3 w2 b12).mono ?_
        rintro e w3 ⟨rfl, h3⟩
        go_wp2_with fail
        go_end0
        exact ⟨rfl, HF.out 3 w2 w3 b12 (by rw [if_neg h58]) h3⟩
    · have z58 : ((bt s p : Int) == 58) = true := by simp; omega
      cases D
      · go_enter Tryd.func69, Tryd.ntmps69
        go_wp2_with fail
        refine (HR.out w).mono ?_
        rintro e w1 ⟨rfl, b1⟩
        obtain ⟨d0, d2, f2⟩ := HC.out w1 b1
        go_wp2_with fail
        refine (HT2.out w1).mono ?_
        rintro e w2 ⟨⟨tb, rfl, htb⟩, b2⟩
        have b12 := b1.trans (b2.mono b1.size)
        go_wp2_with fail
        refine (HU.out 4 w2 b12).mono ?_
        rintro e w3 ⟨rfl, h3⟩
        go_wp2_with fail
        go_end0
        exact ⟨rfl, HF.out 4 w2 w3 b12 (by rw [if_pos h58]) h3⟩
      · have y1 : decide (1 < (r : Int)) = false := by simp at hno; simp; omega
        go_enter Tryd.func69, Tryd.ntmps69
        go_wp2_with fail
        refine (HR.out w).mono ?_
        rintro e w1 ⟨rfl, b1⟩
        obtain ⟨d0, d2, f2⟩ := HC.out w1 b1
        go_wp2_with fail
        refine (HT2.out w1).mono ?_
        rintro e w2 ⟨⟨tb, rfl, htb⟩, b2⟩
        have b12 := b1.trans (b2.mono b1.size)
        go_wp2_with fail
        refine (HU.out 4 w2 b12).mono ?_
        rintro e w3 ⟨rfl, h3⟩
        go_wp2_with fail
        go_end0
        exact ⟨rfl, HF.out 4 w2 w3 b12 (by rw [if_pos h58]) h3⟩
  · have hlx := lex_dash hp hs1 hs2 hD
    have hdp := dash_pos (by omega) hD
    have hD2 := hD
    unfold dash at hD2
    simp only [Bool.and_eq_true, decide_eq_true_eq] at hD2
    obtain ⟨hd2, hde⟩ := hD2
    rw [hde] at hd2
    have hDt : decide (rl sym s p ≤ rl (fun c => c == 45) s p) = true := decide_eq_true (by omega)
    have heol : eol s p = rl sym s p + rl (fun c => c != 10) s (p + rl sym s p) := rl_add _ s p _ hrun (fun i hi => by
      have := (rl_run sym s p (by omega)).all i hi
      rcases q : (bt s (p + i) != 10) with _ | _
      · simp at q
        rw [q] at this
        revert this
        decide
      · rfl)
    have hbd2 : Bd s (p + eol s p) := by
      have hrr := rl_run (fun c => c != 10) s p (by omega)
      rcases Nat.lt_or_ge (p + eol s p) s.size with hlt | hge
      · have := hrr.stop hlt
        simp at this
        exact .inr (.inl (by unfold eol; omega))
      · exact .inl (by omega)
    have hR2 := fun w1 => iRun86 (fun c => c != 10) class86 high_line (s.extract (p + rl sym s p) s.size) w1
    rw [rl_ext (fun c => c != 10) s (p + rl sym s p) hrun] at hR2
    have hfin : ∀ w1, Below w.heap.size w w1 → RG s p b mb ln ls T w (w1.setCell ⟨b, 2, none⟩ (.int .i64 ((p + eol s p : Nat) : Int))) := fun w1 b1 => by
      have g := h.next b1
      refine ⟨p + eol s p, [], ao, cp, n, by omega, hbd2, by simp, ?_, g.sc.set2 _, ?_, (KB.of (Nat.le_of_lt lt) b1).only (Only.setCell _ ⟨b, 2, none⟩ _)⟩
      · have e : max (p + eol s p) (p + 1) = p + eol s p := by omega
        rw [e, ← hlx]
        simp
      · rw [List.append_nil]
        exact g.tr.only (Only.setCell _ ⟨b, 2, none⟩ _) (Nat.lt_succ_self b)
    have HF := hide hfin
    have HR2 := hide hR2
    rw [hDt] at HT2
    rw [heol] at HF
    have hsz2 : p + (rl sym s p + rl (fun c => c != 10) s (p + rl sym s p)) ≤ s.size := by rw [← heol]; exact hdp.2
    clear hfin hR2 hlx hdp hbd2 heol hDt hde hD hbd hdl
    generalize rl (fun c => c != 10) s (p + rl sym s p) = q at *
    generalize rl sym s p = r at *
    obtain ⟨j, hj⟩ : ∃ j, j = p + r := ⟨_, rfl⟩
    obtain ⟨j2, hj2⟩ : ∃ j2, j2 = p + (r + q) := ⟨_, rfl⟩
    rw [← hj] at HT2 HR2
    rw [← hj2] at HF
    have hsum : (p : Int) + (r : Int) = (j : Int) := by omega
    have hsum2 : (j : Int) + (q : Int) = (j2 : Int) := by omega
    have hdif : (j : Int) - (p : Int) = (r : Int) := by omega
    have hjs : (j : Int) ≤ s.size := by omega
    have hpj : (p : Int) ≤ j := by omega
    have hwr : IntKind.i64.wrap (j : Int) = (j : Int) := by simp [IntKind.wrap, IntKind.bits, IntKind.signed]; omega
    have hwr3 : IntKind.i64.wrap (j2 : Int) = (j2 : Int) := by simp [IntKind.wrap, IntKind.bits, IntKind.signed]; omega
    have hwr2 : IntKind.i64.wrap (r : Int) = (r : Int) := by simp [IntKind.wrap, IntKind.bits, IntKind.signed]; omega
    have y1 : decide (1 < (r : Int)) = true := by simp; omega
    clear hj hj2
    go_enter Tryd.func69, Tryd.ntmps69
    go_wp2_with fail
    refine (HR.out w).mono ?_
    rintro e w1 ⟨rfl, b1⟩
    obtain ⟨d0, d2, f2⟩ := HC.out w1 b1
    go_wp2_with fail
    refine (HT2.out w1).mono ?_
    rintro e w2 ⟨⟨tb, rfl, htb⟩, b2⟩
    have b12 := b1.trans (b2.mono b1.size)
    clear d0 d2 f2
    obtain ⟨d0, d2, f2⟩ := HC.out w2 b12
    go_wp2_with fail
    refine (HR2.out w2).mono ?_
    rintro e w3 ⟨rfl, b3⟩
    have b13 := b12.trans (b3.mono b12.size)
    clear d0 d2 f2
    obtain ⟨d0, d2, f2⟩ := HC.out w3 b13
    go_wp2_with fail
    go_end0
    exact ⟨rfl, HF.out w3 b13⟩

end Go.Proofs.YtplhjcohkjomgaaDoor
