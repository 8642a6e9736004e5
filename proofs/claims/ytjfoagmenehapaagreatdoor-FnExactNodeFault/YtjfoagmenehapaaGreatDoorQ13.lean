import Derived.Test.YtjfoagmenehapaaGreatDoorQ12
import Derived.Deep.RegionHeld3
namespace Go.Proofs.YtjfoagmenehapaaGreatDoor
open Go.RowKit Go.Joins

theorem rl_add (q : Nat → Bool) (s : ByteArray) (a n : Nat) (h : a + n ≤ s.size) (hq : ∀ i, i < n → q (bt s (a + i)) = true) : rl q s a = n + rl q s (a + n) := by
  have h1 := rl_run q s (a + n) h
  have hr : Run q s a (n + rl q s (a + n)) := by
    refine ⟨by have := h1.le; omega, fun i hi => ?_, fun hx => ?_⟩
    · by_cases hn : i < n
      · exact hq i hn
      · have := h1.all (i - n) (by omega)
        rwa [show a + n + (i - n) = a + i by omega] at this
    · have := h1.stop (by omega)
      rwa [show a + n + rl q s (a + n) = a + (n + rl q s (a + n)) by omega] at this
  exact hr.rl.symm

theorem dropW_nil {α : Type} (q : α → Bool) : ∀ l : List α, l.dropWhile q = [] ↔ ∀ x ∈ l, q x = true
  | [] => by simp
  | x :: l => by
    rw [List.dropWhile_cons]
    split
    · rename_i h
      rw [dropW_nil q l]
      simp [h]
    · rename_i h
      constructor
      · intro e; cases e
      · intro e; exact absurd (e x (List.mem_cons_self)) h

theorem takeW_mem {α : Type} (q : α → Bool) : ∀ (l : List α) (x : α), x ∈ l.takeWhile q → q x = true
  | [], x, h => by simp at h
  | y :: l, x, h => by
    rw [List.takeWhile_cons] at h
    split at h
    · rename_i hy
      rcases List.mem_cons.1 h with rfl | h
      · exact hy
      · exact takeW_mem q l x h
    · cases h

theorem trim_nil (l : List UInt8) (c : UInt8) : (Lib.trimB l c).isEmpty = l.all (· == c) := by
  rw [Bool.eq_iff_iff]
  constructor
  · intro h
    rw [List.isEmpty_iff] at h
    unfold Lib.trimB Lib.trimLeftB Lib.trimRightB at h
    rw [List.all_eq_true]
    intro x hx
    rw [dropW_nil] at h
    by_cases hm : x ∈ (List.dropWhile (· == c) l.reverse).reverse
    · exact h x hm
    · have h2 : x ∈ l.reverse := List.mem_reverse.2 hx
      rw [← List.takeWhile_append_dropWhile (p := (· == c)) (l := l.reverse)] at h2
      rcases List.mem_append.1 h2 with h3 | h3
      · exact (takeW_mem (· == c) _ _ h3)
      · exact absurd (List.mem_reverse.2 h3) hm
  · intro h
    rw [List.all_eq_true] at h
    rw [List.isEmpty_iff]
    unfold Lib.trimB Lib.trimLeftB Lib.trimRightB
    rw [dropW_nil]
    intro x hx
    have h3 : x ∈ List.dropWhile (· == c) l.reverse := List.mem_reverse.1 hx
    exact h x (List.mem_reverse.1 ((List.dropWhile_sublist _).subset h3))

theorem all_dash (s : ByteArray) (p r : Nat) (h : p + r ≤ s.size) : ((s.extract p (p + r)).data.toList.all (· == 45)) = decide (r ≤ rl (fun c => c == 45) s p) := by
  have hz : (s.extract p (p + r)).size = r := by rw [ByteArray.size_extract]; omega
  have hlen : (s.extract p (p + r)).data.toList.length = r := by rw [Array.length_toList]; exact hz
  have hget : ∀ i (hi : i < (s.extract p (p + r)).data.toList.length), ((s.extract p (p + r)).data.toList[i]).toNat = bt s (p + i) := fun i hi => by
    rw [hlen] at hi
    rw [← bt_extract s p (p + r) i h (by omega)]
    unfold bt
    rw [dif_pos (by rw [hz]; exact hi)]
    rfl
  have hr := rl_run (fun c => c == 45) s p (by omega)
  rw [Bool.eq_iff_iff, List.all_eq_true, decide_eq_true_eq]
  constructor
  · intro hall
    apply Decidable.byContradiction
    intro hn
    have h1 := hr.stop (by omega)
    have h2 := hall _ (List.getElem_mem (show rl (fun c => c == 45) s p < _ by rw [hlen]; omega))
    have h3 := hget (rl (fun c => c == 45) s p) (by rw [hlen]; omega)
    rw [beq_iff_eq] at h2
    rw [h2] at h3
    simp at h1
    exact h1 (by rw [← h3]; rfl)
  · intro hle x hx
    obtain ⟨i, hi, rfl⟩ := List.getElem_of_mem hx
    have h3 := hget i hi
    have h4 := hr.all i (by rw [hlen] at hi; omega)
    simp at h4
    rw [h4] at h3
    rw [beq_iff_eq]
    exact UInt8.toNat_inj.1 h3

theorem dash_le (s : ByteArray) (p : Nat) (hp : p ≤ s.size) : rl (fun c => c == 45) s p ≤ rl sym s p := by
  have h1 := rl_run (fun c => c == 45) s p hp
  have h2 := rl_run sym s p hp
  apply Decidable.byContradiction
  intro hn
  have h3 := h1.all (rl sym s p) (by omega)
  have h4 := h2.stop (by have := h1.le; omega)
  simp at h3
  rw [h3] at h4
  revert h4
  decide

set_option maxHeartbeats 2000000 in
set_option maxRecDepth 100000 in
theorem iSymbols {s p b mb nx ln ls ao cp n T w} (h : At s p b mb nx ln ls ao cp n T w) (n1 : sml (bt s p) = false) (n2 : cap (bt s p) = false) (n3 : dig (bt s p) = false) (nq : ¬ (bt s p = 39 ∨ bt s p = 34)) (hy : sym (bt s p) = true) :
    Calls Tryz.prog 117 #[.pointer (some ⟨b, 0, none⟩), .int .i64 p, .int .i32 (bt s p)] w fun e w' => e = .returned (.tuple #[]) ∧ RG s p b mb ln ls T w w' := by
  obtain ⟨c0, c1, c2, c3, c4, c5, fr, lt⟩ := id h.sc
  have hp := h.lt
  have hp' : (p : Int) ≤ s.size := by omega
  have hsz := h.sz
  have hrun := (rl_run sym s p (by omega)).le
  have hpos := rl_pos hp hy
  have hbd := bd_run sym_low hp hy
  have hs1 : ¬ (bt s p = 32 ∨ bt s p = 10) := by intro hh; rcases hh with hh | hh <;> rw [hh] at hy <;> revert hy <;> decide
  have hs2 : two s p 123 45 = false := by
    rcases q : two s p 123 45 with _ | _
    · rfl
    · rw [(two_bt q).1] at hy; revert hy; decide
  have hR := fun w1 => iRun68 sym class68 high_sym (s.extract p s.size) w1
  rw [rl_ext sym s p (by omega)] at hR
  have hline := h.line
  have hdl := dash_le s p (by omega)
  have hTr := fun w1 => Tryz.strings_Trim_one (s.extract p (p + rl sym s p)) 45 (by decide) w1 (by rw [ByteArray.size_extract]; omega)
  have hTE : (⟨(Lib.trimB (s.extract p (p + rl sym s p)).data.toList 45).toArray⟩ : ByteArray).toList.isEmpty = decide (rl sym s p ≤ rl (fun c => c == 45) s p) := by
    rw [Lib.toList_data]
    show (Lib.trimB (s.extract p (p + rl sym s p)).data.toList 45).isEmpty = _
    rw [trim_nil, all_dash s p _ hrun]
  have hcell : ∀ w1, Below w.heap.size w w1 → w1.cell? ⟨b, 0, none⟩ = some (.string s) ∧ w1.cell? ⟨b, 2, none⟩ = some (.int .i64 nx) ∧ w1.frozen? ⟨b, 2, none⟩ = false := fun w1 b1 => ⟨(b1.cell (p := ⟨b, 0, none⟩) lt).trans c0, (b1.cell (p := ⟨b, 2, none⟩) lt).trans c2, (b1.frozen (p := ⟨b, 2, none⟩) lt).trans (fr 2)⟩
  have HC := hide hcell
  have HR := hide hR
  have HTr := hide hTr
  clear hcell hR hTr
  have hTr2 : ∀ w1, Calls Tryz.prog 147 #[.string (s.extract p (p + rl sym s p)), .string ⟨#[45]⟩] w1 fun e w' => (∃ tb : ByteArray, e = .returned (.string tb) ∧ tb.toList.isEmpty = decide (rl sym s p ≤ rl (fun c => c == 45) s p)) ∧ Below w1.heap.size w1 w' := fun w1 => by
    refine (HTr.out w1).mono ?_
    rintro e w2 ⟨rfl, hw2⟩
    refine ⟨⟨_, rfl, hTE⟩, ?_⟩
    rcases hw2 with rfl | rfl
    · exact Below.refl _ _
    · exact (Below.refl _ _).drew
  have HT2 := hide hTr2
  clear hTr2 HTr hTE
  rcases hD : dash s p with _ | _
  · have hst := blank_stop hp hs1 hs2 hD
    have htk : tok s p = .ok (if mark (s.extract p (p + rl sym s p)) = true then 9 else if bt s p = 58 then 4 else 3) (s.extract p (p + rl sym s p)) (rl sym s p) := by
      unfold tok
      rw [if_neg (by rw [n1, n2]; decide), if_neg (by rw [n3]; decide), if_neg nq, if_pos hy]
    have hwd : word (s.extract p (p + rl sym s p)) = false := by
      rcases q : word (s.extract p (p + rl sym s p)) with _ | _
      · rfl
      · have := word_sml q
        rw [bt_first s p _ (by omega) hrun, n1] at this
        cases this
    have hU := fun k w1 (b1 : Below w.heap.size w w1) => iUnless b s p (p + rl sym s p) mb nx ln ls (pc s p) ao cp n T k w1 (h.next b1).sc (h.next b1).tr (h.next b1).km (by have := h.tl; omega) (by omega) (by omega) hrun h.col (pc_pos s p) (by have := pc_le s p; omega)
    have hfin : ∀ k w1 w2, Below w.heap.size w w1 → k = (if bt s p = 58 then 4 else 3) → Added b s mb (p + rl sym s p) ln ls (n + 1) (T ++ [⟨if kk (s.extract p (p + rl sym s p)) = 0 then k else kk (s.extract p (p + rl sym s p)), s.extract p (p + rl sym s p), ln, pc s p⟩]) w1 w2 → RG s p b mb ln ls T w w2 := by
      intro k w1 w2 b1 hk hA
      obtain ⟨hA1, hA2⟩ := hA
      refine rg_tok (n := n + 1) hp hst htk hbd ⟨?_, (KB.of (Nat.le_of_lt lt) b1).trans hA2⟩
      have e : (if kk (s.extract p (p + rl sym s p)) = 0 then k else kk (s.extract p (p + rl sym s p))) = (if mark (s.extract p (p + rl sym s p)) = true then 9 else if bt s p = 58 then 4 else 3) := by
        unfold kk
        rw [hwd]
        rcases mark (s.extract p (p + rl sym s p)) with _ | _ <;> simp [hk]
      rw [e] at hA1
      obtain ⟨ao', cap', s1, t1⟩ := hA1
      exact ⟨ao', cap', s1, by rw [← hline]; exact t1⟩
    have hno : (decide (rl sym s p ≤ rl (fun c => c == 45) s p) && decide (1 < rl sym s p)) = false := by
      unfold dash at hD
      rcases Nat.lt_or_ge 1 (rl sym s p) with h1 | h1
      · rw [decide_eq_false (show ¬ rl sym s p ≤ rl (fun c => c == 45) s p from fun hle => by
          have e : rl (fun c => c == 45) s p = rl sym s p := by omega
          rw [e] at hD
          simp at hD
          omega)]
        rfl
      · rw [decide_eq_false (show ¬ 1 < rl sym s p by omega), Bool.and_false]
    have HU := hide hU
    have HF := hide hfin
    clear hU hfin htk hbd hst hwd hD hdl
    generalize decide (rl sym s p ≤ rl (fun c => c == 45) s p) = D at *
    generalize rl sym s p = r at *
    obtain ⟨j, hj⟩ : ∃ j, j = p + r := ⟨_, rfl⟩
    rw [← hj] at HU HF HT2
    have hsum : (p : Int) + (r : Int) = (j : Int) := by omega
    have hdif : (j : Int) - (p : Int) = (r : Int) := by omega
    have hjs : (j : Int) ≤ s.size := by omega
    have hpj : (p : Int) ≤ j := by omega
    have hwr : IntKind.i64.wrap (j : Int) = (j : Int) := by simp [IntKind.wrap, IntKind.bits, IntKind.signed]; omega
    have hwr2 : IntKind.i64.wrap (r : Int) = (r : Int) := by simp [IntKind.wrap, IntKind.bits, IntKind.signed]; omega
    clear hj
    rcases (show ¬ bt s p = 58 ∨ bt s p = 58 by omega) with h58 | h58
    · have z58 : ((bt s p : Int) == 58) = false := by simp; omega
      cases D
      · go_enter Tryz.func117, Tryz.ntmps117
        go_wp2_with fail
        refine (HR.out w).mono ?_
        rintro e w1 ⟨rfl, b1⟩
        obtain ⟨d0, d2, f2⟩ := HC.out w1 b1
        go_wp2_with fail
        refine (HT2.out w1).mono ?_
        rintro e w2 ⟨⟨tb, rfl, htb⟩, b2⟩
        have b12 := b1.trans (b2.mono b1.size)
        go_wp2_with fail
        refine (HU.out 3 w2 b12).mono ?_
        rintro e w3 ⟨rfl, h3⟩
        go_wp2_with fail
        go_end0
        exact ⟨rfl, HF.out 3 w2 w3 b12 (by rw [if_neg h58]) h3⟩
      · have y1 : decide (1 < (r : Int)) = false := by simp at hno; simp; omega
        go_enter Tryz.func117, Tryz.ntmps117
        go_wp2_with fail
        refine (HR.out w).mono ?_
        rintro e w1 ⟨rfl, b1⟩
        obtain ⟨d0, d2, f2⟩ := HC.out w1 b1
        go_wp2_with fail
        refine (HT2.out w1).mono ?_
        rintro e w2 ⟨⟨tb, rfl, htb⟩, b2⟩
        have b12 := b1.trans (b2.mono b1.size)
        go_wp2_with fail
        refine (HU.out 3 w2 b12).mono ?_
        rintro e w3 ⟨rfl, h3⟩
        go_wp2_with fail
        go_end0
        exact ⟨rfl, HF.out 3 w2 w3 b12 (by rw [if_neg h58]) h3⟩
    · have z58 : ((bt s p : Int) == 58) = true := by simp; omega
      cases D
      · go_enter Tryz.func117, Tryz.ntmps117
        go_wp2_with fail
        refine (HR.out w).mono ?_
        rintro e w1 ⟨rfl, b1⟩
        obtain ⟨d0, d2, f2⟩ := HC.out w1 b1
        go_wp2_with fail
        refine (HT2.out w1).mono ?_
        rintro e w2 ⟨⟨tb, rfl, htb⟩, b2⟩
        have b12 := b1.trans (b2.mono b1.size)
        go_wp2_with fail
        refine (HU.out 4 w2 b12).mono ?_
        rintro e w3 ⟨rfl, h3⟩
        go_wp2_with fail
        go_end0
        exact ⟨rfl, HF.out 4 w2 w3 b12 (by rw [if_pos h58]) h3⟩
      · have y1 : decide (1 < (r : Int)) = false := by simp at hno; simp; omega
        go_enter Tryz.func117, Tryz.ntmps117
        go_wp2_with fail
        refine (HR.out w).mono ?_
        rintro e w1 ⟨rfl, b1⟩
        obtain ⟨d0, d2, f2⟩ := HC.out w1 b1
        go_wp2_with fail
        refine (HT2.out w1).mono ?_
        rintro e w2 ⟨⟨tb, rfl, htb⟩, b2⟩
        have b12 := b1.trans (b2.mono b1.size)
        go_wp2_with fail
        refine (HU.out 4 w2 b12).mono ?_
        rintro e w3 ⟨rfl, h3⟩
        go_wp2_with fail
        go_end0
        exact ⟨rfl, HF.out 4 w2 w3 b12 (by rw [if_pos h58]) h3⟩
  · have hlx := lex_dash hp hs1 hs2 hD
    have hdp := dash_pos (by omega) hD
    have hD2 := hD
    unfold dash at hD2
    simp only [Bool.and_eq_true, decide_eq_true_eq] at hD2
    obtain ⟨hd2, hde⟩ := hD2
    rw [hde] at hd2
    have hDt : decide (rl sym s p ≤ rl (fun c => c == 45) s p) = true := decide_eq_true (by omega)
    have heol : eol s p = rl sym s p + rl (fun c => c != 10) s (p + rl sym s p) := rl_add _ s p _ hrun (fun i hi => by
      have := (rl_run sym s p (by omega)).all i hi
      rcases q : (bt s (p + i) != 10) with _ | _
      · simp at q
        rw [q] at this
        revert this
        decide
      · rfl)
    have hbd2 : Bd s (p + eol s p) := by
      have hrr := rl_run (fun c => c != 10) s p (by omega)
      rcases Nat.lt_or_ge (p + eol s p) s.size with hlt | hge
      · have := hrr.stop hlt
        simp at this
        exact .inr (.inl (by unfold eol; omega))
      · exact .inl (by omega)
    have hR2 := fun w1 => iRun86 (fun c => c != 10) class86 high_line (s.extract (p + rl sym s p) s.size) w1
    rw [rl_ext (fun c => c != 10) s (p + rl sym s p) hrun] at hR2
    have hfin : ∀ w1, Below w.heap.size w w1 → RG s p b mb ln ls T w (w1.setCell ⟨b, 2, none⟩ (.int .i64 ((p + eol s p : Nat) : Int))) := fun w1 b1 => by
      have g := h.next b1
      refine ⟨p + eol s p, [], ao, cp, n, by omega, hbd2, by simp, ?_, g.sc.set2 _, ?_, (KB.of (Nat.le_of_lt lt) b1).only (Only.setCell _ ⟨b, 2, none⟩ _)⟩
      · have e : max (p + eol s p) (p + 1) = p + eol s p := by omega
        rw [e, ← hlx]
        simp
      · rw [List.append_nil]
        exact g.tr.only (Only.setCell _ ⟨b, 2, none⟩ _) (Nat.lt_succ_self b)
    have HF := hide hfin
    have HR2 := hide hR2
    rw [hDt] at HT2
    rw [heol] at HF
    have hsz2 : p + (rl sym s p + rl (fun c => c != 10) s (p + rl sym s p)) ≤ s.size := by rw [← heol]; exact hdp.2
    clear hfin hR2 hlx hdp hbd2 heol hDt hde hD hbd hdl
    generalize rl (fun c => c != 10) s (p + rl sym s p) = q at *
    generalize rl sym s p = r at *
    obtain ⟨j, hj⟩ : ∃ j, j = p + r := ⟨_, rfl⟩
    obtain ⟨j2, hj2⟩ : ∃ j2, j2 = p + (r + q) := ⟨_, rfl⟩
    rw [← hj] at HT2 HR2
    rw [← hj2] at HF
    have hsum : (p : Int) + (r : Int) = (j : Int) := by omega
    have hsum2 : (j : Int) + (q : Int) = (j2 : Int) := by omega
    have hdif : (j : Int) - (p : Int) = (r : Int) := by omega
    have hjs : (j : Int) ≤ s.size := by omega
    have hpj : (p : Int) ≤ j := by omega
    have hwr : IntKind.i64.wrap (j : Int) = (j : Int) := by simp [IntKind.wrap, IntKind.bits, IntKind.signed]; omega
    have hwr3 : IntKind.i64.wrap (j2 : Int) = (j2 : Int) := by simp [IntKind.wrap, IntKind.bits, IntKind.signed]; omega
    have hwr2 : IntKind.i64.wrap (r : Int) = (r : Int) := by simp [IntKind.wrap, IntKind.bits, IntKind.signed]; omega
    have y1 : decide (1 < (r : Int)) = true := by simp; omega
    clear hj hj2
    go_enter Tryz.func117, Tryz.ntmps117
    go_wp2_with fail
    refine (HR.out w).mono ?_
    rintro e w1 ⟨rfl, b1⟩
    obtain ⟨d0, d2, f2⟩ := HC.out w1 b1
    go_wp2_with fail
    refine (HT2.out w1).mono ?_
    rintro e w2 ⟨⟨tb, rfl, htb⟩, b2⟩
    have b12 := b1.trans (b2.mono b1.size)
    clear d0 d2 f2
    obtain ⟨d0, d2, f2⟩ := HC.out w2 b12
    go_wp2_with fail
    refine (HR2.out w2).mono ?_
    rintro e w3 ⟨rfl, b3⟩
    have b13 := b12.trans (b3.mono b12.size)
    clear d0 d2 f2
    obtain ⟨d0, d2, f2⟩ := HC.out w3 b13
    go_wp2_with fail
    go_end0
    exact ⟨rfl, HF.out w3 b13⟩

end Go.Proofs.YtjfoagmenehapaaGreatDoor

namespace Go.Proofs.YtjfoagmenehapaaGreatDoor
open Go.RowKit Go.Joins

theorem prefix_two (s : ByteArray) (i : Nat) (x y : UInt8) (hi : i ≤ s.size) : Lib.hasPrefix (s.extract i s.size).data.toList [x, y] = two s i x.toNat y.toNat := by
  have hz : (s.extract i s.size).data.toList.length = s.size - i := by
    rw [Array.length_toList]
    show (s.extract i s.size).size = _
    rw [ByteArray.size_extract]; omega
  have e0 := bt_ext s i 0 hi
  have e1 := bt_ext s i 1 hi
  rw [bt_data] at e0 e1
  rw [Nat.add_zero] at e0
  unfold two
  rw [← e0, ← e1]
  have hsz : decide (i + 2 ≤ s.size) = decide (2 ≤ (s.extract i s.size).data.toList.length) := by rw [hz]; exact decide_eq_decide.2 (by omega)
  rw [hsz]
  generalize (s.extract i s.size).data.toList = L
  unfold Lib.hasPrefix
  match L with
  | [] => simp
  | [u] => simp [List.isPrefixOf]
  | u :: v :: L =>
    rw [Bool.eq_iff_iff]
    simp [List.isPrefixOf]
    constructor
    · rintro ⟨rfl, rfl⟩; exact ⟨rfl, rfl⟩
    · rintro ⟨h1, h2⟩; exact ⟨(UInt8.toNat_inj.1 h1).symm, (UInt8.toNat_inj.1 h2).symm⟩

theorem nest_skip {s : ByteArray} {i d : Nat} (hi : i < s.size) (h1 : two s i 123 45 = false) (h2 : two s i 45 125 = false) : nest s i d = nest s (i + 1) d := by
  rw [nest, if_neg (by omega), if_neg (by rw [h1]; decide), if_neg (by rw [h2]; decide)]

theorem two_high {s : ByteArray} {i x y : Nat} (h : 128 ≤ bt s i) (hx : x < 128) : two s i x y = false := by
  rcases q : two s i x y with _ | _
  · rfl
  · have := (two_bt q).1; omega

theorem nest_run {s : ByteArray} {i d : Nat} : ∀ k, i + k ≤ s.size → (∀ j, j < k → 128 ≤ bt s (i + j)) → nest s i d = nest s (i + k) d
  | 0, _, _ => rfl
  | k + 1, h, hj => by
    rw [nest_run k (by omega) (fun j hjk => hj j (by omega))]
    exact nest_skip (by omega) (two_high (hj k (by omega)) (by omega)) (two_high (hj k (by omega)) (by omega))

set_option maxHeartbeats 2000000 in
set_option maxRecDepth 100000 in
theorem iNested {s p b mb nx ln ls ao cp n T w} (h : At s p b mb nx ln ls ao cp n T w) (h2 : two s p 123 45 = true) :
    Calls Tryz.prog 119 #[.pointer (some ⟨b, 0, none⟩), .int .i64 p] w (RP s p b mb ln ls T w) := by
  obtain ⟨c0, c1, c2, c3, c4, c5, fr, lt⟩ := id h.sc
  have hp := h.lt
  have hp' : (p : Int) ≤ s.size := by omega
  have hsz := h.sz
  have hz : (s.extract p s.size).size = s.size - p := by rw [ByteArray.size_extract]; omega
  have hcell : ∀ w1, Below w.heap.size w w1 → w1.cell? ⟨b, 0, none⟩ = some (.string s) ∧ w1.cell? ⟨b, 2, none⟩ = some (.int .i64 nx) ∧ w1.frozen? ⟨b, 2, none⟩ = false := fun w1 b1 => ⟨(b1.cell (p := ⟨b, 0, none⟩) lt).trans c0, (b1.cell (p := ⟨b, 2, none⟩) lt).trans c2, (b1.frozen (p := ⟨b, 2, none⟩) lt).trans (fr 2)⟩
  have HC := hide hcell
  have hbu : ∀ i, bt (s.extract p s.size) i = bt s (p + i) := fun i => bt_ext s p i (by omega)
  have HBU := hide hbu
  have hgood : ∀ w1 j, Below w.heap.size w w1 → nest s p 0 = some j → bt s (j - 1) < 128 → RP s p b mb ln ls T w (.returned (.int .i64 0)) (w1.setCell ⟨b, 2, none⟩ (.int .i64 (j : Int))) := fun w1 j b1 hj hb => by
    have g := h.next b1
    have hgt := nest_gt _ _ _ hj
    refine .inr ⟨rfl, j, [], ao, cp, n, hgt.2, .inr (.inr ⟨by omega, hb⟩), by simp, ?_, g.sc.set2 _, ?_, (KB.of (Nat.le_of_lt lt) b1).only (Only.setCell _ ⟨b, 2, none⟩ _)⟩
    · have e : max j (p + 1) = j := by omega
      rw [e, lex_nest hp h2 hj]
      simp
    · rw [List.append_nil]
      exact g.tr.only (Only.setCell _ ⟨b, 2, none⟩ _) (Nat.lt_succ_self b)
  have HG := hide hgood
  have hbad : ∀ w1, Below w.heap.size w w1 → nest s p 0 = none → RP s p b mb ln ls T w (.returned (.int .i64 2)) w1 := fun w1 b1 hn => .inl ⟨2, rfl, h.same b1 (by decide) (lex_open hp h2 hn)⟩
  have HBad := hide hbad
  clear hcell hgood hbad hbu
  have H2 := hide h2
  go_enter Tryz.func119, Tryz.ntmps119
  go_wp2_with fail
  go_loopw [5, 6, 7, 8] (fun s5 s6 _ _ wr => ∃ (pos d nt : Nat), s5 = .int .i64 d ∧ s6 = .int .i64 nt ∧ pos ≤ s.size - p ∧ d ≤ pos ∧ nt ≤ s.size ∧ (p + pos < nt → p + pos + 1 = nt ∧ bt s (p + pos) < 128) ∧ (pos = 0 ∧ d = 0 ∧ nt = p ∨ 0 < d) ∧ Hid (nest s (max (p + pos) nt) d = nest s p 0) ∧ wr.heap[w.heap.size]? = some (.stringIter (s.extract p s.size) pos) ∧ Below w.heap.size w wr) (fun _ _ _ _ wr => s.size - wr.iterPos w.heap.size)
  case atStart => exact ⟨0, 0, p, rfl, rfl, Nat.zero_le _, Nat.le_refl _, by omega, by omega, .inl ⟨rfl, rfl, rfl⟩, by unfold Hid; simp, heap_new w _, below_alloc1 _ _⟩
  case round =>
    obtain ⟨pos, d, nt, rfl, rfl, g1, g2, g3, g4, g5, hN, hit, hb⟩ := hrel
    obtain ⟨d0, d2, f2⟩ := HC.out wr hb
    by_cases hlt : pos < s.size - p
    · have hlt' : pos < (s.extract p s.size).size := by rw [hz]; exact hlt
      have hnx : ∀ ty, (Instr.next (.pointer (some ⟨w.heap.size, 0, none⟩)) true ty).run Tryz.prog wr = _ := fun ty => Lib.run_next_any_at wr w.heap.size (s.extract p s.size) pos ty hit hlt'
      have hD : 1 ≤ (Utf8.decode (s.extract p s.size) pos).2 ∧ pos + (Utf8.decode (s.extract p s.size) pos).2 ≤ s.size - p ∧ (bt s (p + pos) < 128 → (Utf8.decode (s.extract p s.size) pos).2 = 1) ∧ (128 ≤ bt s (p + pos) → ∀ j, j < (Utf8.decode (s.extract p s.size) pos).2 → 128 ≤ bt s (p + pos + j)) := by
        have e := HBU.out pos
        by_cases hl : bt s (p + pos) < 128
        · rw [dec_low hlt' (by rw [e]; exact hl)]
          exact ⟨Nat.le_refl _, by simp only; omega, fun _ => rfl, fun hh => by omega⟩
        · obtain ⟨h1, h2, h3, h4, h5⟩ := dec_high hlt' (by rw [e]; omega)
          refine ⟨h3, by rw [hz] at h4; exact h4, fun hh => by omega, fun _ j hj => ?_⟩
          rcases Nat.eq_zero_or_pos j with rfl | h0
          · rw [Nat.add_zero]; omega
          · have := h5 j h0 hj
            rwa [HBU.out, ← Nat.add_assoc] at this
      obtain ⟨w1, w2, w3, w4⟩ := hD
      generalize (Utf8.decode (s.extract p s.size) pos).1 = cc at *
      generalize (Utf8.decode (s.extract p s.size) pos).2 = wd at *
      have hit2 := Lib.iterAt_heap wr w.heap.size (s.extract p s.size) pos (pos + wd) hit
      have hb2 := Lib.below_iterAt hb (k := w.heap.size) (Nat.le_refl _) (s.extract p s.size) (pos + wd)
      clear d0 d2 f2
      obtain ⟨d0, d2, f2⟩ := HC.out _ hb2
      obtain ⟨q, hq⟩ : ∃ q, q = p + pos := ⟨_, rfl⟩
      rw [← hq] at g4 hN w3 w4
      have hsum : (p : Int) + (pos : Int) = (q : Int) := by omega
      have hwq : IntKind.i64.wrap (q : Int) = (q : Int) := by simp [IntKind.wrap, IntKind.bits, IntKind.signed]; omega
      have hqs : (q : Int) ≤ s.size := by omega
      have HQ := hide hq
      have HP1 : Hid (∀ w1, Calls Tryz.prog 118 #[.string (s.extract q s.size), .string ⟨#[123, 45]⟩] w1 fun e w' => e = .returned (.bool (two s q 123 45)) ∧ w' = w1) := fun w1 => by
        refine (Tryz.strings_HasPrefix _ _ _).mono ?_
        rintro e w2 ⟨rfl, rfl⟩
        exact ⟨ret_b (prefix_two s q 123 45 (by omega)), rfl⟩
      have HP2 : Hid (∀ w1, Calls Tryz.prog 118 #[.string (s.extract q s.size), .string ⟨#[45, 125]⟩] w1 fun e w' => e = .returned (.bool (two s q 45 125)) ∧ w' = w1) := fun w1 => by
        refine (Tryz.strings_HasPrefix _ _ _).mono ?_
        rintro e w2 ⟨rfl, rfl⟩
        exact ⟨ret_b (prefix_two s q 45 125 (by omega)), rfl⟩
      clear hq
      have hmeas : s.size - World.iterPos (wr.iterAt w.heap.size (s.extract p s.size) (pos + wd)) w.heap.size < s.size - World.iterPos wr w.heap.size := by
        simp only [World.iterPos, hit2, hit]
        omega
      have HM := hide hmeas
      clear hmeas
      by_cases hc : q < nt
      · have hc' : (q : Int) < nt := by omega
        obtain ⟨g6, g7⟩ := g4 hc
        have hwd := hide (w3 g7)
        clear w3 w4 g7 g4
        go_wp2_with fail
        go_roundw
        case rel =>
          have := HQ.out
          have hwd := hwd.out
          refine ⟨pos + wd, d, nt, rfl, rfl, w2, by omega, g3, by omega, by omega, ?_, hit2, hb2⟩
          have e1 : max (p + (pos + wd)) nt = max q nt := by omega
          unfold Hid
          rw [e1]
          exact hN.out
        case measure => exact HM.out
      · have hc' : ¬ (q : Int) < nt := by omega
        have hmx : max q nt = q := by omega
        rw [hmx] at hN
        rcases q1 : two s q 123 45 with _ | _
        · rcases q2 : two s q 45 125 with _ | _
          · have hdp : 0 < d := by
              rcases g5 with ⟨e1, e2, e3⟩ | g5
              · have := HQ.out
                have h2 := H2.out
                rw [show p = q by omega, q1] at h2
                cases h2
              · exact g5
            have z1 : ((d : Int) == 0) = false := by simp; omega
            have hN2 : Hid (nest s (q + wd) d = nest s p 0) := by
              have e0 := HQ.out
              unfold Hid
              rw [← hN.out]
              by_cases hl : bt s q < 128
              · rw [w3 hl, nest_skip (by omega) q1 q2]
              · exact (nest_run wd (by omega) (w4 (by omega))).symm
            go_wp2_with fail
            refine (HP1.out _).mono ?_
            rintro e w5 ⟨rfl, hw5⟩
            obtain rfl := hw5.symm
            rw [q1]
            go_wp2_with fail
            refine (HP2.out _).mono ?_
            rintro e w5 ⟨rfl, hw5⟩
            obtain rfl := hw5.symm
            rw [q2]
            go_wp2_with fail
            go_roundw
            case rel =>
              have := HQ.out
              refine ⟨pos + wd, d, nt, rfl, rfl, w2, by omega, g3, by omega, .inr hdp, ?_, hit2, hb2⟩
              have e1 : max (p + (pos + wd)) nt = q + wd := by omega
              unfold Hid
              rw [e1]
              exact hN2.out
            case measure => exact HM.out
          · have hdp : 0 < d := by
              rcases g5 with ⟨e1, e2, e3⟩ | g5
              · have := HQ.out
                have h2 := H2.out
                rw [show p = q by omega, q1] at h2
                cases h2
              · exact g5
            have h22 := two_le q2
            have hb45 := two_bt q2
            have hwd := hide (w3 (by omega))
            obtain ⟨q3, hq3⟩ : ∃ q3, q3 = q + 2 := ⟨_, rfl⟩
            have hs3 : (q : Int) + 2 = (q3 : Int) := by omega
            have hw3 : IntKind.i64.wrap (q3 : Int) = (q3 : Int) := by simp [IntKind.wrap, IntKind.bits, IntKind.signed]; omega
            have HQ3 := hide hq3
            have HB45 := hide hb45
            by_cases hd1 : d = 1
            · have hn : nest s p 0 = some q3 := by
                rw [← hN.out, nest, if_neg (by omega), if_neg (by rw [q1]; decide), if_pos q2, if_pos hd1, hq3]
              have HN := hide hn
              have z0 : (d : Int) - 1 = 0 := by omega
              clear hn hN hq3 hb45 hd1
              go_wp2_with fail
              refine (HP1.out _).mono ?_
              rintro e w5 ⟨rfl, hw5⟩
              obtain rfl := hw5.symm
              rw [q1]
              go_wp2_with fail
              refine (HP2.out _).mono ?_
              rintro e w5 ⟨rfl, hw5⟩
              obtain rfl := hw5.symm
              rw [q2]
              go_wp2_with fail
              go_ret
              refine HG.out _ q3 hb2 HN.out ?_
              have := HQ3.out
              rw [show q3 - 1 = q + 1 by omega, HB45.out.2]
              decide
            · have hN2 : Hid (nest s (q + 2) (d - 1) = nest s p 0) := by
                unfold Hid
                rw [← hN.out]
                conv => rhs; rw [nest, if_neg (by omega), if_neg (by rw [q1]; decide), if_pos q2, if_neg hd1]
              obtain ⟨d', hd'⟩ : ∃ d', d' = d - 1 := ⟨_, rfl⟩
              have z0 : (d : Int) - 1 = (d' : Int) := by omega
              have z1 : ((d' : Int) == 0) = false := by simp; omega
              have hdp' : 0 < d' := by omega
              have hdle : d' ≤ pos := by omega
              rw [← hd'] at hN2
              clear hN hq3 hb45 hd1 hd'
              go_wp2_with fail
              refine (HP1.out _).mono ?_
              rintro e w5 ⟨rfl, hw5⟩
              obtain rfl := hw5.symm
              rw [q1]
              go_wp2_with fail
              refine (HP2.out _).mono ?_
              rintro e w5 ⟨rfl, hw5⟩
              obtain rfl := hw5.symm
              rw [q2]
              go_wp2_with fail
              go_roundw
              case rel =>
                have e0 := HQ.out
                have e3 := HQ3.out
                have e4 := hwd.out
                refine ⟨pos + wd, d', q3, rfl, rfl, w2, by omega, by omega, fun _ => ⟨by omega, ?_⟩, .inr hdp', ?_, hit2, hb2⟩
                · rw [show p + (pos + wd) = q + 1 by omega, HB45.out.2]; decide
                · have e1 : max (p + (pos + wd)) q3 = q + 2 := by omega
                  unfold Hid
                  rw [e1]
                  exact hN2.out
              case measure => exact HM.out
        · have h22 := two_le q1
          have hb45 := two_bt q1
          have hwd := hide (w3 (by omega))
          obtain ⟨q3, hq3⟩ : ∃ q3, q3 = q + 2 := ⟨_, rfl⟩
          have hs3 : (q : Int) + 2 = (q3 : Int) := by omega
          have hw3 : IntKind.i64.wrap (q3 : Int) = (q3 : Int) := by simp [IntKind.wrap, IntKind.bits, IntKind.signed]; omega
          have HQ3 := hide hq3
          have HB45 := hide hb45
          have hN2 : Hid (nest s (q + 2) (d + 1) = nest s p 0) := by
            unfold Hid
            rw [← hN.out]
            conv => rhs; rw [nest, if_neg (by omega), if_pos q1]
          obtain ⟨d', hd'⟩ : ∃ d', d' = d + 1 := ⟨_, rfl⟩
          have z0 : (d : Int) + 1 = (d' : Int) := by omega
          have z1 : ((d' : Int) == 0) = false := by simp; omega
          have hwd' : IntKind.i64.wrap (d' : Int) = (d' : Int) := by simp [IntKind.wrap, IntKind.bits, IntKind.signed]; omega
          have hdp' : 0 < d' := by omega
          have hdle : d' ≤ pos + 1 := by omega
          rw [← hd'] at hN2
          clear hN hq3 hb45 hd'
          go_wp2_with fail
          refine (HP1.out _).mono ?_
          rintro e w5 ⟨rfl, hw5⟩
          obtain rfl := hw5.symm
          rw [q1]
          go_wp2_with fail
          go_roundw
          case rel =>
            have e0 := HQ.out
            have e3 := HQ3.out
            have e4 := hwd.out
            refine ⟨pos + wd, d', q3, rfl, rfl, w2, by omega, by omega, fun _ => ⟨by omega, ?_⟩, .inr hdp', ?_, hit2, hb2⟩
            · rw [show p + (pos + wd) = q + 1 by omega, HB45.out.2]; decide
            · have e1 : max (p + (pos + wd)) q3 = q + 2 := by omega
              unfold Hid
              rw [e1]
              exact hN2.out
          case measure => exact HM.out
    · have hnx : ∀ ty, (Instr.next (.pointer (some ⟨w.heap.size, 0, none⟩)) true ty).run Tryz.prog wr = _ := fun ty => Lib.run_next_end_at wr w.heap.size (s.extract p s.size) pos ty hit (by rw [hz]; omega)
      have hnone : nest s p 0 = none := by
        rw [← hN.out, nest, if_pos (by omega)]
      clear hN
      go_wp2_with fail
      go_ret
      exact HBad.out wr hb hnone

end Go.Proofs.YtjfoagmenehapaaGreatDoor

namespace Go.Proofs.YtjfoagmenehapaaGreatDoor
open Go.RowKit Go.Joins

theorem iQuote6 (w : World) : Calls Tryz.prog 62 #[.int .i64 6] w fun e w' => e = .returned (.int .i32 39) ∧ w' = w := by
  go_enter Tryz.func62, Tryz.ntmps62
  go_wp2
  go_ret
  exact ⟨rfl, rfl⟩
theorem iQuote7 (w : World) : Calls Tryz.prog 62 #[.int .i64 7] w fun e w' => e = .returned (.int .i32 34) ∧ w' = w := by
  go_enter Tryz.func62, Tryz.ntmps62
  go_wp2
  go_ret
  exact ⟨rfl, rfl⟩

theorem quo_last {u : ByteArray} {m : Nat} (i : Nat) (out t : List UInt8) (j : Nat) (h : quo u m i out = some (t, j)) : bt u (j - 1) = m := by
  rw [quo] at h
  split at h
  · cases h
  · split at h
    · rename_i hm; cases h; rw [Nat.add_sub_cancel]; exact hm
    · split at h
      · cases h
      · split at h
        · split at h
          · cases h
          · split at h
            · cases h
            · exact quo_last (i + 2) _ t j h
        · exact quo_last (i + 1) _ t j h
termination_by u.size - i
decreasing_by all_goals omega

set_option maxHeartbeats 2000000 in
set_option maxRecDepth 100000 in
theorem iQuoted6 {s p b mb nx ln ls ao cp n T w} (h : At s p b mb nx ln ls ao cp n T w) (hm : bt s p = 39) :
    Calls Tryz.prog 115 #[.pointer (some ⟨b, 0, none⟩), .int .i64 p, .int .i64 6] w (RP s p b mb ln ls T w) := by
  obtain ⟨c0, c1, c2, c3, c4, c5, fr, lt⟩ := id h.sc
  have hp := h.lt
  have hsz := h.sz
  have hst : blank s p = (p, true) := stop_of hp (by omega) (by omega) (by omega) (by omega)
  have hz : (s.extract (p + 1) s.size).size = s.size - (p + 1) := by rw [ByteArray.size_extract]; omega
  have hqe := quo_ext s 39 (p + 1) (by omega) (s.size - (p + 1)) 0 [] (by omega)
  rw [Nat.add_zero] at hqe
  have htk : tok s p = (match quo s 39 (p + 1) [] with | none => .bad 4 | some (t, j) => if bt s p = 39 ∧ t.length ≠ 1 then .bad 4 else .ok (if bt s p = 39 then 6 else 7) ⟨t.toArray⟩ (j - p)) := by
    unfold tok
    rw [if_neg (by rw [hm]; decide), if_neg (by rw [hm]; decide), if_pos (by omega), hm]
    rcases quo s 39 (p + 1) [] with _ | ⟨t, j⟩ <;> rfl
  rw [hqe] at htk
  have hM := fun w1 => iMeant (s.extract (p + 1) s.size) 39 w1 (by omega) (by omega)
  unfold qmV at hM
  have hline := h.line
  obtain ⟨p1, hp1⟩ : ∃ p1, p1 = p + 1 := ⟨_, rfl⟩
  rw [← hp1] at hM htk hz
  have hs1 : (p : Int) + 1 = (p1 : Int) := by omega
  have hl1 : (p1 : Int) ≤ s.size := by omega
  have hw1 : IntKind.i64.wrap (p1 : Int) = (p1 : Int) := by simp [IntKind.wrap, IntKind.bits, IntKind.signed]; omega
  have hd0 : w.drew.cell? ⟨b, 0, none⟩ = some (.string s) := c0
  have hbd0 : Below w.heap.size w w.drew := (Below.refl _ w).drew
  rcases q : quo (s.extract p1 s.size) 39 0 [] with _ | ⟨t, j⟩
  · rw [q] at htk hM
    have HE : Hid (∀ w1, Below w.heap.size w w1 → RP s p b mb ln ls T w (.returned (.int .i64 4)) w1) := fun w1 b1 => .inl ⟨4, rfl, h.same b1 (by decide) (lex_bad hp hst htk)⟩
    have HM := hide hM
    clear hM htk hqe hst q hm hp1
    go_enter Tryz.func115, Tryz.ntmps115
    go_wp2_with fail
    go_region_held3 (fun w' => w'.cell? ⟨b, 0, none⟩ = some (.string s)) (first | exact hd0 | exact k6) (first
      | (go_at_call 62; refine (iQuote6 _).mono ?_; rintro e w5 ⟨rfl, hw5⟩; obtain rfl : w.drew = w5 := hw5.symm)
      | (go_at_call 145; refine (HM.out w.drew).mono ?_; rintro e w6 ⟨rfl, b6⟩; have k6 : w6.cell? ⟨b, 0, none⟩ = some (.string s) := (b6.cell (p := ⟨b, 0, none⟩) lt).trans c0))
    all_goals
      go_wp2_with fail
      go_ret
      exact HE.out w6 (hbd0.trans b6)
  · have hgt := quo_gt _ _ _ _ q
    simp only [List.length_nil] at hgt
    rw [hz] at hgt
    rw [q] at htk hM
    simp only [Option.map] at htk
    obtain ⟨tb, htb⟩ : ∃ tb : ByteArray, tb = ⟨t.toArray⟩ := ⟨_, rfl⟩
    have htz : tb.size = t.length := by rw [htb]; simp [ByteArray.size]
    simp only [← htb] at htk hM
    rw [← htz] at htk
    obtain ⟨jj, hjj⟩ : ∃ jj, jj = p1 + j := ⟨_, rfl⟩
    have hs2 : (p1 : Int) + (j : Int) = (jj : Int) := by omega
    have hw2 : IntKind.i64.wrap (jj : Int) = (jj : Int) := by simp [IntKind.wrap, IntKind.bits, IntKind.signed]; omega
    have htz2 : (tb.size : Int) ≤ 1048576 := by omega
    have y0 : ((j : Int) == 0) = false := by simp; omega
    rw [← hjj] at htk
    have hpm : p + (jj - p) = jj := by omega
    have hbd : Bd s (p + (jj - p)) := by
      refine .inr (.inr ⟨by omega, ?_⟩)
      rw [hpm]
      have hlast := quo_last _ _ _ _ q
      rw [bt_ext s p1 _ (by omega)] at hlast
      rw [show jj - 1 = p1 + (j - 1) by omega, hlast]
      decide
    have HM := hide hM
    by_cases h1 : tb.size = 1
    · have y1 : ((tb.size : Int) != 1) = false := by simp; omega
      rw [if_neg (by simp [h1]), if_pos hm] at htk
      have hU := fun w1 (b1 : Below w.heap.size w w1) => iMeaning b s p jj mb nx ln ls (pc s p) ao cp n T 6 tb w1 (h.next b1).sc (h.next b1).tr (by have := h.tl; omega) h.col (pc_pos s p) (by have := pc_le s p; omega)
      have HF : Hid (∀ w1 w2, Below w.heap.size w w1 → Added b s mb jj ln ls (n + 1) (T ++ [⟨6, tb, ln, pc s p⟩]) w1 w2 → RP s p b mb ln ls T w (.returned (.int .i64 0)) w2) := by
        intro w1 w2 b1 hA
        obtain ⟨hA1, hA2⟩ := hA
        refine .inr ⟨rfl, rg_tok (n := n + 1) hp hst htk hbd ⟨?_, (KB.of (Nat.le_of_lt lt) b1).trans hA2⟩⟩
        obtain ⟨ao', cap', s1, t1⟩ := hA1
        rw [hpm]
        exact ⟨ao', cap', s1, by rw [← hline]; exact t1⟩
      have HU := hide hU
      clear hU hM htk hqe hst q hp1 hbd hgt hjj hpm htb htz hm h1
      go_enter Tryz.func115, Tryz.ntmps115
      go_wp2_with fail
      go_region_held3 (fun w' => w'.cell? ⟨b, 0, none⟩ = some (.string s)) (first | exact hd0 | exact k6) (first
        | (go_at_call 62; refine (iQuote6 _).mono ?_; rintro e w5 ⟨rfl, hw5⟩; obtain rfl : w.drew = w5 := hw5.symm)
        | (go_at_call 145; refine (HM.out w.drew).mono ?_; rintro e w6 ⟨rfl, b6⟩; have k6 : w6.cell? ⟨b, 0, none⟩ = some (.string s) := (b6.cell (p := ⟨b, 0, none⟩) lt).trans c0))
      all_goals
        go_wp2_with fail
        refine (HU.out w6 (hbd0.trans b6)).mono ?_
        rintro e w7 ⟨rfl, h7⟩
        go_wp2_with fail
        go_ret
        exact HF.out w6 w7 (hbd0.trans b6) h7
    · have y1 : ((tb.size : Int) != 1) = true := by simp; omega
      rw [if_pos ⟨hm, h1⟩] at htk
      have HE : Hid (∀ w1, Below w.heap.size w w1 → RP s p b mb ln ls T w (.returned (.int .i64 4)) w1) := fun w1 b1 => .inl ⟨4, rfl, h.same b1 (by decide) (lex_bad hp hst htk)⟩
      clear hM htk hqe hst q hm hp1 hbd hgt hjj hpm htb htz h1
      go_enter Tryz.func115, Tryz.ntmps115
      go_wp2_with fail
      go_region_held3 (fun w' => w'.cell? ⟨b, 0, none⟩ = some (.string s)) (first | exact hd0 | exact k6) (first
        | (go_at_call 62; refine (iQuote6 _).mono ?_; rintro e w5 ⟨rfl, hw5⟩; obtain rfl : w.drew = w5 := hw5.symm)
        | (go_at_call 145; refine (HM.out w.drew).mono ?_; rintro e w6 ⟨rfl, b6⟩; have k6 : w6.cell? ⟨b, 0, none⟩ = some (.string s) := (b6.cell (p := ⟨b, 0, none⟩) lt).trans c0))
      all_goals
        go_wp2_with fail
        go_ret
        exact HE.out w6 (hbd0.trans b6)

set_option maxHeartbeats 2000000 in
set_option maxRecDepth 100000 in
theorem iQuoted7 {s p b mb nx ln ls ao cp n T w} (h : At s p b mb nx ln ls ao cp n T w) (hm : bt s p = 34) :
    Calls Tryz.prog 115 #[.pointer (some ⟨b, 0, none⟩), .int .i64 p, .int .i64 7] w (RP s p b mb ln ls T w) := by
  obtain ⟨c0, c1, c2, c3, c4, c5, fr, lt⟩ := id h.sc
  have hp := h.lt
  have hsz := h.sz
  have hst : blank s p = (p, true) := stop_of hp (by omega) (by omega) (by omega) (by omega)
  have hz : (s.extract (p + 1) s.size).size = s.size - (p + 1) := by rw [ByteArray.size_extract]; omega
  have hqe := quo_ext s 34 (p + 1) (by omega) (s.size - (p + 1)) 0 [] (by omega)
  rw [Nat.add_zero] at hqe
  have htk : tok s p = (match quo s 34 (p + 1) [] with | none => .bad 4 | some (t, j) => if bt s p = 39 ∧ t.length ≠ 1 then .bad 4 else .ok (if bt s p = 39 then 6 else 7) ⟨t.toArray⟩ (j - p)) := by
    unfold tok
    rw [if_neg (by rw [hm]; decide), if_neg (by rw [hm]; decide), if_pos (by omega), hm]
    rcases quo s 34 (p + 1) [] with _ | ⟨t, j⟩ <;> rfl
  rw [hqe] at htk
  have hM := fun w1 => iMeant (s.extract (p + 1) s.size) 34 w1 (by omega) (by omega)
  unfold qmV at hM
  have hline := h.line
  obtain ⟨p1, hp1⟩ : ∃ p1, p1 = p + 1 := ⟨_, rfl⟩
  rw [← hp1] at hM htk hz
  have hs1 : (p : Int) + 1 = (p1 : Int) := by omega
  have hl1 : (p1 : Int) ≤ s.size := by omega
  have hw1 : IntKind.i64.wrap (p1 : Int) = (p1 : Int) := by simp [IntKind.wrap, IntKind.bits, IntKind.signed]; omega
  have hd0 : w.drew.cell? ⟨b, 0, none⟩ = some (.string s) := c0
  have hbd0 : Below w.heap.size w w.drew := (Below.refl _ w).drew
  rcases q : quo (s.extract p1 s.size) 34 0 [] with _ | ⟨t, j⟩
  · rw [q] at htk hM
    have HE : Hid (∀ w1, Below w.heap.size w w1 → RP s p b mb ln ls T w (.returned (.int .i64 4)) w1) := fun w1 b1 => .inl ⟨4, rfl, h.same b1 (by decide) (lex_bad hp hst htk)⟩
    have HM := hide hM
    clear hM htk hqe hst q hm hp1
    go_enter Tryz.func115, Tryz.ntmps115
    go_wp2_with fail
    go_region_held3 (fun w' => w'.cell? ⟨b, 0, none⟩ = some (.string s)) (first | exact hd0 | exact k6) (first
      | (go_at_call 62; refine (iQuote7 _).mono ?_; rintro e w5 ⟨rfl, hw5⟩; obtain rfl : w.drew = w5 := hw5.symm)
      | (go_at_call 145; refine (HM.out w.drew).mono ?_; rintro e w6 ⟨rfl, b6⟩; have k6 : w6.cell? ⟨b, 0, none⟩ = some (.string s) := (b6.cell (p := ⟨b, 0, none⟩) lt).trans c0))
    all_goals
      go_wp2_with fail
      go_ret
      exact HE.out w6 (hbd0.trans b6)
  · have hgt := quo_gt _ _ _ _ q
    simp only [List.length_nil] at hgt
    rw [hz] at hgt
    rw [q] at htk hM
    simp only [Option.map] at htk
    obtain ⟨tb, htb⟩ : ∃ tb : ByteArray, tb = ⟨t.toArray⟩ := ⟨_, rfl⟩
    have htz : tb.size = t.length := by rw [htb]; simp [ByteArray.size]
    simp only [← htb] at htk hM
    rw [← htz] at htk
    obtain ⟨jj, hjj⟩ : ∃ jj, jj = p1 + j := ⟨_, rfl⟩
    have hs2 : (p1 : Int) + (j : Int) = (jj : Int) := by omega
    have hw2 : IntKind.i64.wrap (jj : Int) = (jj : Int) := by simp [IntKind.wrap, IntKind.bits, IntKind.signed]; omega
    have htz2 : (tb.size : Int) ≤ 1048576 := by omega
    have y0 : ((j : Int) == 0) = false := by simp; omega
    rw [← hjj] at htk
    have hpm : p + (jj - p) = jj := by omega
    have hbd : Bd s (p + (jj - p)) := by
      refine .inr (.inr ⟨by omega, ?_⟩)
      rw [hpm]
      have hlast := quo_last _ _ _ _ q
      rw [bt_ext s p1 _ (by omega)] at hlast
      rw [show jj - 1 = p1 + (j - 1) by omega, hlast]
      decide
    have HM := hide hM
    have ychr : True := trivial
    clear ychr
    rw [if_neg (by omega), if_neg (by omega)] at htk
    have hU := fun w1 (b1 : Below w.heap.size w w1) => iMeaning b s p jj mb nx ln ls (pc s p) ao cp n T 7 tb w1 (h.next b1).sc (h.next b1).tr (by have := h.tl; omega) h.col (pc_pos s p) (by have := pc_le s p; omega)
    have HF : Hid (∀ w1 w2, Below w.heap.size w w1 → Added b s mb jj ln ls (n + 1) (T ++ [⟨7, tb, ln, pc s p⟩]) w1 w2 → RP s p b mb ln ls T w (.returned (.int .i64 0)) w2) := by
      intro w1 w2 b1 hA
      obtain ⟨hA1, hA2⟩ := hA
      refine .inr ⟨rfl, rg_tok (n := n + 1) hp hst htk hbd ⟨?_, (KB.of (Nat.le_of_lt lt) b1).trans hA2⟩⟩
      obtain ⟨ao', cap', s1, t1⟩ := hA1
      rw [hpm]
      exact ⟨ao', cap', s1, by rw [← hline]; exact t1⟩
    have HU := hide hU
    clear hU hM htk hqe hst q hp1 hbd hgt hjj hpm htb htz hm
    go_enter Tryz.func115, Tryz.ntmps115
    go_wp2_with fail
    go_region_held3 (fun w' => w'.cell? ⟨b, 0, none⟩ = some (.string s)) (first | exact hd0 | exact k6) (first
      | (go_at_call 62; refine (iQuote7 _).mono ?_; rintro e w5 ⟨rfl, hw5⟩; obtain rfl : w.drew = w5 := hw5.symm)
      | (go_at_call 145; refine (HM.out w.drew).mono ?_; rintro e w6 ⟨rfl, b6⟩; have k6 : w6.cell? ⟨b, 0, none⟩ = some (.string s) := (b6.cell (p := ⟨b, 0, none⟩) lt).trans c0))
    all_goals
      go_wp2_with fail
      refine (HU.out w6 (hbd0.trans b6)).mono ?_
      rintro e w7 ⟨rfl, h7⟩
      go_wp2_with fail
      go_ret
      exact HF.out w6 w7 (hbd0.trans b6) h7

end Go.Proofs.YtjfoagmenehapaaGreatDoor

