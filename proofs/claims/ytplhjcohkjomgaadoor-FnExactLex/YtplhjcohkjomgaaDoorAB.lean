import Derived.Test.YtplhjcohkjomgaaDoorAA
namespace Go.Proofs.YtplhjcohkjomgaaDoor
open Go.RowKit Go.Joins

/-- What a reader that tells a code leaves. -/
def RP (s : ByteArray) (p b mb ln ls : Nat) (T : List To) (w : World) (e : Ending) (w' : World) : Prop :=
  (∃ c : Nat, e = .returned (.int .i64 c) ∧ RB s p b mb ln ls c w w') ∨ (e = .returned (.int .i64 0) ∧ RG s p b mb ln ls T w w')

theorem At.same {s p b mb nx ln ls ao cp n T w} (h : At s p b mb nx ln ls ao cp n T w) {w' : World} (k : Below w.heap.size w w') {c : Nat} (hc : c ≠ 0) (hl : lexF s p = ([], c, p)) : RB s p b mb ln ls c w w' :=
  ⟨hc, hl, ⟨_, _, h.sc.below k h.sc.lt⟩, KB.of (Nat.le_of_lt h.sc.lt) k⟩

set_option maxHeartbeats 1000000 in
set_option maxRecDepth 100000 in
theorem iNumber {s p b mb nx ln ls ao cp n T w} (h : At s p b mb nx ln ls ao cp n T w) (n1 : sml (bt s p) = false) (n2 : cap (bt s p) = false) (hd : dig (bt s p) = true) :
    Calls Tryd.prog 66 #[.pointer (some ⟨b, 0, none⟩), .int .i64 p] w (RP s p b mb ln ls T w) := by
  obtain ⟨c0, c1, c2, c3, c4, c5, fr, lt⟩ := id h.sc
  have hp := h.lt
  have hp' : (p : Int) ≤ s.size := by omega
  have hpl : (p : Int) < s.size := by omega
  have hsz := h.sz
  have hrun := (rl_run dig s p (by omega)).le
  have hpos := rl_pos hp hd
  have hbd := bd_run dig_low hp hd
  have hst : blank s p = (p, true) := by simp [dig] at hd; exact stop_of hp (by omega) (by omega) (by omega) (by omega)
  have hR := fun w1 => iRun65 dig class65 high_dig (s.extract p s.size) w1
  rw [rl_ext dig s p (by omega)] at hR
  have htk : tok s p = if 300 < rl dig s p ∨ 1 < rl dig s p ∧ bt s p = 48 then .bad 3 else .ok 5 (s.extract p (p + rl dig s p)) (rl dig s p) := by
    unfold tok
    rw [if_neg (by rw [n1, n2]; decide), if_pos hd]
  have hU := fun w1 (b1 : Below w.heap.size w w1) => iAdd b s p (p + rl dig s p) mb nx ln ls (pc s p) ao cp n T 5 w1 (h.next b1).sc (h.next b1).tr (by have := h.tl; omega) (by omega) (by omega) hrun h.col (pc_pos s p) (by have := pc_le s p; omega)
  have hline := h.line
  have hbt := bt_in hp
  by_cases hbad : 300 < rl dig s p ∨ 1 < rl dig s p ∧ bt s p = 48
  · rw [if_pos hbad] at htk
    have HE : Hid (∀ w1, Below w.heap.size w w1 → RP s p b mb ln ls T w (.returned (.int .i64 3)) w1) := fun w1 b1 => .inl ⟨3, rfl, h.same b1 (by decide) (lex_bad hp hst htk)⟩
    have HR := hide hR
    have hcell : ∀ w1, Below w.heap.size w w1 → w1.cell? ⟨b, 0, none⟩ = some (.string s) := fun w1 b1 => (b1.cell (p := ⟨b, 0, none⟩) lt).trans c0
    have HC := hide hcell
    clear hcell hR htk hU hbd hst
    generalize rl dig s p = r at *
    by_cases h3 : 300 < r
    · have y1 : decide (300 < (r : Int)) = true := by simp; omega
      clear h3 hbad hbt
      go_enter Tryd.func66, Tryd.ntmps66
      go_wp2_with fail
      refine (HR.out w).mono ?_
      rintro e w1 ⟨rfl, b1⟩
      have d0 := HC.out w1 b1
      go_wp2_with fail
      go_ret
      exact HE.out w1 b1
    · have y1 : decide (300 < (r : Int)) = false := by simp; omega
      have y2 : decide (1 < (r : Int)) = true := by simp; omega
      have y3 : ((s[p].toNat : Int) == 48) = true := by rw [hbt]; simp; omega
      clear h3 hbad hbt
      go_enter Tryd.func66, Tryd.ntmps66
      go_wp2_with fail
      refine (HR.out w).mono ?_
      rintro e w1 ⟨rfl, b1⟩
      have d0 := HC.out w1 b1
      go_wp2_with fail
      go_ret
      exact HE.out w1 b1
  · rw [if_neg hbad] at htk
    have HF : Hid (∀ w1 w2, Below w.heap.size w w1 → Added b s mb (p + rl dig s p) ln ls (n + 1) (T ++ [⟨5, s.extract p (p + rl dig s p), ln, pc s p⟩]) w1 w2 → RP s p b mb ln ls T w (.returned (.int .i64 0)) w2) := by
      intro w1 w2 b1 hA
      obtain ⟨hA1, hA2⟩ := hA
      refine .inr ⟨rfl, rg_tok (n := n + 1) hp hst htk hbd ⟨?_, (KB.of (Nat.le_of_lt lt) b1).trans hA2⟩⟩
      obtain ⟨ao', cap', s1, t1⟩ := hA1
      exact ⟨ao', cap', s1, by rw [← hline]; exact t1⟩
    have HR := hide hR
    have HU := hide hU
    have hcell : ∀ w1, Below w.heap.size w w1 → w1.cell? ⟨b, 0, none⟩ = some (.string s) := fun w1 b1 => (b1.cell (p := ⟨b, 0, none⟩) lt).trans c0
    have HC := hide hcell
    clear hcell hR hU htk hbd hst
    generalize rl dig s p = r at *
    obtain ⟨j, hj⟩ : ∃ j, j = p + r := ⟨_, rfl⟩
    rw [← hj] at HU HF
    have hsum : (p : Int) + (r : Int) = (j : Int) := by omega
    have hwr : IntKind.i64.wrap (j : Int) = (j : Int) := by simp [IntKind.wrap, IntKind.bits, IntKind.signed]; omega
    clear hj
    have y1 : decide (300 < (r : Int)) = false := by simp; omega
    by_cases h1 : 1 < r
    · have y2 : decide (1 < (r : Int)) = true := by simp; omega
      have y3 : ((s[p].toNat : Int) == 48) = false := by rw [hbt]; simp; omega
      clear h1 hbad hbt
      go_enter Tryd.func66, Tryd.ntmps66
      go_wp2_with fail
      refine (HR.out w).mono ?_
      rintro e w1 ⟨rfl, b1⟩
      have d0 := HC.out w1 b1
      go_wp2_with fail
      refine (HU.out w1 b1).mono ?_
      rintro e w2 ⟨rfl, h2⟩
      go_wp2_with fail
      go_ret
      exact HF.out w1 w2 b1 h2
    · have y2 : decide (1 < (r : Int)) = false := by simp; omega
      clear h1 hbad hbt
      go_enter Tryd.func66, Tryd.ntmps66
      go_wp2_with fail
      refine (HR.out w).mono ?_
      rintro e w1 ⟨rfl, b1⟩
      have d0 := HC.out w1 b1
      go_wp2_with fail
      refine (HU.out w1 b1).mono ?_
      rintro e w2 ⟨rfl, h2⟩
      go_wp2_with fail
      go_ret
      exact HF.out w1 w2 b1 h2

end Go.Proofs.YtplhjcohkjomgaaDoor
