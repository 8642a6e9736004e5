import Derived.Test.YtjfoagmenehapaaGreatDoorQ11
import Derived.Test.YtjfoagmenehapaaGreatDoorQ05
import Derived.Test.YtjfoagmenehapaaGreatDoorQ07
import Derived.Test.YtjfoagmenehapaaGreatDoorQ09
namespace Go.Proofs.YtjfoagmenehapaaGreatDoor
open Go.RowKit Go.Joins

/-- No rune reaches over the place. -/
def Bd (s : ByteArray) (q : Nat) : Prop := (q = s.size ∨ q = 0) ∨ bt s q < 128 ∨ (0 < q ∧ bt s (q - 1) < 128)

/-- A place was read well: a token more, or none. -/
def RG (s : ByteArray) (p b mb ln ls : Nat) (T : List To) (w w' : World) : Prop :=
  ∃ (nx : Nat) (T' : List To) (ao : Option Addr) (cp n : Nat), nx ≤ s.size ∧ Bd s nx ∧ T'.length ≤ 1 ∧ lexF s p = (T' ++ (lexF s (max nx (p + 1))).1, (lexF s (max nx (p + 1))).2) ∧ Sc w' b s mb nx ln ls (.slice ao n cp) ∧ TR (b + 1) w' ao cp n (T ++ T') ∧ KB b w w'

/-- Nothing can be read there. -/
def RB (s : ByteArray) (p b mb ln ls c : Nat) (w w' : World) : Prop := c ≠ 0 ∧ lexF s p = ([], c, p) ∧ (∃ nx v, Sc w' b s mb nx ln ls v) ∧ KB b w w'

/-- The program stands at a place of a text. -/
structure At (s : ByteArray) (p b mb nx ln ls : Nat) (ao : Option Addr) (cp n : Nat) (T : List To) (w : World) : Prop where
  sc : Sc w b s mb nx ln ls (.slice ao n cp)
  tr : TR (b + 1) w ao cp n T
  km : KM w mb
  mlt : mb < b
  tl : T.length ≤ p
  sz : s.size ≤ 60000
  lt : p < s.size
  nxp : nx ≤ p
  line : ln = pl s p
  col : (p : Int) - ls + 1 = pc s p
  bd : Bd s nx

theorem pc_pos (s : ByteArray) : ∀ i, 1 ≤ pc s i
  | 0 => Nat.le_refl _
  | i + 1 => by unfold pc; split <;> omega

theorem At.next {s p b mb nx ln ls ao cp n T w w'} (h : At s p b mb nx ln ls ao cp n T w) (k : Below w.heap.size w w') : At s p b mb nx ln ls ao cp n T w' :=
  ⟨h.sc.below k h.sc.lt, h.tr.below k, h.km.below k (Nat.lt_trans h.mlt h.sc.lt), h.mlt, h.tl, h.sz, h.lt, h.nxp, h.line, h.col, h.bd⟩

theorem bt_ext (s : ByteArray) (a i : Nat) (ha : a ≤ s.size) : bt (s.extract a s.size) i = bt s (a + i) := by
  by_cases h : i < s.size - a
  · exact bt_extract s a s.size i (Nat.le_refl _) h
  · unfold bt
    rw [dif_neg (by rw [ByteArray.size_extract]; omega), dif_neg (by omega)]

theorem rl_ext (p : Nat → Bool) (s : ByteArray) (a : Nat) (ha : a ≤ s.size) : rl p (s.extract a s.size) 0 = rl p s a := by
  have hz : (s.extract a s.size).size = s.size - a := by rw [ByteArray.size_extract]; omega
  have h := rl_run p s a ha
  have hr : Run p (s.extract a s.size) 0 (rl p s a) := by
    refine ⟨by rw [hz]; have := h.le; omega, fun i hi => ?_, fun hx => ?_⟩
    · rw [Nat.zero_add, bt_ext s a i ha]; exact h.all i hi
    · rw [Nat.zero_add, bt_ext s a _ ha]; exact h.stop (by rw [hz] at hx; omega)
  exact hr.rl.symm

theorem stop_of {s : ByteArray} {p : Nat} (hp : p < s.size) (h1 : bt s p ≠ 32) (h2 : bt s p ≠ 10) (h3 : bt s p ≠ 123) (h4 : bt s p ≠ 45) : blank s p = (p, true) := by
  refine blank_stop hp (by omega) ?_ ?_
  · unfold two
    simp; omega
  · unfold dash
    have : rl (fun c => c == 45) s p = 0 := by rw [rl, if_neg (by omega), if_neg (by simpa using h4)]
    rw [this]; simp

theorem rg_tok {s : ByteArray} {p b mb ln ls k m n : Nat} {t : ByteArray} {T : List To} {w w' : World} (hp : p < s.size) (hb : blank s p = (p, true)) (ht : tok s p = .ok k t m) (hbd : Bd s (p + m)) (hA : Added b s mb (p + m) ln ls n (T ++ [⟨k, t, pl s p, pc s p⟩]) w w') :
    RG s p b mb ln ls T w w' := by
  obtain ⟨⟨ao', cap', h1, h2⟩, h3⟩ := hA
  have hm := tok_len hp ht
  have e : max (p + m) (p + 1) = p + m := by omega
  refine ⟨p + m, [⟨k, t, pl s p, pc s p⟩], ao', cap', n, hm.2.1, hbd, Nat.le_refl _, ?_, h1, h2, h3⟩
  rw [e, lex_ok hp hb ht]
  rfl

theorem bd_run {q : Nat → Bool} (hq : ∀ c, q c = true → c < 128) {s : ByteArray} {p : Nat} (hp : p < s.size) (h : q (bt s p) = true) : Bd s (p + rl q s p) := by
  have h1 := rl_pos hp h
  have h2 := (rl_run q s p (by omega)).all (rl q s p - 1) (by omega)
  refine .inr (.inr ⟨by omega, ?_⟩)
  rw [show p + rl q s p - 1 = p + (rl q s p - 1) by omega]
  exact hq _ h2

theorem ins_low (c : Nat) (h : ins c = true) : c < 128 := by simp [ins, sml, cap, dig] at h; omega
theorem dig_low (c : Nat) (h : dig c = true) : c < 128 := by simp [dig] at h; omega
theorem sym_low (c : Nat) (h : sym c = true) : c < 128 := by simp [sym] at h; omega

theorem word_sml {t : ByteArray} (h : word t = true) : sml (bt t 0) = true := by
  unfold word at h
  rw [List.any_eq_true] at h
  obtain ⟨j, hj, he⟩ := h
  rw [List.mem_range] at hj
  rw [beq_iff_eq] at he
  have : bt t 0 = bt (wordAt j) 0 := by rw [bt_data, bt_data, ← Lib.toList_data, ← Lib.toList_data, he]
  rw [this]
  have key : ∀ j : Fin 18, sml (bt (wordAt j.val) 0) = true := by decide
  exact key ⟨j, hj⟩
theorem mark_sym {t : ByteArray} (h : mark t = true) : sym (bt t 0) = true := by
  unfold mark at h
  rw [List.any_eq_true] at h
  obtain ⟨j, hj, he⟩ := h
  rw [List.mem_range] at hj
  rw [beq_iff_eq] at he
  have : bt t 0 = bt (markAt j) 0 := by rw [bt_data, bt_data, ← Lib.toList_data, ← Lib.toList_data, he]
  rw [this]
  have key : ∀ j : Fin 11, sym (bt (markAt j.val) 0) = true := by decide
  exact key ⟨j, hj⟩
theorem ins_sym {c : Nat} (h : ins c = true) : sym c = false := by
  simp [ins, sml, cap, dig] at h
  simp [sym]; omega
theorem bt_first (s : ByteArray) (a m : Nat) (hm : a < m) (h2 : m ≤ s.size) : bt (s.extract a m) 0 = bt s a := by
  rw [bt_extract s a m 0 h2 (by omega), Nat.add_zero]

set_option maxHeartbeats 1000000 in
set_option maxRecDepth 100000 in
theorem iName {s p b mb nx ln ls ao cp n T w} (h : At s p b mb nx ln ls ao cp n T w) (hn : sml (bt s p) = true ∨ cap (bt s p) = true) :
    Calls Tryz.prog 112 #[.pointer (some ⟨b, 0, none⟩), .int .i64 p, .int .i32 (bt s p)] w fun e w' => e = .returned (.tuple #[]) ∧ RG s p b mb ln ls T w w' := by
  obtain ⟨c0, c1, c2, c3, c4, c5, fr, lt⟩ := id h.sc
  have hp := h.lt
  have hp' : (p : Int) ≤ s.size := by omega
  have hsz := h.sz
  have hi := ins_of hn
  have hrun := (rl_run ins s p (by omega)).le
  have hpos := rl_pos hp hi
  have hbd := bd_run ins_low hp hi
  have hst : blank s p = (p, true) := stop_of hp (by rcases hn with h | h <;> simp [sml, cap] at h <;> omega) (by rcases hn with h | h <;> simp [sml, cap] at h <;> omega) (by rcases hn with h | h <;> simp [sml, cap] at h <;> omega) (by rcases hn with h | h <;> simp [sml, cap] at h <;> omega)
  have hR := fun w1 => iRun81 ins class81 high_ins (s.extract p s.size) w1
  rw [rl_ext ins s p (by omega)] at hR
  have htk : tok s p = .ok (if word (s.extract p (p + rl ins s p)) = true then 8 else if cap (bt s p) = true then 2 else 1) (s.extract p (p + rl ins s p)) (rl ins s p) := by
    unfold tok
    rw [if_pos hn]
  have hmk : mark (s.extract p (p + rl ins s p)) = false := by
    rcases q : mark (s.extract p (p + rl ins s p)) with _ | _
    · rfl
    · have := mark_sym q
      rw [bt_first s p _ (by omega) hrun, ins_sym hi] at this
      cases this
  have hU := fun k w1 (b1 : Below w.heap.size w w1) => iUnless b s p (p + rl ins s p) mb nx ln ls (pc s p) ao cp n T k w1 (h.next b1).sc (h.next b1).tr (h.next b1).km (by have := h.tl; omega) (by omega) (by omega) hrun h.col (pc_pos s p) (by have := pc_le s p; omega)
  have hfin : ∀ k w1 w2, Below w.heap.size w w1 → k = (if cap (bt s p) = true then 2 else 1) → Added b s mb (p + rl ins s p) ln ls (n + 1) (T ++ [⟨if kk (s.extract p (p + rl ins s p)) = 0 then k else kk (s.extract p (p + rl ins s p)), s.extract p (p + rl ins s p), ln, pc s p⟩]) w1 w2 → RG s p b mb ln ls T w w2 := by
    intro k w1 w2 b1 hk hA
    obtain ⟨hA1, hA2⟩ := hA
    have hline := h.line
    refine rg_tok (n := n + 1) hp hst htk hbd ⟨?_, (KB.of (Nat.le_of_lt lt) b1).trans hA2⟩
    have e : (if kk (s.extract p (p + rl ins s p)) = 0 then k else kk (s.extract p (p + rl ins s p))) = (if word (s.extract p (p + rl ins s p)) = true then 8 else if cap (bt s p) = true then 2 else 1) := by
      unfold kk
      rw [hmk]
      rcases word (s.extract p (p + rl ins s p)) with _ | _ <;> simp [hk]
    rw [e] at hA1
    obtain ⟨ao', cap', s1, t1⟩ := hA1
    exact ⟨ao', cap', s1, by rw [← hline]; exact t1⟩
  have HU := hide hU
  have HF := hide hfin
  have HR := hide hR
  clear hU hfin hR htk hmk hbd hst
  generalize rl ins s p = r at *
  obtain ⟨j, hj⟩ : ∃ j, j = p + r := ⟨_, rfl⟩
  rw [← hj] at HU HF
  have hsum : (p : Int) + (r : Int) = (j : Int) := by omega
  have hwr : IntKind.i64.wrap (j : Int) = (j : Int) := by simp [IntKind.wrap, IntKind.bits, IntKind.signed]; omega
  clear hj
  rcases q2 : cap (bt s p) with _ | _
  · go_enter Tryz.func112, Tryz.ntmps112
    go_wp2_with fail
    refine (HR.out w).mono ?_
    rintro e w1 ⟨rfl, b1⟩
    go_wp2_with fail
    refine (iCapital _ _).mono ?_
    rintro e w2 ⟨rfl, hw2⟩
    obtain rfl : w1 = w2 := hw2.symm
    rw [q2]
    go_wp2_with fail
    refine (HU.out 1 w1 b1).mono ?_
    rintro e w3 ⟨rfl, h3⟩
    go_wp2_with fail
    go_end0
    exact ⟨rfl, HF.out 1 w1 w3 b1 (by rw [q2]; rfl) h3⟩
  · go_enter Tryz.func112, Tryz.ntmps112
    go_wp2_with fail
    refine (HR.out w).mono ?_
    rintro e w1 ⟨rfl, b1⟩
    go_wp2_with fail
    refine (iCapital _ _).mono ?_
    rintro e w2 ⟨rfl, hw2⟩
    obtain rfl : w1 = w2 := hw2.symm
    rw [q2]
    go_wp2_with fail
    refine (HU.out 2 w1 b1).mono ?_
    rintro e w3 ⟨rfl, h3⟩
    go_wp2_with fail
    refine bodyPost_ret (results_none rfl _ _ _) rfl ?_
    exact ⟨rfl, HF.out 2 w1 w3 b1 (by rw [q2]; rfl) h3⟩

end Go.Proofs.YtjfoagmenehapaaGreatDoor

namespace Go.Proofs.YtjfoagmenehapaaGreatDoor
open Go.RowKit Go.Joins

/-- What a reader that tells a code leaves. -/
def RP (s : ByteArray) (p b mb ln ls : Nat) (T : List To) (w : World) (e : Ending) (w' : World) : Prop :=
  (∃ c : Nat, e = .returned (.int .i64 c) ∧ RB s p b mb ln ls c w w') ∨ (e = .returned (.int .i64 0) ∧ RG s p b mb ln ls T w w')

theorem At.same {s p b mb nx ln ls ao cp n T w} (h : At s p b mb nx ln ls ao cp n T w) {w' : World} (k : Below w.heap.size w w') {c : Nat} (hc : c ≠ 0) (hl : lexF s p = ([], c, p)) : RB s p b mb ln ls c w w' :=
  ⟨hc, hl, ⟨_, _, h.sc.below k h.sc.lt⟩, KB.of (Nat.le_of_lt h.sc.lt) k⟩

set_option maxHeartbeats 1000000 in
set_option maxRecDepth 100000 in
theorem iNumber {s p b mb nx ln ls ao cp n T w} (h : At s p b mb nx ln ls ao cp n T w) (n1 : sml (bt s p) = false) (n2 : cap (bt s p) = false) (hd : dig (bt s p) = true) :
    Calls Tryz.prog 114 #[.pointer (some ⟨b, 0, none⟩), .int .i64 p] w (RP s p b mb ln ls T w) := by
  obtain ⟨c0, c1, c2, c3, c4, c5, fr, lt⟩ := id h.sc
  have hp := h.lt
  have hp' : (p : Int) ≤ s.size := by omega
  have hpl : (p : Int) < s.size := by omega
  have hsz := h.sz
  have hrun := (rl_run dig s p (by omega)).le
  have hpos := rl_pos hp hd
  have hbd := bd_run dig_low hp hd
  have hst : blank s p = (p, true) := by simp [dig] at hd; exact stop_of hp (by omega) (by omega) (by omega) (by omega)
  have hR := fun w1 => iRun65 dig class65 high_dig (s.extract p s.size) w1
  rw [rl_ext dig s p (by omega)] at hR
  have htk : tok s p = if 300 < rl dig s p ∨ 1 < rl dig s p ∧ bt s p = 48 then .bad 3 else .ok 5 (s.extract p (p + rl dig s p)) (rl dig s p) := by
    unfold tok
    rw [if_neg (by rw [n1, n2]; decide), if_pos hd]
  have hU := fun w1 (b1 : Below w.heap.size w w1) => iAdd b s p (p + rl dig s p) mb nx ln ls (pc s p) ao cp n T 5 w1 (h.next b1).sc (h.next b1).tr (by have := h.tl; omega) (by omega) (by omega) hrun h.col (pc_pos s p) (by have := pc_le s p; omega)
  have hline := h.line
  have hbt := bt_in hp
  by_cases hbad : 300 < rl dig s p ∨ 1 < rl dig s p ∧ bt s p = 48
  · rw [if_pos hbad] at htk
    have HE : Hid (∀ w1, Below w.heap.size w w1 → RP s p b mb ln ls T w (.returned (.int .i64 3)) w1) := fun w1 b1 => .inl ⟨3, rfl, h.same b1 (by decide) (lex_bad hp hst htk)⟩
    have HR := hide hR
    have hcell : ∀ w1, Below w.heap.size w w1 → w1.cell? ⟨b, 0, none⟩ = some (.string s) := fun w1 b1 => (b1.cell (p := ⟨b, 0, none⟩) lt).trans c0
    have HC := hide hcell
    clear hcell hR htk hU hbd hst
    generalize rl dig s p = r at *
    by_cases h3 : 300 < r
    · have y1 : decide (300 < (r : Int)) = true := by simp; omega
      clear h3 hbad hbt
      go_enter Tryz.func114, Tryz.ntmps114
      go_wp2_with fail
      refine (HR.out w).mono ?_
      rintro e w1 ⟨rfl, b1⟩
      have d0 := HC.out w1 b1
      go_wp2_with fail
      go_ret
      exact HE.out w1 b1
    · have y1 : decide (300 < (r : Int)) = false := by simp; omega
      have y2 : decide (1 < (r : Int)) = true := by simp; omega
      have y3 : ((s[p].toNat : Int) == 48) = true := by rw [hbt]; simp; omega
      clear h3 hbad hbt
      go_enter Tryz.func114, Tryz.ntmps114
      go_wp2_with fail
      refine (HR.out w).mono ?_
      rintro e w1 ⟨rfl, b1⟩
      have d0 := HC.out w1 b1
      go_wp2_with fail
      go_ret
      exact HE.out w1 b1
  · rw [if_neg hbad] at htk
    have HF : Hid (∀ w1 w2, Below w.heap.size w w1 → Added b s mb (p + rl dig s p) ln ls (n + 1) (T ++ [⟨5, s.extract p (p + rl dig s p), ln, pc s p⟩]) w1 w2 → RP s p b mb ln ls T w (.returned (.int .i64 0)) w2) := by
      intro w1 w2 b1 hA
      obtain ⟨hA1, hA2⟩ := hA
      refine .inr ⟨rfl, rg_tok (n := n + 1) hp hst htk hbd ⟨?_, (KB.of (Nat.le_of_lt lt) b1).trans hA2⟩⟩
      obtain ⟨ao', cap', s1, t1⟩ := hA1
      exact ⟨ao', cap', s1, by rw [← hline]; exact t1⟩
    have HR := hide hR
    have HU := hide hU
    have hcell : ∀ w1, Below w.heap.size w w1 → w1.cell? ⟨b, 0, none⟩ = some (.string s) := fun w1 b1 => (b1.cell (p := ⟨b, 0, none⟩) lt).trans c0
    have HC := hide hcell
    clear hcell hR hU htk hbd hst
    generalize rl dig s p = r at *
    obtain ⟨j, hj⟩ : ∃ j, j = p + r := ⟨_, rfl⟩
    rw [← hj] at HU HF
    have hsum : (p : Int) + (r : Int) = (j : Int) := by omega
    have hwr : IntKind.i64.wrap (j : Int) = (j : Int) := by simp [IntKind.wrap, IntKind.bits, IntKind.signed]; omega
    clear hj
    have y1 : decide (300 < (r : Int)) = false := by simp; omega
    by_cases h1 : 1 < r
    · have y2 : decide (1 < (r : Int)) = true := by simp; omega
      have y3 : ((s[p].toNat : Int) == 48) = false := by rw [hbt]; simp; omega
      clear h1 hbad hbt
      go_enter Tryz.func114, Tryz.ntmps114
      go_wp2_with fail
      refine (HR.out w).mono ?_
      rintro e w1 ⟨rfl, b1⟩
      have d0 := HC.out w1 b1
      go_wp2_with fail
      refine (HU.out w1 b1).mono ?_
      rintro e w2 ⟨rfl, h2⟩
      go_wp2_with fail
      go_ret
      exact HF.out w1 w2 b1 h2
    · have y2 : decide (1 < (r : Int)) = false := by simp; omega
      clear h1 hbad hbt
      go_enter Tryz.func114, Tryz.ntmps114
      go_wp2_with fail
      refine (HR.out w).mono ?_
      rintro e w1 ⟨rfl, b1⟩
      have d0 := HC.out w1 b1
      go_wp2_with fail
      refine (HU.out w1 b1).mono ?_
      rintro e w2 ⟨rfl, h2⟩
      go_wp2_with fail
      go_ret
      exact HF.out w1 w2 b1 h2

end Go.Proofs.YtjfoagmenehapaaGreatDoor

namespace Go.Proofs.YtjfoagmenehapaaGreatDoor
open Go.RowKit Go.Joins

theorem quo_ext (s : ByteArray) (m a : Nat) (ha : a ≤ s.size) : ∀ (k i : Nat) (out : List UInt8), s.size - a - i ≤ k → quo s m (a + i) out = (quo (s.extract a s.size) m i out).map (fun x => (x.1, a + x.2))
  | k, i, out, hk => by
    have hz : (s.extract a s.size).size = s.size - a := by rw [ByteArray.size_extract]; omega
    have e0 := bt_ext s a i ha
    rw [quo]
    conv => rhs; rw [quo]
    rw [hz, e0]
    by_cases h1 : s.size ≤ a + i
    · have h1' : s.size - a ≤ i := by omega
      rw [if_pos h1, if_pos h1']; rfl
    · have h1' : ¬ s.size - a ≤ i := by omega
      rw [if_neg h1, if_neg h1']
      match k, hk with
      | 0, hk => omega
      | k + 1, hk =>
        by_cases h2 : bt s (a + i) = m
        · rw [if_pos h2, if_pos h2]
          rfl
        · rw [if_neg h2, if_neg h2]
          by_cases h3 : bt s (a + i) < 32 ∨ 126 < bt s (a + i)
          · rw [if_pos h3, if_pos h3]; rfl
          · rw [if_neg h3, if_neg h3]
            by_cases h4 : bt s (a + i) = 92
            · rw [if_pos h4, if_pos h4]
              have e1 := bt_ext s a (i + 1) ha
              rw [e1]
              by_cases h5 : s.size ≤ a + i + 1
              · have h5' : s.size - a ≤ i + 1 := by omega
                rw [if_pos h5, if_pos h5']; rfl
              · have h5' : ¬ s.size - a ≤ i + 1 := by omega
                rw [if_neg h5, if_neg h5', show a + (i + 1) = a + i + 1 by omega]
                split
                · rfl
                · rename_i c _
                  rw [show a + i + 2 = a + (i + 2) by omega, quo_ext s m a ha k (i + 2) _ (by omega)]
            · rw [if_neg h4, if_neg h4, show a + i + 1 = a + (i + 1) by omega, quo_ext s m a ha k (i + 1) _ (by omega)]

/-- What the program's reader of quoted text tells. -/
def qmV (u : ByteArray) (m : Nat) : Value := match quo u m 0 [] with
  | none => .tuple #[.string ⟨#[]⟩, .int .i64 0]
  | some (t, j) => .tuple #[.string ⟨t.toArray⟩, .int .i64 j]
theorem qmV_none {u : ByteArray} {m : Nat} (h : quo u m 0 [] = none) : qmV u m = .tuple #[.string ⟨#[]⟩, .int .i64 0] := by unfold qmV; rw [h]
theorem qmV_some {u : ByteArray} {m j : Nat} {t : List UInt8} (h : quo u m 0 [] = some (t, j)) : qmV u m = .tuple #[.string ⟨t.toArray⟩, .int .i64 j] := by unfold qmV; rw [h]

/-- The byte that is meant behind a backslash, or 0. -/
def escN (c : Nat) : Nat := match esc c with
  | some x => x.toNat
  | none => 0
theorem escN_none {c : Nat} (h : esc c = none) : escN c = 0 := by unfold escN; rw [h]
theorem escN_some {c : Nat} {x : UInt8} (h : esc c = some x) : escN c = x.toNat := by unfold escN; rw [h]

theorem iEsc (c : Nat) (w : World) : Calls Tryz.prog 151 #[.int .i32 c] w fun e w' => e = .returned (.int .u8 (escN c)) ∧ w' = w := by
  by_cases h1 : c = 110
  · subst h1
    go_enter Tryz.func151, Tryz.ntmps151
    go_wp2
    go_ret
    exact ⟨rfl, rfl⟩
  · have z1 : ((c : Int) == 110) = false := by simp; omega
    by_cases h2 : c = 92
    · subst h2
      go_enter Tryz.func151, Tryz.ntmps151
      go_wp2
      go_ret
      exact ⟨rfl, rfl⟩
    · have z2 : ((c : Int) == 92) = false := by simp; omega
      by_cases h3 : c = 39
      · subst h3
        go_enter Tryz.func151, Tryz.ntmps151
        go_wp2
        go_ret
        exact ⟨rfl, rfl⟩
      · have z3 : ((c : Int) == 39) = false := by simp; omega
        by_cases h4 : c = 34
        · subst h4
          go_enter Tryz.func151, Tryz.ntmps151
          go_wp2
          go_ret
          exact ⟨rfl, rfl⟩
        · have z4 : ((c : Int) == 34) = false := by simp; omega
          have he : Hid (esc c = none) := by unfold Hid esc; rw [if_neg h1, if_neg h2, if_neg h3, if_neg h4]
          clear h1 h2 h3 h4
          go_enter Tryz.func151, Tryz.ntmps151
          go_wp2
          go_ret
          exact ⟨by rw [escN_none he.out]; rfl, rfl⟩

end Go.Proofs.YtjfoagmenehapaaGreatDoor

namespace Go.Proofs.YtjfoagmenehapaaGreatDoor
open Go.RowKit Go.Joins

/-- Where the reading of quoted text stands: at a place, or behind a backslash. -/
def QAt (u : ByteArray) (m pos : Nat) (f : Bool) (acc : List UInt8) : Prop :=
  if f = true then 1 ≤ pos ∧ bt u (pos - 1) = 92 ∧ quo u m (pos - 1) acc = quo u m 0 [] else quo u m pos acc = quo u m 0 []

theorem put_byte (B b : Nat) (l : List UInt8) (c : UInt8) (w : World) (h : Lib.IsBuilderF 116 5 B b (Lib.byteCells l) w) (hl : l.length + 1 ≤ 70368744177664) (hBw : B ≤ w.heap.size) :
    Calls Tryz.prog 87 #[.pointer (some ⟨b, 0, none⟩), .int .u8 (c.toNat : Int)] w fun e w' => e = .returned .nilIface ∧ Lib.IsBuilderF 116 5 B b (Lib.byteCells (l ++ [c])) w' ∧ Below B w w' ∧ Lib.OthersKept 5 (some b) w w' := by
  refine (writeByte_any B b _ (c.toNat : Int) w h (by rw [Lib.byteCells_length]; omega) hBw).mono ?_
  rintro e w' ⟨rfl, hw⟩
  refine ⟨rfl, ?_, hw.2⟩
  rw [Lib.byteCells_append]
  exact .inr hw.1

set_option maxHeartbeats 2000000 in
set_option maxRecDepth 100000 in
theorem iMeant (u : ByteArray) (m : Nat) (w : World) (hu : u.size ≤ 1048576) (hm : m = 39 ∨ m = 34) :
    Calls Tryz.prog 145 #[.string u, .int .i32 m] w fun e w' => e = .returned (qmV u m) ∧ Below w.heap.size w w' := by
  go_enter Tryz.func145, Tryz.ntmps145
  go_wp2_with fail
  go_loopw [7, 8, 9, 10] (fun s7 _ _ _ wr => ∃ (pos : Nat) (f : Bool) (acc : List UInt8), s7 = .bool f ∧ pos ≤ u.size ∧ acc.length ≤ pos ∧ Hid (QAt u m pos f acc) ∧ Lib.IsBuilderF 116 5 w.heap.size w.heap.size (Lib.byteCells acc) wr ∧ wr.heap[w.heap.size + 1]? = some (.stringIter u pos) ∧ Below w.heap.size w wr) (fun _ _ _ _ wr => u.size - wr.iterPos (w.heap.size + 1))
  case atStart =>
    refine ⟨0, false, [], rfl, Nat.zero_le _, by simp, by unfold Hid QAt; rw [if_neg (by decide)], (Lib.IsBuilderF.of (Lib.fresh_isBuilder 116 5 w)).alloc _, ?_, ((Below.refl _ w).alloc (Nat.le_refl _) _).alloc (by simp) _⟩
    have := World.iter_heap (w.alloc (.cells #[.pointer none, .slice none 0 0] 116)) u 0
    simpa using this
  case round =>
    obtain ⟨pos, f, acc, rfl, g1, g2, hq, hI, hit, hb⟩ := hrel
    have hzw : w.heap.size + 1 < wr.heap.size := (Array.getElem?_eq_some_iff.1 hit).1
    by_cases hlt : pos < u.size
    · have hnx : ∀ ty, (Instr.next (.pointer (some ⟨w.heap.size + 1, 0, none⟩)) true ty).run Tryz.prog wr = _ := fun ty => Lib.run_next_any_at wr (w.heap.size + 1) u pos ty hit hlt
      have hD : 1 ≤ (Utf8.decode u pos).2 ∧ (bt u pos < 128 → (Utf8.decode u pos).1 = bt u pos ∧ (Utf8.decode u pos).2 = 1) ∧ (128 ≤ bt u pos → 128 ≤ (Utf8.decode u pos).1) ∧ (Utf8.decode u pos).1 ≤ 2147483647 := by
        by_cases hl : bt u pos < 128
        · rw [dec_low hlt hl]
          exact ⟨Nat.le_refl _, fun _ => ⟨rfl, rfl⟩, fun hh => by omega, by simp only; omega⟩
        · obtain ⟨h1, h2, h3, h4, h5⟩ := dec_high hlt (by omega)
          exact ⟨h3, fun hh => by omega, fun _ => h1, by omega⟩
      obtain ⟨w1, w2, w3, w4⟩ := hD
      generalize (Utf8.decode u pos).1 = c at *
      generalize (Utf8.decode u pos).2 = wd at *
      have hit2 := Lib.iterAt_heap wr (w.heap.size + 1) u pos (pos + wd) hit
      have hI2 := hI.iterAt hit (pos + wd)
      have hb2 := Lib.below_iterAt hb (k := w.heap.size + 1) (by omega) u (pos + wd)
      have hz2 : w.heap.size ≤ (wr.iterAt (w.heap.size + 1) u (pos + wd)).heap.size := by rw [Lib.iterAt_size]; omega
      have HW2 := hide w2
      have HW3 := hide w3
      have hQ := hq.out
      unfold QAt at hQ
      clear w2 w3
      cases f
      · rw [if_neg (by decide)] at hQ
        have hQ0 := hQ
        rw [quo, if_neg (by omega)] at hQ
        by_cases e1 : bt u pos = m
        · rw [if_pos e1] at hQ
          have en : Hid (qmV u m = .tuple #[.string ⟨acc.toArray⟩, .int .i64 ((pos + 1 : Nat) : Int)]) := qmV_some hQ.symm
          have hcc := (HW2.out (by omega)).1
          have z1 : ((c : Int) == (m : Int)) = true := by simp; omega
          clear hQ hQ0 hcc e1
          go_wp2_with fail
          refine (Tryz.Builder_String_any_k w.heap.size w.heap.size acc _ hI2 hz2).mono ?_
          rintro e w6 ⟨rfl, h6, b6, o6⟩
          go_wp2_with fail
          go_ret2
          exact ⟨by rw [en.out]; exact congrArg Ending.returned (by simp), hb2.trans b6⟩
        · rw [if_neg e1] at hQ
          have z1 : ((c : Int) == (m : Int)) = false := by
            by_cases hl : bt u pos < 128
            · have := (HW2.out hl).1; simp; omega
            · have := HW3.out (by omega); simp; omega
          by_cases e2 : bt u pos = 92
          · have hcc := HW2.out (by omega)
            have z2 : ((c : Int) == 92) = true := by simp; omega
            have HWD := hide hcc.2
            have HQ0 := hide hQ0
            have HE2 := hide e2
            clear hQ hQ0 hcc e1 e2
            go_wp2_with fail
            go_roundw
            case rel =>
              have hwd := HWD.out
              refine ⟨pos + wd, true, acc, rfl, by omega, by omega, ?_, hI2, hit2, hb2⟩
              unfold Hid QAt
              rw [if_pos rfl, hwd, show pos + 1 - 1 = pos by omega]
              exact ⟨by omega, HE2.out, HQ0.out⟩
            case measure =>
              simp only [World.iterPos, hit2, hit]
              omega
          · have z2 : ((c : Int) == 92) = false := by
              by_cases hl : bt u pos < 128
              · have := (HW2.out hl).1; simp; omega
              · have := HW3.out (by omega); simp; omega
            by_cases e3 : bt u pos < 32 ∨ 126 < bt u pos
            · rw [if_pos e3] at hQ
              have en : Hid (qmV u m = .tuple #[.string ⟨#[]⟩, .int .i64 0]) := qmV_none hQ.symm
              by_cases e4 : bt u pos < 32
              · have hcc := (HW2.out (by omega)).1
                have z3 : decide ((c : Int) < 32) = true := by simp; omega
                clear hQ hQ0 e1 e2 e3 e4 hcc
                go_wp2_with fail
                go_ret2
                exact ⟨by rw [en.out]; rfl, hb2⟩
              · have z3 : decide ((c : Int) < 32) = false := by
                  by_cases hl : bt u pos < 128
                  · have := (HW2.out hl).1; simp; omega
                  · have := HW3.out (by omega); simp; omega
                have z4 : decide (126 < (c : Int)) = true := by
                  by_cases hl : bt u pos < 128
                  · have := (HW2.out hl).1; simp; omega
                  · have := HW3.out (by omega); simp; omega
                clear hQ hQ0 e1 e2 e3 e4
                go_wp2_with fail
                go_ret2
                exact ⟨by rw [en.out]; rfl, hb2⟩
            · rw [if_neg e3, if_neg e2] at hQ
              have hcc := HW2.out (by omega)
              have z3 : decide ((c : Int) < 32) = false := by simp; omega
              have z4 : decide (126 < (c : Int)) = false := by simp; omega
              obtain ⟨x, hx⟩ : ∃ x : UInt8, x = UInt8.ofNat (bt u pos) := ⟨_, rfl⟩
              have hxc : (c : Int) = (x.toNat : Int) := by rw [hx, hcc.1]; simp; omega
              have hcv : (convert 21 5 (.int .i32 (c : Int))).run Tryz.prog (wr.iterAt (w.heap.size + 1) u (pos + wd)) = .ok (.int .u8 (x.toNat : Int)) (wr.iterAt (w.heap.size + 1) u (pos + wd)) := by
                rw [← hxc]
                have : (c : Int) < 256 := by omega
                simp [go_sem, convert, IntKind.wrap, IntKind.bits, IntKind.signed]
                omega
              rw [← hx] at hQ
              have HQ := hide hQ
              have HWD := hide hcc.2
              clear hQ hQ0 e1 e2 e3 hcc hx hxc
              go_wp2_with fail
              refine (put_byte w.heap.size w.heap.size acc x _ hI2 (by omega) hz2).mono ?_
              rintro e w6 ⟨rfl, h6, b6, o6⟩
              have hit6 := o6.iter hit2 (by omega)
              go_wp2_with fail
              go_roundw
              case rel =>
                have hwd := HWD.out
                refine ⟨pos + wd, false, acc ++ [x], rfl, by omega, by simp; omega, ?_, h6, hit6, hb2.trans b6⟩
                unfold Hid QAt
                rw [if_neg (by decide), hwd]
                exact HQ.out
              case measure =>
                simp only [World.iterPos, hit6, hit]
                omega
      · rw [if_pos rfl] at hQ
        obtain ⟨k1, k2, k3⟩ := hQ
        rw [quo, if_neg (by omega), if_neg (by rw [k2]; omega), if_neg (by omega), if_pos k2, if_neg (by omega), show pos - 1 + 1 = pos by omega, show pos - 1 + 2 = pos + 1 by omega] at k3
        rcases q : esc (bt u pos) with _ | x
        · rw [q] at k3
          have en : Hid (qmV u m = .tuple #[.string ⟨#[]⟩, .int .i64 0]) := qmV_none k3.symm
          have hec : escN c = 0 := by
            apply escN_none
            by_cases hl : bt u pos < 128
            · rw [(HW2.out hl).1]; exact q
            · have := HW3.out (by omega)
              unfold esc
              rw [if_neg (by omega), if_neg (by omega), if_neg (by omega), if_neg (by omega)]
          clear k3
          go_wp2_with fail
          refine (iEsc c _).mono ?_
          rintro e w5 ⟨rfl, hw5⟩
          obtain rfl := hw5.symm
          rw [hec]
          go_wp2_with fail
          go_ret2
          exact ⟨by rw [en.out]; rfl, hb2⟩
        · rw [q] at k3
          simp only at k3
          have hl : bt u pos < 128 := by
            unfold esc at q
            split at q
            · omega
            · split at q
              · omega
              · split at q
                · omega
                · split at q
                  · omega
                  · cases q
          obtain ⟨hcc, hwd⟩ := HW2.out hl
          have hec : escN c = x.toNat := by rw [hcc]; exact escN_some q
          have hx0 : ((x.toNat : Int) == 0) = false := by
            have : x ≠ 0 := by
              intro hx
              subst hx
              unfold esc at q
              split at q
              · cases q
              · split at q
                · cases q
                · split at q
                  · cases q
                  · split at q
                    · cases q
                    · cases q
            simp
            intro hh
            exact this (UInt8.toNat_inj.1 (by simpa using hh))
          have HWD := hide hwd
          have HK3 := hide k3
          clear k3 hcc hwd
          go_wp2_with fail
          refine (iEsc c _).mono ?_
          rintro e w5 ⟨rfl, hw5⟩
          obtain rfl := hw5.symm
          rw [hec]
          go_wp2_with fail
          refine (put_byte w.heap.size w.heap.size acc x _ hI2 (by omega) hz2).mono ?_
          rintro e w6 ⟨rfl, h6, b6, o6⟩
          have hit6 := o6.iter hit2 (by omega)
          go_wp2_with fail
          go_roundw
          case rel =>
            have hwd := HWD.out
            refine ⟨pos + wd, false, acc ++ [x], rfl, by omega, by simp; omega, ?_, h6, hit6, hb2.trans b6⟩
            unfold Hid QAt
            rw [if_neg (by decide), hwd]
            exact HK3.out
          case measure =>
            simp only [World.iterPos, hit6, hit]
            omega
    · have hnx : ∀ ty, (Instr.next (.pointer (some ⟨w.heap.size + 1, 0, none⟩)) true ty).run Tryz.prog wr = _ := fun ty => Lib.run_next_end_at wr (w.heap.size + 1) u pos ty hit hlt
      have en : Hid (qmV u m = .tuple #[.string ⟨#[]⟩, .int .i64 0]) := by
        have hQ := hq.out
        unfold QAt at hQ
        cases f
        · rw [if_neg (by decide), quo, if_pos (by omega)] at hQ
          exact qmV_none hQ.symm
        · rw [if_pos rfl] at hQ
          obtain ⟨k1, k2, k3⟩ := hQ
          rw [quo, if_neg (by omega), if_neg (by rw [k2]; omega), if_neg (by omega), if_pos k2, if_pos (by omega)] at k3
          exact qmV_none k3.symm
      clear hq
      go_wp2_with fail
      go_ret2
      exact ⟨by rw [en.out]; rfl, hb⟩

end Go.Proofs.YtjfoagmenehapaaGreatDoor

namespace Go.Proofs.YtjfoagmenehapaaGreatDoor
open Go.RowKit Go.Joins

theorem put_rune (B b : Nat) (l : List UInt8) (c : UInt8) (hc : c.toNat < 128) (w : World) (h : Lib.IsBuilderF 116 5 B b (Lib.byteCells l) w) (hl : l.length + 1 ≤ 1048576 * 4) (hBw : B ≤ w.heap.size) :
    Calls Tryz.prog 85 #[.pointer (some ⟨b, 0, none⟩), .int .i32 (c.toNat : Int)] w fun e w' => (∃ x y, e = .returned (.tuple #[x, y])) ∧ Lib.IsBuilderF 116 5 B b (Lib.byteCells (l ++ [c])) w' ∧ Below B w w' := by
  refine (writeRune_low B b _ c.toNat hc w h (by rw [Lib.byteCells_length]; omega) hBw).mono ?_
  rintro e w' ⟨rfl, hw⟩
  refine ⟨⟨_, _, rfl⟩, ?_, hw.2.1⟩
  rw [Lib.byteCells_append]
  exact .inr hw.1

theorem put_two (B b : Nat) (l : List UInt8) (w : World) (h : Lib.IsBuilderF 116 5 B b (Lib.byteCells l) w) (hl : l.length + 2 ≤ 70368744177664) (hBw : B ≤ w.heap.size) :
    Calls Tryz.prog 86 #[.pointer (some ⟨b, 0, none⟩), .string ⟨#[92, 110]⟩] w fun e w' => (∃ x y, e = .returned (.tuple #[x, y])) ∧ Lib.IsBuilderF 116 5 B b (Lib.byteCells (l ++ [92, 110])) w' ∧ Below B w w' := by
  refine (writeString_any B b _ ⟨#[92, 110]⟩ w h (by rw [Lib.byteCells_length]; show l.length + 2 ≤ _; omega) hBw).mono ?_
  rintro e w' ⟨he, hw⟩
  refine ⟨⟨_, _, he⟩, ?_, hw.2.1⟩
  rw [Lib.byteCells_append]
  exact .inr hw.1

set_option maxHeartbeats 2000000 in
set_option maxRecDepth 100000 in
theorem iQuote (s : ByteArray) (m : UInt8) (hm : m.toNat < 128) (w : World) (hs : s.size ≤ 60000) : Calls Tryz.prog 61 #[.string s, .int .i32 m.toNat] w fun e w' => e = .returned (.string ⟨(escT m s).toArray⟩) ∧ Below w.heap.size w w' := by
  have hm' : (m.toNat : Int) < 128 := by omega
  have H0 := hide (put_rune w.heap.size w.heap.size [] m hm (w.alloc (.cells #[.pointer none, .slice none 0 0] 116)) (Lib.IsBuilderF.of (Lib.fresh_isBuilder 116 5 w)) (by simp) (by simp))
  go_enter Tryz.func61, Tryz.ntmps61
  go_wp2_with fail
  refine H0.out.mono ?_
  rintro e w0 ⟨⟨x0, y0, rfl⟩, hI0, b0⟩
  have hb0 : Below w.heap.size w w0 := (below_alloc1 w _).trans b0
  clear H0 b0
  go_wp2_with fail
  go_loopw [6, 7, 12, 21, 24] (fun _ _ i _ _ wr => ∃ (j : Nat) (acc : List UInt8), i = .int .i64 j ∧ j ≤ s.size ∧ acc.length ≤ 2 * j + 1 ∧ Hid (acc ++ (s.data.toList.drop j).flatMap (escB m) ++ [m] = escT m s) ∧ Hid (Lib.IsBuilderF 116 5 w.heap.size w.heap.size (Lib.byteCells acc) wr) ∧ Below w.heap.size w wr) (fun _ _ i _ _ _ => s.size - (intOf i).toNat)
  case atStart => exact ⟨0, [m], rfl, Nat.zero_le _, by simp, by unfold Hid escT; simp, hI0, hb0⟩
  case round =>
    obtain ⟨j, acc, rfl, hj, hal, hq, HIw, hb⟩ := hrel
    have hzw := hb.size
    by_cases hlt : j < s.size
    · have hlt' : (j : Int) < s.size := by omega
      have hQ := hq.out
      rw [drop_at hlt, List.flatMap_cons, ← List.append_assoc] at hQ
      by_cases e1 : s[j].toNat = 10
      · have hE : escB m s[j] = [92, 110] := by unfold escB; rw [if_pos e1]
        rw [hE] at hQ
        have HQ := hide hQ
        have HP := hide (put_two w.heap.size w.heap.size acc wr HIw.out (by omega) hzw)
        clear hQ hE
        go_wp2_with fail
        refine HP.out.mono ?_
        rintro e w2 ⟨⟨x2, y2, rfl⟩, hI2, b2⟩
        have HI2 := hide hI2
        clear hI2
        go_wp2_with fail
        go_roundw
        case rel => exact ⟨j + 1, acc ++ [92, 110], by go_num, by omega, by simp; omega, HQ, HI2, hb.trans b2⟩
        case measure => simp [intOf]; omega
      · have z1 : ((s[j].toNat : Int) == 10) = false := by simp; omega
        by_cases e2 : s[j].toNat = 92 ∨ s[j] = m
        · have hE : escB m s[j] = [92] ++ [s[j]] := by unfold escB; rw [if_neg e1, if_pos e2]; rfl
          rw [hE, ← List.append_assoc] at hQ
          have HQ := hide hQ
          have HP := hide (put_byte w.heap.size w.heap.size acc 92 wr HIw.out (by omega) hzw)
          have HP2 : Hid (∀ w2, Lib.IsBuilderF 116 5 w.heap.size w.heap.size (Lib.byteCells (acc ++ [92])) w2 → w.heap.size ≤ w2.heap.size → _) := fun w2 h2 z2 => put_byte w.heap.size w.heap.size (acc ++ [92]) s[j] w2 h2 (by simp; omega) z2
          have HAL : Hid ((acc ++ [92] ++ [s[j]]).length ≤ 2 * (j + 1) + 1) := by unfold Hid; simp; omega
          clear hQ hE
          by_cases e3 : s[j].toNat = 92
          · have z2 : ((s[j].toNat : Int) == 92) = true := by rw [e3]; rfl
            clear e1 e2 e3
            go_wp2_with fail
            refine HP.out.mono ?_
            rintro e w2 ⟨rfl, hI2, b2, -⟩
            have hz2 := (hb.trans b2).size
            have HI2 := hide hI2
            clear hI2
            go_wp2_with fail
            refine (HP2.out w2 HI2.out hz2).mono ?_
            rintro e w3 ⟨rfl, hI3, b3, -⟩
            have HI3 := hide hI3
            clear hI3
            go_wp2_with fail
            go_roundw
            case rel => exact ⟨j + 1, acc ++ [92] ++ [s[j]], by go_num, by omega, HAL.out, HQ, HI3, (hb.trans b2).trans b3⟩
            case measure => simp [intOf]; omega
          · have z2 : ((s[j].toNat : Int) == 92) = false := by simp; omega
            have e4 : s[j] = m := by rcases e2 with h | h; exact absurd h e3; exact h
            have z3 : ((s[j].toNat : Int) == (m.toNat : Int)) = true := by rw [e4]; simp
            clear e1 e2 e3 e4
            go_wp2_with fail
            refine HP.out.mono ?_
            rintro e w2 ⟨rfl, hI2, b2, -⟩
            have hz2 := (hb.trans b2).size
            have HI2 := hide hI2
            clear hI2
            go_wp2_with fail
            refine (HP2.out w2 HI2.out hz2).mono ?_
            rintro e w3 ⟨rfl, hI3, b3, -⟩
            have HI3 := hide hI3
            clear hI3
            go_wp2_with fail
            go_roundw
            case rel => exact ⟨j + 1, acc ++ [92] ++ [s[j]], by go_num, by omega, HAL.out, HQ, HI3, (hb.trans b2).trans b3⟩
            case measure => simp [intOf]; omega
        · have hE : escB m s[j] = [s[j]] := by unfold escB; rw [if_neg e1, if_neg e2]
          rw [hE] at hQ
          have HQ := hide hQ
          have z2 : ((s[j].toNat : Int) == 92) = false := by simp; omega
          have z3 : ((s[j].toNat : Int) == (m.toNat : Int)) = false := by
            simp
            intro h
            exact e2 (.inr (UInt8.toNat_inj.1 (by omega)))
          have HP := hide (put_byte w.heap.size w.heap.size acc s[j] wr HIw.out (by omega) hzw)
          clear hQ hE e1 e2
          go_wp2_with fail
          refine HP.out.mono ?_
          rintro e w2 ⟨rfl, hI2, b2, -⟩
          have HI2 := hide hI2
          clear hI2
          go_wp2_with fail
          go_roundw
          case rel => exact ⟨j + 1, acc ++ [s[j]], by go_num, by omega, by simp; omega, HQ, HI2, hb.trans b2⟩
          case measure => simp [intOf]; omega
    · have hlt' : ¬ (j : Int) < s.size := by omega
      have hE : acc ++ [m] = escT m s := by
        have := hq.out
        rwa [List.drop_eq_nil_of_le (by simp; show s.size ≤ j; omega), List.flatMap_nil, List.append_nil] at this
      have HE := hide hE
      clear hE
      have HP := hide (put_rune w.heap.size w.heap.size acc m hm wr HIw.out (by omega) hzw)
      go_wp2_with fail
      refine HP.out.mono ?_
      rintro e w2 ⟨⟨x2, y2, rfl⟩, hI2, b2⟩
      have hz2 := (hb.trans b2).size
      have HS := hide (Tryz.Builder_String_any_k w.heap.size w.heap.size (acc ++ [m]) w2 hI2 hz2)
      clear hI2
      go_wp2_with fail
      refine HS.out.mono ?_
      rintro e w3 ⟨rfl, -, b3, -⟩
      go_wp2_with fail
      go_ret
      exact ⟨by rw [← HE.out]; rfl, (hb.trans b2).trans b3⟩

end Go.Proofs.YtjfoagmenehapaaGreatDoor

