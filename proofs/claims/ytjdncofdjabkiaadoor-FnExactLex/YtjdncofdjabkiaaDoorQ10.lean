import Derived.Test.YtjdncofdjabkiaaDoorQ09
import Derived.Test.YtjdncofdjabkiaaDoorQ02
namespace Go.Proofs.YtjdncofdjabkiaaDoor
open Go.RowKit Go.Joins

/-- The kind of a kept text, else 0. -/
def kk (t : ByteArray) : Nat := if word t = true then 8 else if mark t = true then 9 else 0

/-- The kept texts lie in block mb. -/
def KM (w : World) (mb : Nat) : Prop := ∃ o, w.heap[mb]? = some o ∧ (∀ c t fz, o ≠ .cells c t fz) ∧
  ∀ (w' : World) (t : ByteArray), w'.heap[mb]? = some o → t.size ≤ maxLen → (Instr.lookup 49 (.map (some mb)) (.string t) false).run Tryd.prog w' = .ok (.int .i64 (kk t)) w'

theorem KM.keep {w w' : World} {mb : Nat} (h : KM w mb) (hb : w'.heap[mb]? = w.heap[mb]?) : KM w' mb := by
  obtain ⟨o, h1, h2, h3⟩ := h
  exact ⟨o, hb.trans h1, h2, h3⟩
theorem KM.run {w : World} {mb : Nat} (h : KM w mb) (t : ByteArray) (ht : t.size ≤ maxLen) : (Instr.lookup 49 (.map (some mb)) (.string t) false).run Tryd.prog w = .ok (.int .i64 (kk t)) w := by
  obtain ⟨o, h1, h2, h3⟩ := h
  exact h3 w t h1 ht
theorem KM.below {w w' : World} {mb B : Nat} (h : KM w mb) (hb : Below B w w') (hm : mb < B) : KM w' mb := h.keep (hb.block mb hm)
theorem KM.drew {w : World} {mb : Nat} (h : KM w mb) : KM w.drew mb := h

/-- What adding a token leaves. -/
def Added (b : Nat) (s : ByteArray) (mb e ln ls n : Nat) (T : List To) (w w' : World) : Prop :=
  (∃ ao' cap', Sc w' b s mb e ln ls (.slice ao' n cap') ∧ TR (b + 1) w' ao' cap' n T) ∧ KB b w w'

set_option maxHeartbeats 1000000 in
set_option maxRecDepth 100000 in
theorem iAdd (b : Nat) (s : ByteArray) (a m : Nat) (mb : Nat) (nx ln ls cl : Nat) (ao : Option Addr) (cp n : Nat) (T : List To) (k : Nat) (w : World) (h : Sc w b s mb nx ln ls (.slice ao n cp)) (hT : TR (b + 1) w ao cp n T)
    (hl : T.length ≤ 1048576) (hs : s.size ≤ 1048576) (ha : a ≤ m) (hm : m ≤ s.size) (hc : (a : Int) - ls + 1 = cl) (h0 : 1 ≤ cl) (h1 : cl ≤ 1048577) :
    Calls Tryd.prog 73 #[.pointer (some ⟨b, 0, none⟩), .int .i64 k, .int .i64 a, .int .i64 m] w fun e w' => e = .returned (.tuple #[]) ∧ Added b s mb m ln ls (n + 1) (T ++ [⟨k, s.extract a m, ln, cl⟩]) w w' := by
  obtain ⟨c0, c1, c2, c3, c4, c5, fr, lt⟩ := id h
  have ha' : (a : Int) ≤ m := by omega
  have hm' : (m : Int) ≤ s.size := by omega
  have hcl : ∀ w1, Calls Tryd.prog 56 #[.string (s.extract a m)] w1 fun e w' => e = .returned (.string (s.extract a m)) ∧ Below w1.heap.size w1 w' := fun w1 => by
    have := Tryd.stringslite_Clone (s.extract a m) w1 (by rw [ByteArray.size_extract]; omega)
    go_enter Tryd.func56, Tryd.ntmps56
    go_wp2_with fail
    refine this.mono ?_
    rintro e w2 ⟨rfl, b2⟩
    go_wp2_with fail
    go_ret
    exact ⟨rfl, b2⟩
  have HCL := hide hcl
  clear hcl
  have HC := hide hc
  clear hc
  go_enter Tryd.func73, Tryd.ntmps73
  go_wp2_with fail
  refine (HCL.out w).mono ?_
  rintro e w1 ⟨rfl, b1⟩
  go_wp2_with fail
  refine (iMeaning b s a m mb nx ln ls cl ao cp n T k (s.extract a m) w1 (h.below b1 lt) (hT.below b1) hl HC.out h0 h1).mono ?_
  rintro e w2 ⟨rfl, h2, k2⟩
  go_wp2_with fail
  go_end0
  exact ⟨rfl, h2, (KB.of (Nat.le_of_lt lt) b1).trans k2⟩

set_option maxHeartbeats 1000000 in
set_option maxRecDepth 100000 in
theorem iUnless (b : Nat) (s : ByteArray) (a m : Nat) (mb : Nat) (nx ln ls cl : Nat) (ao : Option Addr) (cp n : Nat) (T : List To) (k : Nat) (w : World) (h : Sc w b s mb nx ln ls (.slice ao n cp)) (hT : TR (b + 1) w ao cp n T) (hK : KM w mb)
    (hl : T.length ≤ 1048576) (hs : s.size ≤ 1048576) (ha : a ≤ m) (hm : m ≤ s.size) (hc : (a : Int) - ls + 1 = cl) (h0 : 1 ≤ cl) (h1 : cl ≤ 1048577) :
    Calls Tryd.prog 82 #[.pointer (some ⟨b, 0, none⟩), .int .i64 k, .int .i64 a, .int .i64 m] w fun e w' => e = .returned (.tuple #[]) ∧ Added b s mb m ln ls (n + 1) (T ++ [⟨if kk (s.extract a m) = 0 then k else kk (s.extract a m), s.extract a m, ln, cl⟩]) w w' := by
  obtain ⟨c0, c1, c2, c3, c4, c5, fr, lt⟩ := id h
  have ha' : (a : Int) ≤ m := by omega
  have hm' : (m : Int) ≤ s.size := by omega
  have hlk := hK.drew.run (s.extract a m) (by rw [ByteArray.size_extract]; unfold maxLen; omega)
  have hd : Below w.heap.size w w.drew := (Below.refl _ w).drew
  have hA := fun k => hide (iAdd b s a m mb nx ln ls cl ao cp n T k w.drew (h.drewN 1) (hT.drewN 1) hl hs ha hm hc h0 h1)
  have HA := hide hA
  clear hA hc
  by_cases hz : kk (s.extract a m) = 0
  · rw [hz] at hlk
    rw [if_pos hz]
    clear hz
    go_enter Tryd.func82, Tryd.ntmps82
    go_wp2_with fail
    go_region
    all_goals
      go_wp2_with fail
      refine (HA.out k).out.mono ?_
      rintro e w2 ⟨rfl, h2, k2⟩
      go_wp2_with fail
      go_end0
      exact ⟨rfl, h2, (KB.of (Nat.le_of_lt lt) hd).trans k2⟩
  · rw [if_neg hz]
    generalize kk (s.extract a m) = q at *
    have hq : ((q : Int) == 0) = false := by simp; omega
    clear hz
    go_enter Tryd.func82, Tryd.ntmps82
    go_wp2_with fail
    go_region
    all_goals
      go_wp2_with fail
      refine (HA.out q).out.mono ?_
      rintro e w2 ⟨rfl, h2, k2⟩
      go_wp2_with fail
      go_end0
      exact ⟨rfl, h2, (KB.of (Nat.le_of_lt lt) hd).trans k2⟩

end Go.Proofs.YtjdncofdjabkiaaDoor

namespace Go.Proofs.YtjdncofdjabkiaaDoor
open Go.RowKit Go.Joins

/-- No rune reaches over the place. -/
def Bd (s : ByteArray) (q : Nat) : Prop := (q = s.size ∨ q = 0) ∨ bt s q < 128 ∨ (0 < q ∧ bt s (q - 1) < 128)

/-- A place was read well: a token more, or none. -/
def RG (s : ByteArray) (p b mb ln ls : Nat) (T : List To) (w w' : World) : Prop :=
  ∃ (nx : Nat) (T' : List To) (ao : Option Addr) (cp n : Nat), nx ≤ s.size ∧ Bd s nx ∧ T'.length ≤ 1 ∧ lexF s p = (T' ++ (lexF s (max nx (p + 1))).1, (lexF s (max nx (p + 1))).2) ∧ Sc w' b s mb nx ln ls (.slice ao n cp) ∧ TR (b + 1) w' ao cp n (T ++ T') ∧ KB b w w'

/-- Nothing can be read there. -/
def RB (s : ByteArray) (p b mb ln ls c : Nat) (w w' : World) : Prop := c ≠ 0 ∧ lexF s p = ([], c, p) ∧ (∃ nx v, Sc w' b s mb nx ln ls v) ∧ KB b w w'

/-- The program stands at a place of a text. -/
structure At (s : ByteArray) (p b mb nx ln ls : Nat) (ao : Option Addr) (cp n : Nat) (T : List To) (w : World) : Prop where
  sc : Sc w b s mb nx ln ls (.slice ao n cp)
  tr : TR (b + 1) w ao cp n T
  km : KM w mb
  mlt : mb < b
  tl : T.length ≤ p
  sz : s.size ≤ 60000
  lt : p < s.size
  nxp : nx ≤ p
  line : ln = pl s p
  col : (p : Int) - ls + 1 = pc s p
  bd : Bd s nx

theorem pc_pos (s : ByteArray) : ∀ i, 1 ≤ pc s i
  | 0 => Nat.le_refl _
  | i + 1 => by unfold pc; split <;> omega

theorem At.next {s p b mb nx ln ls ao cp n T w w'} (h : At s p b mb nx ln ls ao cp n T w) (k : Below w.heap.size w w') : At s p b mb nx ln ls ao cp n T w' :=
  ⟨h.sc.below k h.sc.lt, h.tr.below k, h.km.below k (Nat.lt_trans h.mlt h.sc.lt), h.mlt, h.tl, h.sz, h.lt, h.nxp, h.line, h.col, h.bd⟩

theorem bt_ext (s : ByteArray) (a i : Nat) (ha : a ≤ s.size) : bt (s.extract a s.size) i = bt s (a + i) := by
  by_cases h : i < s.size - a
  · exact bt_extract s a s.size i (Nat.le_refl _) h
  · unfold bt
    rw [dif_neg (by rw [ByteArray.size_extract]; omega), dif_neg (by omega)]

theorem rl_ext (p : Nat → Bool) (s : ByteArray) (a : Nat) (ha : a ≤ s.size) : rl p (s.extract a s.size) 0 = rl p s a := by
  have hz : (s.extract a s.size).size = s.size - a := by rw [ByteArray.size_extract]; omega
  have h := rl_run p s a ha
  have hr : Run p (s.extract a s.size) 0 (rl p s a) := by
    refine ⟨by rw [hz]; have := h.le; omega, fun i hi => ?_, fun hx => ?_⟩
    · rw [Nat.zero_add, bt_ext s a i ha]; exact h.all i hi
    · rw [Nat.zero_add, bt_ext s a _ ha]; exact h.stop (by rw [hz] at hx; omega)
  exact hr.rl.symm

theorem stop_of {s : ByteArray} {p : Nat} (hp : p < s.size) (h1 : bt s p ≠ 32) (h2 : bt s p ≠ 10) (h3 : bt s p ≠ 123) (h4 : bt s p ≠ 45) : blank s p = (p, true) := by
  refine blank_stop hp (by omega) ?_ ?_
  · unfold two
    simp; omega
  · unfold dash
    have : rl (fun c => c == 45) s p = 0 := by rw [rl, if_neg (by omega), if_neg (by simpa using h4)]
    rw [this]; simp

theorem rg_tok {s : ByteArray} {p b mb ln ls k m n : Nat} {t : ByteArray} {T : List To} {w w' : World} (hp : p < s.size) (hb : blank s p = (p, true)) (ht : tok s p = .ok k t m) (hbd : Bd s (p + m)) (hA : Added b s mb (p + m) ln ls n (T ++ [⟨k, t, pl s p, pc s p⟩]) w w') :
    RG s p b mb ln ls T w w' := by
  obtain ⟨⟨ao', cap', h1, h2⟩, h3⟩ := hA
  have hm := tok_len hp ht
  have e : max (p + m) (p + 1) = p + m := by omega
  refine ⟨p + m, [⟨k, t, pl s p, pc s p⟩], ao', cap', n, hm.2.1, hbd, Nat.le_refl _, ?_, h1, h2, h3⟩
  rw [e, lex_ok hp hb ht]
  rfl

theorem bd_run {q : Nat → Bool} (hq : ∀ c, q c = true → c < 128) {s : ByteArray} {p : Nat} (hp : p < s.size) (h : q (bt s p) = true) : Bd s (p + rl q s p) := by
  have h1 := rl_pos hp h
  have h2 := (rl_run q s p (by omega)).all (rl q s p - 1) (by omega)
  refine .inr (.inr ⟨by omega, ?_⟩)
  rw [show p + rl q s p - 1 = p + (rl q s p - 1) by omega]
  exact hq _ h2

theorem ins_low (c : Nat) (h : ins c = true) : c < 128 := by simp [ins, sml, cap, dig] at h; omega
theorem dig_low (c : Nat) (h : dig c = true) : c < 128 := by simp [dig] at h; omega
theorem sym_low (c : Nat) (h : sym c = true) : c < 128 := by simp [sym] at h; omega

theorem word_sml {t : ByteArray} (h : word t = true) : sml (bt t 0) = true := by
  unfold word at h
  rw [List.any_eq_true] at h
  obtain ⟨j, hj, he⟩ := h
  rw [List.mem_range] at hj
  rw [beq_iff_eq] at he
  have : bt t 0 = bt (wordAt j) 0 := by rw [bt_data, bt_data, ← Lib.toList_data, ← Lib.toList_data, he]
  rw [this]
  have key : ∀ j : Fin 18, sml (bt (wordAt j.val) 0) = true := by decide
  exact key ⟨j, hj⟩
theorem mark_sym {t : ByteArray} (h : mark t = true) : sym (bt t 0) = true := by
  unfold mark at h
  rw [List.any_eq_true] at h
  obtain ⟨j, hj, he⟩ := h
  rw [List.mem_range] at hj
  rw [beq_iff_eq] at he
  have : bt t 0 = bt (markAt j) 0 := by rw [bt_data, bt_data, ← Lib.toList_data, ← Lib.toList_data, he]
  rw [this]
  have key : ∀ j : Fin 11, sym (bt (markAt j.val) 0) = true := by decide
  exact key ⟨j, hj⟩
theorem ins_sym {c : Nat} (h : ins c = true) : sym c = false := by
  simp [ins, sml, cap, dig] at h
  simp [sym]; omega
theorem bt_first (s : ByteArray) (a m : Nat) (hm : a < m) (h2 : m ≤ s.size) : bt (s.extract a m) 0 = bt s a := by
  rw [bt_extract s a m 0 h2 (by omega), Nat.add_zero]

set_option maxHeartbeats 1000000 in
set_option maxRecDepth 100000 in
theorem iName {s p b mb nx ln ls ao cp n T w} (h : At s p b mb nx ln ls ao cp n T w) (hn : sml (bt s p) = true ∨ cap (bt s p) = true) :
    Calls Tryd.prog 64 #[.pointer (some ⟨b, 0, none⟩), .int .i64 p, .int .i32 (bt s p)] w fun e w' => e = .returned (.tuple #[]) ∧ RG s p b mb ln ls T w w' := by
  obtain ⟨c0, c1, c2, c3, c4, c5, fr, lt⟩ := id h.sc
  have hp := h.lt
  have hp' : (p : Int) ≤ s.size := by omega
  have hsz := h.sz
  have hi := ins_of hn
  have hrun := (rl_run ins s p (by omega)).le
  have hpos := rl_pos hp hi
  have hbd := bd_run ins_low hp hi
  have hst : blank s p = (p, true) := stop_of hp (by rcases hn with h | h <;> simp [sml, cap] at h <;> omega) (by rcases hn with h | h <;> simp [sml, cap] at h <;> omega) (by rcases hn with h | h <;> simp [sml, cap] at h <;> omega) (by rcases hn with h | h <;> simp [sml, cap] at h <;> omega)
  have hR := fun w1 => iRun81 ins class81 high_ins (s.extract p s.size) w1
  rw [rl_ext ins s p (by omega)] at hR
  have htk : tok s p = .ok (if word (s.extract p (p + rl ins s p)) = true then 8 else if cap (bt s p) = true then 2 else 1) (s.extract p (p + rl ins s p)) (rl ins s p) := by
    unfold tok
    rw [if_pos hn]
  have hmk : mark (s.extract p (p + rl ins s p)) = false := by
    rcases q : mark (s.extract p (p + rl ins s p)) with _ | _
    · rfl
    · have := mark_sym q
      rw [bt_first s p _ (by omega) hrun, ins_sym hi] at this
      cases this
  have hU := fun k w1 (b1 : Below w.heap.size w w1) => iUnless b s p (p + rl ins s p) mb nx ln ls (pc s p) ao cp n T k w1 (h.next b1).sc (h.next b1).tr (h.next b1).km (by have := h.tl; omega) (by omega) (by omega) hrun h.col (pc_pos s p) (by have := pc_le s p; omega)
  have hfin : ∀ k w1 w2, Below w.heap.size w w1 → k = (if cap (bt s p) = true then 2 else 1) → Added b s mb (p + rl ins s p) ln ls (n + 1) (T ++ [⟨if kk (s.extract p (p + rl ins s p)) = 0 then k else kk (s.extract p (p + rl ins s p)), s.extract p (p + rl ins s p), ln, pc s p⟩]) w1 w2 → RG s p b mb ln ls T w w2 := by
    intro k w1 w2 b1 hk hA
    obtain ⟨hA1, hA2⟩ := hA
    have hline := h.line
    refine rg_tok (n := n + 1) hp hst htk hbd ⟨?_, (KB.of (Nat.le_of_lt lt) b1).trans hA2⟩
    have e : (if kk (s.extract p (p + rl ins s p)) = 0 then k else kk (s.extract p (p + rl ins s p))) = (if word (s.extract p (p + rl ins s p)) = true then 8 else if cap (bt s p) = true then 2 else 1) := by
      unfold kk
      rw [hmk]
      rcases word (s.extract p (p + rl ins s p)) with _ | _ <;> simp [hk]
    rw [e] at hA1
    obtain ⟨ao', cap', s1, t1⟩ := hA1
    exact ⟨ao', cap', s1, by rw [← hline]; exact t1⟩
  have HU := hide hU
  have HF := hide hfin
  have HR := hide hR
  clear hU hfin hR htk hmk hbd hst
  generalize rl ins s p = r at *
  obtain ⟨j, hj⟩ : ∃ j, j = p + r := ⟨_, rfl⟩
  rw [← hj] at HU HF
  have hsum : (p : Int) + (r : Int) = (j : Int) := by omega
  have hwr : IntKind.i64.wrap (j : Int) = (j : Int) := by simp [IntKind.wrap, IntKind.bits, IntKind.signed]; omega
  clear hj
  rcases q2 : cap (bt s p) with _ | _
  · go_enter Tryd.func64, Tryd.ntmps64
    go_wp2_with fail
    refine (HR.out w).mono ?_
    rintro e w1 ⟨rfl, b1⟩
    go_wp2_with fail
    refine (iCapital _ _).mono ?_
    rintro e w2 ⟨rfl, hw2⟩
    obtain rfl : w1 = w2 := hw2.symm
    rw [q2]
    go_wp2_with fail
    refine (HU.out 1 w1 b1).mono ?_
    rintro e w3 ⟨rfl, h3⟩
    go_wp2_with fail
    go_end0
    exact ⟨rfl, HF.out 1 w1 w3 b1 (by rw [q2]; rfl) h3⟩
  · go_enter Tryd.func64, Tryd.ntmps64
    go_wp2_with fail
    refine (HR.out w).mono ?_
    rintro e w1 ⟨rfl, b1⟩
    go_wp2_with fail
    refine (iCapital _ _).mono ?_
    rintro e w2 ⟨rfl, hw2⟩
    obtain rfl : w1 = w2 := hw2.symm
    rw [q2]
    go_wp2_with fail
    refine (HU.out 2 w1 b1).mono ?_
    rintro e w3 ⟨rfl, h3⟩
    go_wp2_with fail
    refine bodyPost_ret (results_none rfl _ _ _) rfl ?_
    exact ⟨rfl, HF.out 2 w1 w3 b1 (by rw [q2]; rfl) h3⟩

end Go.Proofs.YtjdncofdjabkiaaDoor

namespace Go.Proofs.YtjdncofdjabkiaaDoor
open Go.RowKit Go.Joins

/-- What a reader that tells a code leaves. -/
def RP (s : ByteArray) (p b mb ln ls : Nat) (T : List To) (w : World) (e : Ending) (w' : World) : Prop :=
  (∃ c : Nat, e = .returned (.int .i64 c) ∧ RB s p b mb ln ls c w w') ∨ (e = .returned (.int .i64 0) ∧ RG s p b mb ln ls T w w')

theorem At.same {s p b mb nx ln ls ao cp n T w} (h : At s p b mb nx ln ls ao cp n T w) {w' : World} (k : Below w.heap.size w w') {c : Nat} (hc : c ≠ 0) (hl : lexF s p = ([], c, p)) : RB s p b mb ln ls c w w' :=
  ⟨hc, hl, ⟨_, _, h.sc.below k h.sc.lt⟩, KB.of (Nat.le_of_lt h.sc.lt) k⟩

set_option maxHeartbeats 1000000 in
set_option maxRecDepth 100000 in
theorem iNumber {s p b mb nx ln ls ao cp n T w} (h : At s p b mb nx ln ls ao cp n T w) (n1 : sml (bt s p) = false) (n2 : cap (bt s p) = false) (hd : dig (bt s p) = true) :
    Calls Tryd.prog 66 #[.pointer (some ⟨b, 0, none⟩), .int .i64 p] w (RP s p b mb ln ls T w) := by
  obtain ⟨c0, c1, c2, c3, c4, c5, fr, lt⟩ := id h.sc
  have hp := h.lt
  have hp' : (p : Int) ≤ s.size := by omega
  have hpl : (p : Int) < s.size := by omega
  have hsz := h.sz
  have hrun := (rl_run dig s p (by omega)).le
  have hpos := rl_pos hp hd
  have hbd := bd_run dig_low hp hd
  have hst : blank s p = (p, true) := by simp [dig] at hd; exact stop_of hp (by omega) (by omega) (by omega) (by omega)
  have hR := fun w1 => iRun65 dig class65 high_dig (s.extract p s.size) w1
  rw [rl_ext dig s p (by omega)] at hR
  have htk : tok s p = if 300 < rl dig s p ∨ 1 < rl dig s p ∧ bt s p = 48 then .bad 3 else .ok 5 (s.extract p (p + rl dig s p)) (rl dig s p) := by
    unfold tok
    rw [if_neg (by rw [n1, n2]; decide), if_pos hd]
  have hU := fun w1 (b1 : Below w.heap.size w w1) => iAdd b s p (p + rl dig s p) mb nx ln ls (pc s p) ao cp n T 5 w1 (h.next b1).sc (h.next b1).tr (by have := h.tl; omega) (by omega) (by omega) hrun h.col (pc_pos s p) (by have := pc_le s p; omega)
  have hline := h.line
  have hbt := bt_in hp
  by_cases hbad : 300 < rl dig s p ∨ 1 < rl dig s p ∧ bt s p = 48
  · rw [if_pos hbad] at htk
    have HE : Hid (∀ w1, Below w.heap.size w w1 → RP s p b mb ln ls T w (.returned (.int .i64 3)) w1) := fun w1 b1 => .inl ⟨3, rfl, h.same b1 (by decide) (lex_bad hp hst htk)⟩
    have HR := hide hR
    have hcell : ∀ w1, Below w.heap.size w w1 → w1.cell? ⟨b, 0, none⟩ = some (.string s) := fun w1 b1 => (b1.cell (p := ⟨b, 0, none⟩) lt).trans c0
    have HC := hide hcell
    clear hcell hR htk hU hbd hst
    generalize rl dig s p = r at *
    by_cases h3 : 300 < r
    · have y1 : decide (300 < (r : Int)) = true := by simp; omega
      clear h3 hbad hbt
      go_enter Tryd.func66, Tryd.ntmps66
      go_wp2_with fail
      refine (HR.out w).mono ?_
      rintro e w1 ⟨rfl, b1⟩
      have d0 := HC.out w1 b1
      go_wp2_with fail
      go_ret
      exact HE.out w1 b1
    · have y1 : decide (300 < (r : Int)) = false := by simp; omega
      have y2 : decide (1 < (r : Int)) = true := by simp; omega
      have y3 : ((s[p].toNat : Int) == 48) = true := by rw [hbt]; simp; omega
      clear h3 hbad hbt
      go_enter Tryd.func66, Tryd.ntmps66
      go_wp2_with fail
      refine (HR.out w).mono ?_
      rintro e w1 ⟨rfl, b1⟩
      have d0 := HC.out w1 b1
      go_wp2_with fail
      go_ret
      exact HE.out w1 b1
  · rw [if_neg hbad] at htk
    have HF : Hid (∀ w1 w2, Below w.heap.size w w1 → Added b s mb (p + rl dig s p) ln ls (n + 1) (T ++ [⟨5, s.extract p (p + rl dig s p), ln, pc s p⟩]) w1 w2 → RP s p b mb ln ls T w (.returned (.int .i64 0)) w2) := by
      intro w1 w2 b1 hA
      obtain ⟨hA1, hA2⟩ := hA
      refine .inr ⟨rfl, rg_tok (n := n + 1) hp hst htk hbd ⟨?_, (KB.of (Nat.le_of_lt lt) b1).trans hA2⟩⟩
      obtain ⟨ao', cap', s1, t1⟩ := hA1
      exact ⟨ao', cap', s1, by rw [← hline]; exact t1⟩
    have HR := hide hR
    have HU := hide hU
    have hcell : ∀ w1, Below w.heap.size w w1 → w1.cell? ⟨b, 0, none⟩ = some (.string s) := fun w1 b1 => (b1.cell (p := ⟨b, 0, none⟩) lt).trans c0
    have HC := hide hcell
    clear hcell hR hU htk hbd hst
    generalize rl dig s p = r at *
    obtain ⟨j, hj⟩ : ∃ j, j = p + r := ⟨_, rfl⟩
    rw [← hj] at HU HF
    have hsum : (p : Int) + (r : Int) = (j : Int) := by omega
    have hwr : IntKind.i64.wrap (j : Int) = (j : Int) := by simp [IntKind.wrap, IntKind.bits, IntKind.signed]; omega
    clear hj
    have y1 : decide (300 < (r : Int)) = false := by simp; omega
    by_cases h1 : 1 < r
    · have y2 : decide (1 < (r : Int)) = true := by simp; omega
      have y3 : ((s[p].toNat : Int) == 48) = false := by rw [hbt]; simp; omega
      clear h1 hbad hbt
      go_enter Tryd.func66, Tryd.ntmps66
      go_wp2_with fail
      refine (HR.out w).mono ?_
      rintro e w1 ⟨rfl, b1⟩
      have d0 := HC.out w1 b1
      go_wp2_with fail
      refine (HU.out w1 b1).mono ?_
      rintro e w2 ⟨rfl, h2⟩
      go_wp2_with fail
      go_ret
      exact HF.out w1 w2 b1 h2
    · have y2 : decide (1 < (r : Int)) = false := by simp; omega
      clear h1 hbad hbt
      go_enter Tryd.func66, Tryd.ntmps66
      go_wp2_with fail
      refine (HR.out w).mono ?_
      rintro e w1 ⟨rfl, b1⟩
      have d0 := HC.out w1 b1
      go_wp2_with fail
      refine (HU.out w1 b1).mono ?_
      rintro e w2 ⟨rfl, h2⟩
      go_wp2_with fail
      go_ret
      exact HF.out w1 w2 b1 h2

end Go.Proofs.YtjdncofdjabkiaaDoor

