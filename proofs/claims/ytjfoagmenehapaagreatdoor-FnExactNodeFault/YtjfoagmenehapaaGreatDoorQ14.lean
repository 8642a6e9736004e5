import Derived.Test.YtjfoagmenehapaaGreatDoorQ13
import Derived.Test.YtjfoagmenehapaaGreatDoorQ10
namespace Go.Proofs.YtjfoagmenehapaaGreatDoor
open Go.RowKit Go.Joins

/-- What stands at a place moves on to a later world. -/
theorem RG.via {s p b mb ln ls T} {w w1 w2 : World} (hlt : b < w.heap.size) (k : Below w.heap.size w w1) (h : RG s p b mb ln ls T w1 w2) : RG s p b mb ln ls T w w2 := by
  obtain ⟨nx, T', ao, cp, n, h1, h2, h3, h4, h5, h6, h7⟩ := h
  exact ⟨nx, T', ao, cp, n, h1, h2, h3, h4, h5, h6, (KB.of (Nat.le_of_lt hlt) k).trans h7⟩
theorem RP.via {s p b mb ln ls T e} {w w1 w2 : World} (hlt : b < w.heap.size) (k : Below w.heap.size w w1) (h : RP s p b mb ln ls T w1 e w2) : RP s p b mb ln ls T w e w2 := by
  rcases h with ⟨c, h1, h2, h3, h4, h5⟩ | ⟨h1, h2⟩
  · exact .inl ⟨c, h1, h2, h3, h4, (KB.of (Nat.le_of_lt hlt) k).trans h5⟩
  · exact .inr ⟨h1, h2.via hlt k⟩

theorem extract_one (s : ByteArray) (p : Nat) (hp : p < s.size) : s.extract p (p + 1) = ⟨#[s[p]]⟩ := by
  have h1 : (s.extract p (p + 1)).data.toList = [s[p]] := by
    have hl : (s.extract p (p + 1)).data.toList.length = 1 := by
      rw [Array.length_toList]
      show (s.extract p (p + 1)).size = 1
      rw [ByteArray.size_extract]; omega
    have hb := bt_extract s p (p + 1) 0 (by omega) (by omega)
    have hb' : bt s (p + 0) = (s[p]).toNat := (bt_in hp).symm
    rw [bt_data, hb'] at hb
    clear hb'
    generalize (s.extract p (p + 1)).data.toList = L at *
    match L, hl with
    | [x], _ =>
      simp at hb
      rw [UInt8.toNat_inj] at hb
      rw [hb]
  cases h : s.extract p (p + 1) with
  | mk d =>
    rw [h] at h1
    simp only at h1
    congr 1
    exact Array.ext' h1

set_option maxHeartbeats 1000000 in
set_option maxRecDepth 100000 in
theorem rBlank {s p b mb nx ln ls ao cp n T w} (h : At s p b mb nx ln ls ao cp n T w) (c : Nat) (hb : bt s p = 32 ∨ bt s p = 10) (hcb : c = bt s p) : Calls Tryz.prog 98 #[.pointer (some ⟨b, 0, none⟩), .int .i64 p, .int .i32 c] w (RP s p b mb ln ls T w) := by
  obtain ⟨c0, c1, c2, c3, c4, c5, fr, lt⟩ := id h.sc
  have hp := h.lt
  have hp' : (p : Int) ≤ s.size := by omega
  have hsz := h.sz
  have HE : Hid (RP s p b mb ln ls T w (.returned (.int .i64 0)) w) := by
    refine .inr ⟨rfl, nx, [], ao, cp, n, by have := h.nxp; omega, h.bd, by simp, ?_, h.sc, by rw [List.append_nil]; exact h.tr, KB.refl _ _⟩
    have e : max nx (p + 1) = p + 1 := by have := h.nxp; omega
    rw [e, lex_skip hp hb]
    simp
  by_cases h1 : bt s p = 32
  · have z1 : ((c : Int) == 32) = true := by simp; omega
    clear h1 hb hcb
    go_enter Tryz.func98, Tryz.ntmps98
    go_wp2_with fail
    go_ret
    exact HE.out
  · have z1 : ((c : Int) == 32) = false := by simp; omega
    have z2 : ((c : Int) == 10) = true := by simp; omega
    clear h1 hb hcb
    go_enter Tryz.func98, Tryz.ntmps98
    go_wp2_with fail
    go_ret
    exact HE.out

set_option maxHeartbeats 1000000 in
set_option maxRecDepth 100000 in
theorem rName {s p b mb nx ln ls ao cp n T w} (h : At s p b mb nx ln ls ao cp n T w) (c : Nat) (z1 : ((c : Int) == 32) = false) (z2 : ((c : Int) == 10) = false) (hcb : c = bt s p) (hn : sml (bt s p) = true ∨ cap (bt s p) = true) : Calls Tryz.prog 98 #[.pointer (some ⟨b, 0, none⟩), .int .i64 p, .int .i32 c] w (RP s p b mb ln ls T w) := by
  have n12 : (cap c || sml c) = true := by rw [hcb]; rcases hn with hn | hn <;> rw [hn] <;> simp
  have HN := hide (iName h hn)
  rw [← hcb] at HN
  clear hcb hn
  go_enter Tryz.func98, Tryz.ntmps98
  go_wp2_with fail
  refine (iBegins c _).mono ?_
  rintro e w5 ⟨rfl, hw5⟩
  obtain rfl : w = w5 := hw5.symm
  rw [n12]
  go_wp2_with fail
  refine HN.out.mono ?_
  rintro e w6 ⟨rfl, h6⟩
  go_wp2_with fail
  go_ret
  exact .inr ⟨rfl, h6⟩

set_option maxHeartbeats 1000000 in
set_option maxRecDepth 100000 in
theorem rDig {s p b mb nx ln ls ao cp n T w} (h : At s p b mb nx ln ls ao cp n T w) (c : Nat) (z1 : ((c : Int) == 32) = false) (z2 : ((c : Int) == 10) = false) (hcb : c = bt s p) (n1 : sml (bt s p) = false) (n2 : cap (bt s p) = false) (hd : dig (bt s p) = true) : Calls Tryz.prog 98 #[.pointer (some ⟨b, 0, none⟩), .int .i64 p, .int .i32 c] w (RP s p b mb ln ls T w) := by
  have n12 : (cap c || sml c) = false := by rw [hcb, n1, n2]; rfl
  have n3 : dig c = true := by rw [hcb]; exact hd
  have HN := hide (iNumber h n1 n2 hd)
  clear hcb n1 n2 hd
  go_enter Tryz.func98, Tryz.ntmps98
  go_wp2_with fail
  refine (iBegins c _).mono ?_
  rintro e w5 ⟨rfl, hw5⟩
  obtain rfl : w = w5 := hw5.symm
  rw [n12]
  go_wp2_with fail
  refine (iDigit c _).mono ?_
  rintro e w5 ⟨rfl, hw5⟩
  obtain rfl : w = w5 := hw5.symm
  rw [n3]
  go_wp2_with fail
  refine HN.out.mono ?_
  rintro e w6 h6
  have h6' := h6
  rcases h6 with ⟨q, rfl, h6⟩ | ⟨rfl, h6⟩
  · go_wp2_with fail
    go_ret
    exact h6'
  · go_wp2_with fail
    go_ret
    exact h6'

set_option maxHeartbeats 1000000 in
set_option maxRecDepth 100000 in
theorem rQuo6 {s p b mb nx ln ls ao cp n T w} (h : At s p b mb nx ln ls ao cp n T w) (c : Nat) (z1 : ((c : Int) == 32) = false) (z2 : ((c : Int) == 10) = false) (z3 : ((c : Int) == 39) = true) (n12 : (cap c || sml c) = false) (n3 : dig c = false) (hm : bt s p = 39) : Calls Tryz.prog 98 #[.pointer (some ⟨b, 0, none⟩), .int .i64 p, .int .i32 c] w (RP s p b mb ln ls T w) := by
  have HN := hide (iQuoted6 h hm)
  clear hm
  go_enter Tryz.func98, Tryz.ntmps98
  go_wp2_with fail
  refine (iBegins c _).mono ?_
  rintro e w5 ⟨rfl, hw5⟩
  obtain rfl : w = w5 := hw5.symm
  rw [n12]
  go_wp2_with fail
  refine (iDigit c _).mono ?_
  rintro e w5 ⟨rfl, hw5⟩
  obtain rfl : w = w5 := hw5.symm
  rw [n3]
  go_wp2_with fail
  refine HN.out.mono ?_
  rintro e w6 h6
  have h6' := h6
  rcases h6 with ⟨q, rfl, h6⟩ | ⟨rfl, h6⟩
  · go_wp2_with fail
    go_ret
    exact h6'
  · go_wp2_with fail
    go_ret
    exact h6'

set_option maxHeartbeats 1000000 in
set_option maxRecDepth 100000 in
theorem rQuo7 {s p b mb nx ln ls ao cp n T w} (h : At s p b mb nx ln ls ao cp n T w) (c : Nat) (z1 : ((c : Int) == 32) = false) (z2 : ((c : Int) == 10) = false) (z3 : ((c : Int) == 39) = false) (z4 : ((c : Int) == 34) = true) (n12 : (cap c || sml c) = false) (n3 : dig c = false) (hm : bt s p = 34) : Calls Tryz.prog 98 #[.pointer (some ⟨b, 0, none⟩), .int .i64 p, .int .i32 c] w (RP s p b mb ln ls T w) := by
  have HN := hide (iQuoted7 h hm)
  clear hm
  go_enter Tryz.func98, Tryz.ntmps98
  go_wp2_with fail
  refine (iBegins c _).mono ?_
  rintro e w5 ⟨rfl, hw5⟩
  obtain rfl : w = w5 := hw5.symm
  rw [n12]
  go_wp2_with fail
  refine (iDigit c _).mono ?_
  rintro e w5 ⟨rfl, hw5⟩
  obtain rfl : w = w5 := hw5.symm
  rw [n3]
  go_wp2_with fail
  refine HN.out.mono ?_
  rintro e w6 h6
  have h6' := h6
  rcases h6 with ⟨q, rfl, h6⟩ | ⟨rfl, h6⟩
  · go_wp2_with fail
    go_ret
    exact h6'
  · go_wp2_with fail
    go_ret
    exact h6'

set_option maxHeartbeats 1000000 in
set_option maxRecDepth 100000 in
theorem rSym {s p b mb nx ln ls ao cp n T w} (h : At s p b mb nx ln ls ao cp n T w) (c : Nat) (z1 : ((c : Int) == 32) = false) (z2 : ((c : Int) == 10) = false) (z3 : ((c : Int) == 39) = false) (z4 : ((c : Int) == 34) = false) (hc : c ≤ 2147483647) (n12 : (cap c || sml c) = false) (n3 : dig c = false) (n4 : sym c = true) (hcb : c = bt s p) : Calls Tryz.prog 98 #[.pointer (some ⟨b, 0, none⟩), .int .i64 p, .int .i32 c] w (RP s p b mb ln ls T w) := by
  obtain ⟨c0, c1, c2, c3, c4, c5, fr, lt⟩ := id h.sc
  have hp := h.lt
  have hp' : (p : Int) ≤ s.size := by omega
  have hsz := h.sz
  have HC : Hid (∀ w1, Below w.heap.size w w1 → w1.cell? ⟨b, 0, none⟩ = some (.string s)) := fun w1 b1 => (b1.cell (p := ⟨b, 0, none⟩) lt).trans c0
  have HP1 : Hid (∀ w1, Calls Tryz.prog 118 #[.string (s.extract p s.size), .string ⟨#[123, 45]⟩] w1 fun e w' => e = .returned (.bool (two s p 123 45)) ∧ w' = w1) := fun w1 => by
    refine (Tryz.strings_HasPrefix _ _ _).mono ?_
    rintro e w2 ⟨rfl, rfl⟩
    exact ⟨ret_b (prefix_two s p 123 45 (by omega)), rfl⟩
  have HN : Hid (∀ w5, Below w.heap.size w w5 → Calls Tryz.prog 117 #[.pointer (some ⟨b, 0, none⟩), .int .i64 p, .int .i32 c] w5 fun e w' => e = .returned (.tuple #[]) ∧ RG s p b mb ln ls T w5 w') := fun w5 b5 => by
    have hor : cap c = false ∧ sml c = false := by simpa using n12
    have := iSymbols (h.next b5) (by rw [← hcb]; exact hor.2) (by rw [← hcb]; exact hor.1) (by rw [← hcb]; exact n3) (by simp at z3 z4; omega) (by rw [← hcb]; exact n4)
    rwa [← hcb] at this
  clear hcb HP1
  go_enter Tryz.func98, Tryz.ntmps98
  go_wp2_with fail
  refine (iBegins c _).mono ?_
  rintro e w5 ⟨rfl, hw5⟩
  obtain rfl : w = w5 := hw5.symm
  rw [n12]
  go_wp2_with fail
  refine (iDigit c _).mono ?_
  rintro e w5 ⟨rfl, hw5⟩
  obtain rfl : w = w5 := hw5.symm
  rw [n3]
  go_wp2_with fail
  refine (iSymbol c _ hc).mono ?_
  rintro e w5 ⟨rfl, b5⟩
  rw [n4]
  have d0 := HC.out w5 b5
  go_wp2_with fail
  refine (HN.out w5 b5).mono ?_
  rintro e w6 ⟨rfl, h6⟩
  go_wp2_with fail
  go_ret
  exact .inr ⟨rfl, h6.via lt b5⟩

set_option maxHeartbeats 1000000 in
set_option maxRecDepth 100000 in
theorem rNest {s p b mb nx ln ls ao cp n T w} (h : At s p b mb nx ln ls ao cp n T w) (c : Nat) (z1 : ((c : Int) == 32) = false) (z2 : ((c : Int) == 10) = false) (z3 : ((c : Int) == 39) = false) (z4 : ((c : Int) == 34) = false) (hc : c ≤ 2147483647) (n12 : (cap c || sml c) = false) (n3 : dig c = false) (n4 : sym c = false) (n5 : two s p 123 45 = true) : Calls Tryz.prog 98 #[.pointer (some ⟨b, 0, none⟩), .int .i64 p, .int .i32 c] w (RP s p b mb ln ls T w) := by
  obtain ⟨c0, c1, c2, c3, c4, c5, fr, lt⟩ := id h.sc
  have hp := h.lt
  have hp' : (p : Int) ≤ s.size := by omega
  have hsz := h.sz
  have HC : Hid (∀ w1, Below w.heap.size w w1 → w1.cell? ⟨b, 0, none⟩ = some (.string s)) := fun w1 b1 => (b1.cell (p := ⟨b, 0, none⟩) lt).trans c0
  have HP1 : Hid (∀ w1, Calls Tryz.prog 118 #[.string (s.extract p s.size), .string ⟨#[123, 45]⟩] w1 fun e w' => e = .returned (.bool (two s p 123 45)) ∧ w' = w1) := fun w1 => by
    refine (Tryz.strings_HasPrefix _ _ _).mono ?_
    rintro e w2 ⟨rfl, rfl⟩
    exact ⟨ret_b (prefix_two s p 123 45 (by omega)), rfl⟩
  have HN : Hid (∀ w5, Below w.heap.size w w5 → Calls Tryz.prog 119 #[.pointer (some ⟨b, 0, none⟩), .int .i64 p] w5 (RP s p b mb ln ls T w5)) := fun w5 b5 => iNested (h.next b5) n5
  go_enter Tryz.func98, Tryz.ntmps98
  go_wp2_with fail
  refine (iBegins c _).mono ?_
  rintro e w5 ⟨rfl, hw5⟩
  obtain rfl : w = w5 := hw5.symm
  rw [n12]
  go_wp2_with fail
  refine (iDigit c _).mono ?_
  rintro e w5 ⟨rfl, hw5⟩
  obtain rfl : w = w5 := hw5.symm
  rw [n3]
  go_wp2_with fail
  refine (iSymbol c _ hc).mono ?_
  rintro e w5 ⟨rfl, b5⟩
  rw [n4]
  have d0 := HC.out w5 b5
  go_wp2_with fail
  refine (HP1.out w5).mono ?_
  rintro e w6 ⟨rfl, hw6⟩
  obtain rfl : w5 = w6 := hw6.symm
  rw [n5]
  go_wp2_with fail
  refine (HN.out w5 b5).mono ?_
  rintro e w7 h7
  have h7' := h7.via lt b5
  rcases h7 with ⟨q, rfl, h7⟩ | ⟨rfl, h7⟩
  · go_wp2_with fail
    go_ret
    exact h7'
  · go_wp2_with fail
    go_ret
    exact h7'

set_option maxHeartbeats 1000000 in
set_option maxRecDepth 100000 in
theorem rSpc {s p b mb nx ln ls ao cp n T w} (h : At s p b mb nx ln ls ao cp n T w) (c : Nat) (z1 : ((c : Int) == 32) = false) (z2 : ((c : Int) == 10) = false) (z3 : ((c : Int) == 39) = false) (z4 : ((c : Int) == 34) = false) (hc : c ≤ 2147483647) (n12 : (cap c || sml c) = false) (n3 : dig c = false) (n4 : sym c = false) (n5 : two s p 123 45 = false) (n6 : spc c = true) (hcb : c = bt s p) : Calls Tryz.prog 98 #[.pointer (some ⟨b, 0, none⟩), .int .i64 p, .int .i32 c] w (RP s p b mb ln ls T w) := by
  obtain ⟨c0, c1, c2, c3, c4, c5, fr, lt⟩ := id h.sc
  have hp := h.lt
  have hp' : (p : Int) ≤ s.size := by omega
  have hsz := h.sz
  have HC : Hid (∀ w1, Below w.heap.size w w1 → w1.cell? ⟨b, 0, none⟩ = some (.string s)) := fun w1 b1 => (b1.cell (p := ⟨b, 0, none⟩) lt).trans c0
  have HP1 : Hid (∀ w1, Calls Tryz.prog 118 #[.string (s.extract p s.size), .string ⟨#[123, 45]⟩] w1 fun e w' => e = .returned (.bool (two s p 123 45)) ∧ w' = w1) := fun w1 => by
    refine (Tryz.strings_HasPrefix _ _ _).mono ?_
    rintro e w2 ⟨rfl, rfl⟩
    exact ⟨ret_b (prefix_two s p 123 45 (by omega)), rfl⟩
  have hor : cap c = false ∧ sml c = false := by simpa using n12
  have hst : blank s p = (p, true) := by
    refine blank_stop hp (by simp at z1 z2; omega) n5 ?_
    unfold dash
    have : rl sym s p = 0 := by rw [rl, if_neg (by omega), if_neg (by rw [← hcb, n4]; decide)]
    rw [this]
    simp
    omega
  have htk : tok s p = .ok 10 (s.extract p (p + 1)) 1 := by
    unfold tok
    rw [if_neg (by rw [← hcb, hor.1, hor.2]; decide), if_neg (by rw [← hcb, n3]; decide), if_neg (by simp at z3 z4; omega), if_neg (by rw [← hcb, n4]; decide), if_pos (by rw [← hcb]; exact n6)]
    congr 1
    rw [ofNat_bt hp]
    exact (extract_one s p hp).symm
  have hlow : bt s p < 128 := by rw [← hcb]; simp [spc] at n6; omega
  have hline := h.line
  have HU : Hid (∀ w5, Below w.heap.size w w5 → Calls Tryz.prog 120 #[.pointer (some ⟨b, 0, none⟩), .int .i64 (10 : Nat), .int .i64 p, .int .i64 ((p + 1 : Nat) : Int)] w5 fun e w' => e = .returned (.tuple #[]) ∧ RG s p b mb ln ls T w w') := fun w5 b5 => by
    refine (iAdd b s p (p + 1) mb nx ln ls (pc s p) ao cp n T 10 w5 (h.next b5).sc (h.next b5).tr (by have := h.tl; omega) (by omega) (by omega) (by omega) h.col (pc_pos s p) (by have := pc_le s p; omega)).mono ?_
    rintro e w6 ⟨rfl, hA1, hA2⟩
    refine ⟨rfl, rg_tok (n := n + 1) hp hst htk (.inr (.inr ⟨by omega, by rw [Nat.add_sub_cancel]; exact hlow⟩)) ⟨?_, (KB.of (Nat.le_of_lt lt) b5).trans hA2⟩⟩
    obtain ⟨ao', cap', s1, t1⟩ := hA1
    exact ⟨ao', cap', s1, by rw [← hline]; exact t1⟩
  obtain ⟨p1, hp1⟩ : ∃ p1, p1 = p + 1 := ⟨_, rfl⟩
  rw [← hp1] at HU
  have hs1 : (p : Int) + 1 = (p1 : Int) := by omega
  have hw1 : IntKind.i64.wrap (p1 : Int) = (p1 : Int) := by simp [IntKind.wrap, IntKind.bits, IntKind.signed]; omega
  clear hcb hst htk hlow hp1 hor
  go_enter Tryz.func98, Tryz.ntmps98
  go_wp2_with fail
  refine (iBegins c _).mono ?_
  rintro e w5 ⟨rfl, hw5⟩
  obtain rfl : w = w5 := hw5.symm
  rw [n12]
  go_wp2_with fail
  refine (iDigit c _).mono ?_
  rintro e w5 ⟨rfl, hw5⟩
  obtain rfl : w = w5 := hw5.symm
  rw [n3]
  go_wp2_with fail
  refine (iSymbol c _ hc).mono ?_
  rintro e w5 ⟨rfl, b5⟩
  rw [n4]
  have d0 := HC.out w5 b5
  go_wp2_with fail
  refine (HP1.out w5).mono ?_
  rintro e w6 ⟨rfl, hw6⟩
  obtain rfl : w5 = w6 := hw6.symm
  rw [n5]
  go_wp2_with fail
  refine (iSpecial c w5 hc).mono ?_
  rintro e w7 ⟨rfl, b7⟩
  rw [n6]
  have b57 := b5.trans (b7.mono b5.size)
  go_wp2_with fail
  refine (HU.out w7 b57).mono ?_
  rintro e w8 ⟨rfl, h8⟩
  go_wp2_with fail
  go_ret
  exact .inr ⟨rfl, h8⟩

set_option maxHeartbeats 1000000 in
set_option maxRecDepth 100000 in
theorem rNone {s p b mb nx ln ls ao cp n T w} (h : At s p b mb nx ln ls ao cp n T w) (c : Nat) (z1 : ((c : Int) == 32) = false) (z2 : ((c : Int) == 10) = false) (z3 : ((c : Int) == 39) = false) (z4 : ((c : Int) == 34) = false) (hc : c ≤ 2147483647) (n12 : (cap c || sml c) = false) (n3 : dig c = false) (n4 : sym c = false) (n5 : two s p 123 45 = false) (n6 : spc c = false) (hlx : lexF s p = ([], 1, p)) : Calls Tryz.prog 98 #[.pointer (some ⟨b, 0, none⟩), .int .i64 p, .int .i32 c] w fun e w' => e = .returned (.int .i64 (1 : Nat)) ∧ RB s p b mb ln ls 1 w w' := by
  obtain ⟨c0, c1, c2, c3, c4, c5, fr, lt⟩ := id h.sc
  have hp := h.lt
  have hp' : (p : Int) ≤ s.size := by omega
  have hsz := h.sz
  have HC : Hid (∀ w1, Below w.heap.size w w1 → w1.cell? ⟨b, 0, none⟩ = some (.string s)) := fun w1 b1 => (b1.cell (p := ⟨b, 0, none⟩) lt).trans c0
  have HP1 : Hid (∀ w1, Calls Tryz.prog 118 #[.string (s.extract p s.size), .string ⟨#[123, 45]⟩] w1 fun e w' => e = .returned (.bool (two s p 123 45)) ∧ w' = w1) := fun w1 => by
    refine (Tryz.strings_HasPrefix _ _ _).mono ?_
    rintro e w2 ⟨rfl, rfl⟩
    exact ⟨ret_b (prefix_two s p 123 45 (by omega)), rfl⟩
  have HE : Hid (∀ w1, Below w.heap.size w w1 → RB s p b mb ln ls 1 w w1) := fun w1 b1 => h.same b1 (by decide) hlx
  clear hlx
  go_enter Tryz.func98, Tryz.ntmps98
  go_wp2_with fail
  refine (iBegins c _).mono ?_
  rintro e w5 ⟨rfl, hw5⟩
  obtain rfl : w = w5 := hw5.symm
  rw [n12]
  go_wp2_with fail
  refine (iDigit c _).mono ?_
  rintro e w5 ⟨rfl, hw5⟩
  obtain rfl : w = w5 := hw5.symm
  rw [n3]
  go_wp2_with fail
  refine (iSymbol c _ hc).mono ?_
  rintro e w5 ⟨rfl, b5⟩
  rw [n4]
  have d0 := HC.out w5 b5
  go_wp2_with fail
  refine (HP1.out w5).mono ?_
  rintro e w6 ⟨rfl, hw6⟩
  obtain rfl : w5 = w6 := hw6.symm
  rw [n5]
  go_wp2_with fail
  refine (iSpecial c w5 hc).mono ?_
  rintro e w7 ⟨rfl, b7⟩
  rw [n6]
  have b57 := b5.trans (b7.mono b5.size)
  go_wp2_with fail
  go_ret
  exact ⟨rfl, HE.out w7 b57⟩

end Go.Proofs.YtjfoagmenehapaaGreatDoor

namespace Go.Proofs.YtjfoagmenehapaaGreatDoor
open Go.RowKit Go.Joins

set_option maxHeartbeats 4000000 in
set_option maxRecDepth 100000 in
theorem mTokNone (b : Nat) (s : ByteArray) (a : Nat) (x4 x5 x6 : Value) (ao : Option Addr) (cp n : Nat) (T : List To) (w : World) (h : Lx w b s a (pl s a) (pc s a) x4 x5 x6 (.slice ao n cp)) (hT : TR (b + 1) w ao cp n T)
    (_hl : T.length ≤ 1048576) (_hs : s.size ≤ 1048576) (ha : a < s.size) (n1 : sml (bt s a) = false) (n2 : cap (bt s a) = false) (n3 : dig (bt s a) = false) (z1 : ((bt s a : Int) == 39) = false) (z2 : ((bt s a : Int) == 34) = false) (n4 : sym (bt s a) = false) (n5 : spc (bt s a) = false) :
    Calls Tryz.prog 110 #[.pointer (some ⟨b, 0, none⟩)] w (TokPost s a b x4 x5 x6 n T w) := by
  obtain ⟨c0, c1, c2, c3, c4, c5, c6, c7, fr, lt⟩ := id h
  have ha' : (a : Int) < s.size := by omega
  have HB := hide (bt_in ha)
  have hb0 := bt_le s a
  have HTok : Hid (tok s a = .bad 1) := by
    unfold Hid tok
    rw [if_neg (by rw [n1, n2]; decide)]
    rw [if_neg (by rw [n3]; decide), if_neg (by simp at z1 z2; omega), if_neg (by rw [n4]; decide), if_neg (by rw [n5]; decide)]
  go_enter Tryz.func110, Tryz.ntmps110
  go_wp2_with fail
  go_region
  all_goals go_upto_region 4 with fail
  rw [HB.out]
  have hTd : TR (b + 1) w.drew ao cp n T := hT.drewN 1
  have hLd : Lx w.drew b s a (pl s a) (pc s a) x4 x5 x6 (.slice ao n cp) := h.drewN 1
  have hBd : Below w.heap.size w w.drew := (Below.refl _ w).drew
  clear HB
  go_wp2_with (first | (go_at_call 132; refine (mSmall _ _).mono ?_; rintro e w1 ⟨rfl, hw1⟩; obtain rfl : w.drew = w1 := hw1.symm; rw [n1]) | (go_at_call 133; refine (mCapital _ _).mono ?_; rintro e w1 ⟨rfl, hw1⟩; obtain rfl : w.drew = w1 := hw1.symm; rw [n2]) | (go_at_call 136; refine (mDigit _ _).mono ?_; rintro e w1 ⟨rfl, hw1⟩; obtain rfl : w.drew = w1 := hw1.symm; rw [n3]) | (go_at_call 138; refine (mSymbol _ _).mono ?_; rintro e w1 ⟨rfl, hw1⟩; obtain rfl : w.drew = w1 := hw1.symm; rw [n4]) | (go_at_call 140; refine (mSpecial _ _).mono ?_; rintro e w1 ⟨rfl, hw1⟩; obtain rfl : w.drew = w1 := hw1.symm; rw [n5]))
  refine (mFail b s a _ _ 1 _ _ _ _ _ hLd).mono ?_
  rintro e w2 ⟨rfl, h2, o2⟩
  go_wp2_with fail
  go_ret
  exact TokPost.bad HTok.out ⟨rfl, h2, (hBd.mono (Nat.le_of_lt lt)).trans (o2.below (Nat.le_refl b))⟩

set_option maxHeartbeats 4000000 in
set_option maxRecDepth 100000 in
theorem mTokSpc (b : Nat) (s : ByteArray) (a : Nat) (x4 x5 x6 : Value) (ao : Option Addr) (cp n : Nat) (T : List To) (w : World) (h : Lx w b s a (pl s a) (pc s a) x4 x5 x6 (.slice ao n cp)) (hT : TR (b + 1) w ao cp n T)
    (hl : T.length ≤ 1048576) (hs : s.size ≤ 1048576) (ha : a < s.size) (n1 : sml (bt s a) = false) (n2 : cap (bt s a) = false) (n3 : dig (bt s a) = false) (z1 : ((bt s a : Int) == 39) = false) (z2 : ((bt s a : Int) == 34) = false) (n4 : sym (bt s a) = false) (n5 : spc (bt s a) = true) :
    Calls Tryz.prog 110 #[.pointer (some ⟨b, 0, none⟩)] w (TokPost s a b x4 x5 x6 n T w) := by
  obtain ⟨c0, c1, c2, c3, c4, c5, c6, c7, fr, lt⟩ := id h
  have ha' : (a : Int) < s.size := by omega
  have HB := hide (bt_in ha)
  have hb0 := bt_le s a
  have HTok : Hid (tok s a = .ok 10 ⟨#[UInt8.ofNat (bt s a)]⟩ 1) := by
    unfold Hid tok
    rw [if_neg (by rw [n1, n2]; decide)]
    rw [if_neg (by rw [n3]; decide), if_neg (by simp at z1 z2; omega), if_neg (by rw [n4]; decide), if_pos n5]
  have hcv : (convert 114 9 (.slice (some ⟨w.heap.size, 0, none⟩) 1 1)).run Tryz.prog (w.alloc (.cells #[.int .u8 (bt s a)] 5)).drew = .ok (.string ⟨#[UInt8.ofNat (bt s a)]⟩) (w.alloc (.cells #[.int .u8 (bt s a)] 5)).drew :=
    run_convert_bytes_back (P := Tryz.prog) (w.alloc (.cells #[.int .u8 (bt s a)] 5)).drew 114 9 5 ⟨w.heap.size, 0, none⟩ 1 [UInt8.ofNat (bt s a)] Tryz.underlying114 Tryz.underlying5 Tryz.underlying9 (fun j hj => by
      have : j = 0 := by simpa using hj
      subst this
      have hm : bt s a % 256 = bt s a := Nat.mod_eq_of_lt hb0
      show (w.alloc _).cell? _ = _
      simp [Addr.add, hm])
  go_enter Tryz.func110, Tryz.ntmps110
  go_wp2_with fail
  go_region
  all_goals go_upto_region 4 with fail
  rw [HB.out]
  have hTd : TR (b + 1) w.drew ao cp n T := hT.drewN 1
  have hLd : Lx w.drew b s a (pl s a) (pc s a) x4 x5 x6 (.slice ao n cp) := h.drewN 1
  have hBd : Below w.heap.size w w.drew := (Below.refl _ w).drew
  clear HB
  go_wp2_with (first | (go_at_call 132; refine (mSmall _ _).mono ?_; rintro e w1 ⟨rfl, hw1⟩; obtain rfl : w.drew = w1 := hw1.symm; rw [n1]) | (go_at_call 133; refine (mCapital _ _).mono ?_; rintro e w1 ⟨rfl, hw1⟩; obtain rfl : w.drew = w1 := hw1.symm; rw [n2]) | (go_at_call 136; refine (mDigit _ _).mono ?_; rintro e w1 ⟨rfl, hw1⟩; obtain rfl : w.drew = w1 := hw1.symm; rw [n3]) | (go_at_call 138; refine (mSymbol _ _).mono ?_; rintro e w1 ⟨rfl, hw1⟩; obtain rfl : w.drew = w1 := hw1.symm; rw [n4]) | (go_at_call 140; refine (mSpecial _ _).mono ?_; rintro e w1 ⟨rfl, hw1⟩; obtain rfl : w.drew = w1 := hw1.symm; rw [n5]))
  have z6 : Below w.heap.size w (w.alloc (.cells #[.int .u8 (bt s a)] 5)).drew := ((Below.refl _ w).alloc (Nat.le_refl _) _).drew
  refine (mPut b s a 1 x4 x5 x6 ao cp n T 10 ⟨#[UInt8.ofNat (bt s a)]⟩ _ (h.below z6 lt) (hT.below z6) hl hs (by omega)).mono ?_
  rintro e w8 ⟨rfl, h8, b8⟩
  go_wp2_with fail
  go_ret
  exact TokPost.ok HTok.out ⟨rfl, h8, (z6.mono (Nat.le_of_lt lt)).trans b8⟩

end Go.Proofs.YtjfoagmenehapaaGreatDoor

