import Derived.Test.YtplhjcohkjomgaaDoorAF
import Derived.Deep.RegionHeld3
namespace Go.Proofs.YtplhjcohkjomgaaDoor
open Go.RowKit Go.Joins

theorem iQuote6 (w : World) : Calls Tryd.prog 59 #[.int .i64 6] w fun e w' => e = .returned (.int .i32 39) ∧ w' = w := by
  go_enter Tryd.func59, Tryd.ntmps59
  go_wp2
  go_ret
  exact ⟨rfl, rfl⟩
theorem iQuote7 (w : World) : Calls Tryd.prog 59 #[.int .i64 7] w fun e w' => e = .returned (.int .i32 34) ∧ w' = w := by
  go_enter Tryd.func59, Tryd.ntmps59
  go_wp2
  go_ret
  exact ⟨rfl, rfl⟩

theorem quo_last {u : ByteArray} {m : Nat} (i : Nat) (out t : List UInt8) (j : Nat) (h : quo u m i out = some (t, j)) : bt u (j - 1) = m := by
  rw [quo] at h
  split at h
  · cases h
  · split at h
    · rename_i hm; cases h; rw [Nat.add_sub_cancel]; exact hm
    · split at h
      · cases h
      · split at h
        · split at h
          · cases h
          · split at h
            · cases h
            · exact quo_last (i + 2) _ t j h
        · exact quo_last (i + 1) _ t j h
termination_by u.size - i
decreasing_by all_goals omega

set_option maxHeartbeats 2000000 in
set_option maxRecDepth 100000 in
theorem iQuoted6 {s p b mb nx ln ls ao cp n T w} (h : At s p b mb nx ln ls ao cp n T w) (hm : bt s p = 39) :
    Calls Tryd.prog 67 #[.pointer (some ⟨b, 0, none⟩), .int .i64 p, .int .i64 6] w (RP s p b mb ln ls T w) := by
  obtain ⟨c0, c1, c2, c3, c4, c5, fr, lt⟩ := id h.sc
  have hp := h.lt
  have hsz := h.sz
  have hst : blank s p = (p, true) := stop_of hp (by omega) (by omega) (by omega) (by omega)
  have hz : (s.extract (p + 1) s.size).size = s.size - (p + 1) := by rw [ByteArray.size_extract]; omega
  have hqe := quo_ext s 39 (p + 1) (by omega) (s.size - (p + 1)) 0 [] (by omega)
  rw [Nat.add_zero] at hqe
  have htk : tok s p = (match quo s 39 (p + 1) [] with | none => .bad 4 | some (t, j) => if bt s p = 39 ∧ t.length ≠ 1 then .bad 4 else .ok (if bt s p = 39 then 6 else 7) ⟨t.toArray⟩ (j - p)) := by
    unfold tok
    rw [if_neg (by rw [hm]; decide), if_neg (by rw [hm]; decide), if_pos (by omega), hm]
    rcases quo s 39 (p + 1) [] with _ | ⟨t, j⟩ <;> rfl
  rw [hqe] at htk
  have hM := fun w1 => iMeant (s.extract (p + 1) s.size) 39 w1 (by omega) (by omega)
  unfold qmV at hM
  have hline := h.line
  obtain ⟨p1, hp1⟩ : ∃ p1, p1 = p + 1 := ⟨_, rfl⟩
  rw [← hp1] at hM htk hz
  have hs1 : (p : Int) + 1 = (p1 : Int) := by omega
  have hl1 : (p1 : Int) ≤ s.size := by omega
  have hw1 : IntKind.i64.wrap (p1 : Int) = (p1 : Int) := by simp [IntKind.wrap, IntKind.bits, IntKind.signed]; omega
  have hd0 : w.drew.cell? ⟨b, 0, none⟩ = some (.string s) := c0
  have hbd0 : Below w.heap.size w w.drew := (Below.refl _ w).drew
  rcases q : quo (s.extract p1 s.size) 39 0 [] with _ | ⟨t, j⟩
  · rw [q] at htk hM
    have HE : Hid (∀ w1, Below w.heap.size w w1 → RP s p b mb ln ls T w (.returned (.int .i64 4)) w1) := fun w1 b1 => .inl ⟨4, rfl, h.same b1 (by decide) (lex_bad hp hst htk)⟩
    have HM := hide hM
    clear hM htk hqe hst q hm hp1
    go_enter Tryd.func67, Tryd.ntmps67
    go_wp2_with fail
    go_region_held3 (fun w' => w'.cell? ⟨b, 0, none⟩ = some (.string s)) (first | exact hd0 | exact k6) (first
      | (go_at_call 59; refine (iQuote6 _).mono ?_; rintro e w5 ⟨rfl, hw5⟩; obtain rfl : w.drew = w5 := hw5.symm)
      | (go_at_call 83; refine (HM.out w.drew).mono ?_; rintro e w6 ⟨rfl, b6⟩; have k6 : w6.cell? ⟨b, 0, none⟩ = some (.string s) := (b6.cell (p := ⟨b, 0, none⟩) lt).trans c0))
    all_goals
      go_wp2_with fail
      go_ret
      exact HE.out w6 (hbd0.trans b6)
  · have hgt := quo_gt _ _ _ _ q
    simp only [List.length_nil] at hgt
    rw [hz] at hgt
    rw [q] at htk hM
    simp only [Option.map] at htk
    obtain ⟨tb, htb⟩ : ∃ tb : ByteArray, tb = ⟨t.toArray⟩ := ⟨_, rfl⟩
    have htz : tb.size = t.length := by rw [htb]; simp [ByteArray.size]
    simp only [← htb] at htk hM
    rw [← htz] at htk
    obtain ⟨jj, hjj⟩ : ∃ jj, jj = p1 + j := ⟨_, rfl⟩
    have hs2 : (p1 : Int) + (j : Int) = (jj : Int) := by omega
    have hw2 : IntKind.i64.wrap (jj : Int) = (jj : Int) := by simp [IntKind.wrap, IntKind.bits, IntKind.signed]; omega
    have htz2 : (tb.size : Int) ≤ 1048576 := by omega
    have y0 : ((j : Int) == 0) = false := by simp; omega
    rw [← hjj] at htk
    have hpm : p + (jj - p) = jj := by omega
    have hbd : Bd s (p + (jj - p)) := by
      refine .inr (.inr ⟨by omega, ?_⟩)
      rw [hpm]
      have hlast := quo_last _ _ _ _ q
      rw [bt_ext s p1 _ (by omega)] at hlast
      rw [show jj - 1 = p1 + (j - 1) by omega, hlast]
      decide
    have HM := hide hM
    by_cases h1 : tb.size = 1
    · have y1 : ((tb.size : Int) != 1) = false := by simp; omega
      rw [if_neg (by simp [h1]), if_pos hm] at htk
      have hU := fun w1 (b1 : Below w.heap.size w w1) => iMeaning b s p jj mb nx ln ls (pc s p) ao cp n T 6 tb w1 (h.next b1).sc (h.next b1).tr (by have := h.tl; omega) h.col (pc_pos s p) (by have := pc_le s p; omega)
      have HF : Hid (∀ w1 w2, Below w.heap.size w w1 → Added b s mb jj ln ls (n + 1) (T ++ [⟨6, tb, ln, pc s p⟩]) w1 w2 → RP s p b mb ln ls T w (.returned (.int .i64 0)) w2) := by
        intro w1 w2 b1 hA
        obtain ⟨hA1, hA2⟩ := hA
        refine .inr ⟨rfl, rg_tok (n := n + 1) hp hst htk hbd ⟨?_, (KB.of (Nat.le_of_lt lt) b1).trans hA2⟩⟩
        obtain ⟨ao', cap', s1, t1⟩ := hA1
        rw [hpm]
        exact ⟨ao', cap', s1, by rw [← hline]; exact t1⟩
      have HU := hide hU
      clear hU hM htk hqe hst q hp1 hbd hgt hjj hpm htb htz hm h1
      go_enter Tryd.func67, Tryd.ntmps67
      go_wp2_with fail
      go_region_held3 (fun w' => w'.cell? ⟨b, 0, none⟩ = some (.string s)) (first | exact hd0 | exact k6) (first
        | (go_at_call 59; refine (iQuote6 _).mono ?_; rintro e w5 ⟨rfl, hw5⟩; obtain rfl : w.drew = w5 := hw5.symm)
        | (go_at_call 83; refine (HM.out w.drew).mono ?_; rintro e w6 ⟨rfl, b6⟩; have k6 : w6.cell? ⟨b, 0, none⟩ = some (.string s) := (b6.cell (p := ⟨b, 0, none⟩) lt).trans c0))
      all_goals
        go_wp2_with fail
        refine (HU.out w6 (hbd0.trans b6)).mono ?_
        rintro e w7 ⟨rfl, h7⟩
        go_wp2_with fail
        go_ret
        exact HF.out w6 w7 (hbd0.trans b6) h7
    · have y1 : ((tb.size : Int) != 1) = true := by simp; omega
      rw [if_pos ⟨hm, h1⟩] at htk
      have HE : Hid (∀ w1, Below w.heap.size w w1 → RP s p b mb ln ls T w (.returned (.int .i64 4)) w1) := fun w1 b1 => .inl ⟨4, rfl, h.same b1 (by decide) (lex_bad hp hst htk)⟩
      clear hM htk hqe hst q hm hp1 hbd hgt hjj hpm htb htz h1
      go_enter Tryd.func67, Tryd.ntmps67
      go_wp2_with fail
      go_region_held3 (fun w' => w'.cell? ⟨b, 0, none⟩ = some (.string s)) (first | exact hd0 | exact k6) (first
        | (go_at_call 59; refine (iQuote6 _).mono ?_; rintro e w5 ⟨rfl, hw5⟩; obtain rfl : w.drew = w5 := hw5.symm)
        | (go_at_call 83; refine (HM.out w.drew).mono ?_; rintro e w6 ⟨rfl, b6⟩; have k6 : w6.cell? ⟨b, 0, none⟩ = some (.string s) := (b6.cell (p := ⟨b, 0, none⟩) lt).trans c0))
      all_goals
        go_wp2_with fail
        go_ret
        exact HE.out w6 (hbd0.trans b6)

set_option maxHeartbeats 2000000 in
set_option maxRecDepth 100000 in
theorem iQuoted7 {s p b mb nx ln ls ao cp n T w} (h : At s p b mb nx ln ls ao cp n T w) (hm : bt s p = 34) :
    Calls Tryd.prog 67 #[.pointer (some ⟨b, 0, none⟩), .int .i64 p, .int .i64 7] w (RP s p b mb ln ls T w) := by
  obtain ⟨c0, c1, c2, c3, c4, c5, fr, lt⟩ := id h.sc
  have hp := h.lt
  have hsz := h.sz
  have hst : blank s p = (p, true) := stop_of hp (by omega) (by omega) (by omega) (by omega)
  have hz : (s.extract (p + 1) s.size).size = s.size - (p + 1) := by rw [ByteArray.size_extract]; omega
  have hqe := quo_ext s 34 (p + 1) (by omega) (s.size - (p + 1)) 0 [] (by omega)
  rw [Nat.add_zero] at hqe
  have htk : tok s p = (match quo s 34 (p + 1) [] with | none => .bad 4 | some (t, j) => if bt s p = 39 ∧ t.length ≠ 1 then .bad 4 else .ok (if bt s p = 39 then 6 else 7) ⟨t.toArray⟩ (j - p)) := by
    unfold tok
    rw [if_neg (by rw [hm]; decide), if_neg (by rw [hm]; decide), if_pos (by omega), hm]
    rcases quo s 34 (p + 1) [] with _ | ⟨t, j⟩ <;> rfl
  rw [hqe] at htk
  have hM := fun w1 => iMeant (s.extract (p + 1) s.size) 34 w1 (by omega) (by omega)
  unfold qmV at hM
  have hline := h.line
  obtain ⟨p1, hp1⟩ : ∃ p1, p1 = p + 1 := ⟨_, rfl⟩
  rw [← hp1] at hM htk hz
  have hs1 : (p : Int) + 1 = (p1 : Int) := by omega
  have hl1 : (p1 : Int) ≤ s.size := by omega
  have hw1 : IntKind.i64.wrap (p1 : Int) = (p1 : Int) := by simp [IntKind.wrap, IntKind.bits, IntKind.signed]; omega
  have hd0 : w.drew.cell? ⟨b, 0, none⟩ = some (.string s) := c0
  have hbd0 : Below w.heap.size w w.drew := (Below.refl _ w).drew
  rcases q : quo (s.extract p1 s.size) 34 0 [] with _ | ⟨t, j⟩
  · rw [q] at htk hM
    have HE : Hid (∀ w1, Below w.heap.size w w1 → RP s p b mb ln ls T w (.returned (.int .i64 4)) w1) := fun w1 b1 => .inl ⟨4, rfl, h.same b1 (by decide) (lex_bad hp hst htk)⟩
    have HM := hide hM
    clear hM htk hqe hst q hm hp1
    go_enter Tryd.func67, Tryd.ntmps67
    go_wp2_with fail
    go_region_held3 (fun w' => w'.cell? ⟨b, 0, none⟩ = some (.string s)) (first | exact hd0 | exact k6) (first
      | (go_at_call 59; refine (iQuote7 _).mono ?_; rintro e w5 ⟨rfl, hw5⟩; obtain rfl : w.drew = w5 := hw5.symm)
      | (go_at_call 83; refine (HM.out w.drew).mono ?_; rintro e w6 ⟨rfl, b6⟩; have k6 : w6.cell? ⟨b, 0, none⟩ = some (.string s) := (b6.cell (p := ⟨b, 0, none⟩) lt).trans c0))
    all_goals
      go_wp2_with fail
      go_ret
      exact HE.out w6 (hbd0.trans b6)
  · have hgt := quo_gt _ _ _ _ q
    simp only [List.length_nil] at hgt
    rw [hz] at hgt
    rw [q] at htk hM
    simp only [Option.map] at htk
    obtain ⟨tb, htb⟩ : ∃ tb : ByteArray, tb = ⟨t.toArray⟩ := ⟨_, rfl⟩
    have htz : tb.size = t.length := by rw [htb]; simp [ByteArray.size]
    simp only [← htb] at htk hM
    rw [← htz] at htk
    obtain ⟨jj, hjj⟩ : ∃ jj, jj = p1 + j := ⟨_, rfl⟩
    have hs2 : (p1 : Int) + (j : Int) = (jj : Int) := by omega
    have hw2 : IntKind.i64.wrap (jj : Int) = (jj : Int) := by simp [IntKind.wrap, IntKind.bits, IntKind.signed]; omega
    have htz2 : (tb.size : Int) ≤ 1048576 := by omega
    have y0 : ((j : Int) == 0) = false := by simp; omega
    rw [← hjj] at htk
    have hpm : p + (jj - p) = jj := by omega
    have hbd : Bd s (p + (jj - p)) := by
      refine .inr (.inr ⟨by omega, ?_⟩)
      rw [hpm]
      have hlast := quo_last _ _ _ _ q
      rw [bt_ext s p1 _ (by omega)] at hlast
      rw [show jj - 1 = p1 + (j - 1) by omega, hlast]
      decide
    have HM := hide hM
    have ychr : True := trivial
    clear ychr
    rw [if_neg (by omega), if_neg (by omega)] at htk
    have hU := fun w1 (b1 : Below w.heap.size w w1) => iMeaning b s p jj mb nx ln ls (pc s p) ao cp n T 7 tb w1 (h.next b1).sc (h.next b1).tr (by have := h.tl; omega) h.col (pc_pos s p) (by have := pc_le s p; omega)
    have HF : Hid (∀ w1 w2, Below w.heap.size w w1 → Added b s mb jj ln ls (n + 1) (T ++ [⟨7, tb, ln, pc s p⟩]) w1 w2 → RP s p b mb ln ls T w (.returned (.int .i64 0)) w2) := by
      intro w1 w2 b1 hA
      obtain ⟨hA1, hA2⟩ := hA
      refine .inr ⟨rfl, rg_tok (n := n + 1) hp hst htk hbd ⟨?_, (KB.of (Nat.le_of_lt lt) b1).trans hA2⟩⟩
      obtain ⟨ao', cap', s1, t1⟩ := hA1
      rw [hpm]
      exact ⟨ao', cap', s1, by rw [← hline]; exact t1⟩
    have HU := hide hU
    clear hU hM htk hqe hst q hp1 hbd hgt hjj hpm htb htz hm
    go_enter Tryd.func67, Tryd.ntmps67
    go_wp2_with fail
    go_region_held3 (fun w' => w'.cell? ⟨b, 0, none⟩ = some (.string s)) (first | exact hd0 | exact k6) (first
      | (go_at_call 59; refine (iQuote7 _).mono ?_; rintro e w5 ⟨rfl, hw5⟩; obtain rfl : w.drew = w5 := hw5.symm)
      | (go_at_call 83; refine (HM.out w.drew).mono ?_; rintro e w6 ⟨rfl, b6⟩; have k6 : w6.cell? ⟨b, 0, none⟩ = some (.string s) := (b6.cell (p := ⟨b, 0, none⟩) lt).trans c0))
    all_goals
      go_wp2_with fail
      refine (HU.out w6 (hbd0.trans b6)).mono ?_
      rintro e w7 ⟨rfl, h7⟩
      go_wp2_with fail
      go_ret
      exact HF.out w6 w7 (hbd0.trans b6) h7

end Go.Proofs.YtplhjcohkjomgaaDoor
