import Derived.Test.YtcnokpaicnjkfaaJG
namespace Go.Proofs.Ytcnokpaicnjkfaa
open Go.RowKit Go.Joins

set_option maxHeartbeats 2000000 in
set_option maxRecDepth 100000 in
theorem ms_other (k : Int) (nm : ByteArray) (mn : Bool) (la na ka aa : Option Addr) (ln lc nn nc kn kc an ac : Nat) (W : World) (hln : ln ≤ 9223372036854775807) (_hnn : nn ≤ 9223372036854775807) (_hkn : kn ≤ 9223372036854775807) (han : an ≤ 9223372036854775807) (h1 : (k == 1) = false) (h2 : (k == 2) = false) (h3 : (k == 3) = false) (h4 : (k == 4) = false) (h5 : (k == 5) = false) (h6 : (k == 6) = false) (h7 : (k == 7) = false) (h8 : (k == 8) = false) (h9 : (k == 9) = false) (h10 : (k == 10) = false) :
    Calls Try.prog 53 #[.agg #[.int .i64 k, .string nm, .bool mn, .slice la ln lc, .slice na nn nc, .slice ka kn kc, .slice aa an ac]] W fun e W' => e = .returned (.bool false) ∧ Below W.heap.size W W' := by
  have HB := hide (below_alloc1 W (.cells #[.int .i64 k, .string nm, .bool mn, .slice la ln lc, .slice na nn nc, .slice ka kn kc, .slice aa an ac] 36))
  have n2 : (k != 2) = true := by rw [bne, h2]; rfl
  have n6 : (k != 6) = true := by rw [bne, h6]; rfl
  have n7 : (k != 7) = true := by rw [bne, h7]; rfl
  have n8 : (k != 8) = true := by rw [bne, h8]; rfl
  go_enter Try.func53, Try.ntmps53
  go_wp2_with fail
  all_goals
    go_ret
    exact ⟨rfl, below_alloc1 _ _⟩

end Go.Proofs.Ytcnokpaicnjkfaa

namespace Go.Proofs.Ytcnokpaicnjkfaa
open Go.RowKit Go.Joins

set_option maxHeartbeats 2000000 in
set_option maxRecDepth 100000 in
theorem ms_1 (nm : ByteArray) (mn : Bool) (la na ka aa : Option Addr) (lc nc kn kc an ac : Nat) (lm : List Int) (ns : List ByteArray) (al : Tm) (W : World) (nb : Nat) (_hnb : nb ≤ W.heap.size) (hl : LR W (fun b => b < nb) la lc lm) (hn : SR W (fun b => b < nb) na nc ns) (hkn : kn ≤ maxLen) (han : an ≤ maxLen) (hal : al.len = an) (hnm : nm.size ≤ maxLen) (q : Bool) (hq : q = true ↔ shp ⟨⟨#[]⟩, [], 1, nm, mn, lm, ns⟩ kn al) :
    Calls Try.prog 53 #[.agg #[.int .i64 1, .string nm, .bool mn, .slice la lm.length lc, .slice na ns.length nc, .slice ka kn kc, .slice aa an ac]] W fun e W' => e = .returned (.bool q) ∧ Below W.heap.size W W' := by
  rw [shp_1] at hq
  obtain ⟨n3, hn3⟩ : ∃ n, n = lm.length := ⟨_, rfl⟩
  obtain ⟨n4, hn4⟩ : ∃ n, n = ns.length := ⟨_, rfl⟩
  have hx3 : n3 ≤ 9223372036854775807 := by have h2 := hl.le; have h3 := hl.mx; simp only [maxLen] at h3; omega
  have hx4 : n4 ≤ 9223372036854775807 := by have h2 := hn.le; have h3 := hn.mx; simp only [maxLen] at h3; omega
  have hx5 : kn ≤ 9223372036854775807 := hkn
  have hx6 : an ≤ 9223372036854775807 := han
  have hx1 : nm.size ≤ 9223372036854775807 := hnm
  have HB := hide (below_alloc1 W (.cells #[.int .i64 1, .string nm, .bool mn, .slice la n3 lc, .slice na n4 nc, .slice ka kn kc, .slice aa an ac] 36))
  rw [← hn3, ← hn4]
  clear hl
  clear hn
  by_cases g0 : 0 < n3
  · have g0' : (0 : Int) < n3 := by omega
    have HQ : Hid (q = false) := by
      cases hqq : q with
      | false => rfl
      | true => exact absurd (hq.1 hqq).1 (by intro e; rw [e] at hn3; simp at hn3; omega)
    clear hq hn3 hn4
    go_enter Try.func53, Try.ntmps53
    go_wp2_with fail
    go_ret
    exact ⟨by rw [HQ.out]; rfl, below_alloc1 _ _⟩
  have e3 : n3 = 0 := by omega
  have hlm : lm = [] := List.length_eq_zero_iff.1 (by omega)
  subst e3
  cases mn with
  | true =>
    have HQ : Hid (q = false) := by
      cases hqq : q with
      | false => rfl
      | true => exact absurd (hq.1 hqq).2.1 (by simp)
    clear hq hn3 hn4
    go_enter Try.func53, Try.ntmps53
    go_wp2_with fail
    go_ret
    exact ⟨by rw [HQ.out]; rfl, below_alloc1 _ _⟩
  | false =>
  by_cases g6 : 0 < an
  · have g6' : (0 : Int) < an := by omega
    have HQ : Hid (q = false) := by
      cases hqq : q with
      | false => rfl
      | true => exact absurd (hq.1 hqq).2.2.1 (by omega)
    clear hq hn3 hn4
    go_enter Try.func53, Try.ntmps53
    go_wp2_with fail
    go_ret
    exact ⟨by rw [HQ.out]; rfl, below_alloc1 _ _⟩
  have e6 : an = 0 := by omega
  subst e6
  by_cases g4 : 0 < n4
  · have g4' : (0 : Int) < n4 := by omega
    have HQ : Hid (q = false) := by
      cases hqq : q with
      | false => rfl
      | true => exact absurd (hq.1 hqq).2.2.2.1 (by intro e; rw [e] at hn4; simp at hn4; omega)
    clear hq hn3 hn4
    go_enter Try.func53, Try.ntmps53
    go_wp2_with fail
    go_ret
    exact ⟨by rw [HQ.out]; rfl, below_alloc1 _ _⟩
  have e4 : n4 = 0 := by omega
  have hns : ns = [] := List.length_eq_zero_iff.1 (by omega)
  subst e4
  by_cases g1 : nm.toList = []
  · have g1' : nm.toList.isEmpty = true := by rw [g1]; rfl
    have HQ : Hid (q = false) := by
      cases hqq : q with
      | false => rfl
      | true => exact absurd (hq.1 hqq).2.2.2.2.1 (by intro h; exact h ((empty_iff nm).1 g1))
    clear hq hn3 hn4
    go_enter Try.func53, Try.ntmps53
    go_wp2_with fail
    go_ret
    exact ⟨by rw [HQ.out]; rfl, below_alloc1 _ _⟩
  have g1a : nm.toList.isEmpty = false := by cases hh : nm.toList with
    | nil => exact absurd hh g1
    | cons _ _ => rfl
  have g1b : (nm.toList == []) = false := by cases hh : nm.toList with
    | nil => exact absurd hh g1
    | cons _ _ => rfl
  have g1c : ¬ nm = ⟨#[]⟩ := fun h => g1 ((empty_iff nm).2 h)
  by_cases g5 : ¬ kn = 0
  · have g5' : ((kn : Int) == 0) = false := by rw [beq_eq_false_iff_ne]; omega
    have g5x : ¬ (kn : Int) = 0 := by omega
    have HQ : Hid (q = false) := by
      cases hqq : q with
      | false => rfl
      | true => exact absurd (hq.1 hqq).2.2.2.2.2 (by exact g5)
    clear hq hn3 hn4 g5
    go_enter Try.func53, Try.ntmps53
    go_wp2_with fail
    go_ret
    exact ⟨by rw [HQ.out]; rfl, below_alloc1 _ _⟩
  have e5 : kn = 0 := by omega
  clear g5
  subst e5
  have HQ : Hid (q = true) := hq.2 ⟨hlm, rfl, by omega, hns, g1c, rfl⟩
  clear hq hn3 hn4
  go_enter Try.func53, Try.ntmps53
  go_wp2_with fail
  go_ret
  exact ⟨by rw [HQ.out]; rfl, below_alloc1 _ _⟩

end Go.Proofs.Ytcnokpaicnjkfaa

namespace Go.Proofs.Ytcnokpaicnjkfaa
open Go.RowKit Go.Joins

set_option maxHeartbeats 2000000 in
set_option maxRecDepth 100000 in
theorem ms_2a (nm : ByteArray) (mn : Bool) (la na ka aa : Option Addr) (lc nc kn kc an ac : Nat) (lm : List Int) (ns : List ByteArray) (al : Tm) (W : World) (nb : Nat) (hnb : nb ≤ W.heap.size) (hl : LR W (fun b => b < nb) la lc lm) (hn : SR W (fun b => b < nb) na nc ns) (hkn : kn ≤ maxLen) (han : an ≤ maxLen) (hal : al.len = an) (hnm : nm.size ≤ maxLen) (q : Bool) (hq : q = true ↔ shp ⟨⟨#[]⟩, [], 2, nm, mn, lm, ns⟩ kn al) (hv : 0 < lm.length) :
    Calls Try.prog 53 #[.agg #[.int .i64 2, .string nm, .bool mn, .slice la lm.length lc, .slice na ns.length nc, .slice ka kn kc, .slice aa an ac]] W fun e W' => e = .returned (.bool q) ∧ Below W.heap.size W W' := by
  rw [shp_2] at hq
  obtain ⟨n3, hn3⟩ : ∃ n, n = lm.length := ⟨_, rfl⟩
  obtain ⟨n4, hn4⟩ : ∃ n, n = ns.length := ⟨_, rfl⟩
  have hx3 : n3 ≤ 9223372036854775807 := by have h2 := hl.le; have h3 := hl.mx; simp only [maxLen] at h3; omega
  have hx4 : n4 ≤ 9223372036854775807 := by have h2 := hn.le; have h3 := hn.mx; simp only [maxLen] at h3; omega
  have hx5 : kn ≤ 9223372036854775807 := hkn
  have hx6 : an ≤ 9223372036854775807 := han
  have hx1 : nm.size ≤ 9223372036854775807 := hnm
  obtain ⟨q2, hq2⟩ : ∃ q2 : Bool, q2 = true ↔ bigBad mn lm := by
    by_cases h : bigBad mn lm
    · exact ⟨true, by simp [h]⟩
    · exact ⟨false, by simp [h]⟩
  have HC : Hid (∀ V, Below W.heap.size W V → Calls Try.prog 58 #[.agg #[.bool mn, .slice la n3 lc]] V fun e W' => e = .returned (.bool q2) ∧ Below V.heap.size V W') := fun V bV => by
    rw [hn3]
    exact m_big mn la lc lm V nb (Nat.le_trans hnb bV.size) (hl.below bV (fun b hb => Nat.lt_of_lt_of_le hb hnb)) q2 hq2
  have HQ2 := hide hq2
  clear hq2
  have HB := hide (below_alloc1 W (.cells #[.int .i64 2, .string nm, .bool mn, .slice la n3 lc, .slice na n4 nc, .slice ka kn kc, .slice aa an ac] 36))
  rw [← hn3, ← hn4]
  have g0 : 0 < n3 := by omega
  have g0' : (0 : Int) < n3 := by omega
  clear hv
  clear hn
  by_cases g6 : 0 < an
  · have g6' : (0 : Int) < an := by omega
    have HQ : Hid (q = false) := by
      cases hqq : q with
      | false => rfl
      | true => exact absurd (hq.1 hqq).1 (by omega)
    clear hq hn3 hn4
    go_enter Try.func53, Try.ntmps53
    go_wp2_with fail
    go_ret
    exact ⟨by rw [HQ.out]; rfl, below_alloc1 _ _⟩
  have e6 : an = 0 := by omega
  subst e6
  by_cases g4 : 0 < n4
  · have g4' : (0 : Int) < n4 := by omega
    have HQ : Hid (q = false) := by
      cases hqq : q with
      | false => rfl
      | true => exact absurd (hq.1 hqq).2.1 (by intro e; rw [e] at hn4; simp at hn4; omega)
    clear hq hn3 hn4
    go_enter Try.func53, Try.ntmps53
    go_wp2_with fail
    go_ret
    exact ⟨by rw [HQ.out]; rfl, below_alloc1 _ _⟩
  have e4 : n4 = 0 := by omega
  have hns : ns = [] := List.length_eq_zero_iff.1 (by omega)
  subst e4
  by_cases g1 : ¬ nm.toList = []
  · have g1a : nm.toList.isEmpty = false := by cases hh : nm.toList with
      | nil => exact absurd hh g1
      | cons _ _ => rfl
    have g1b : (nm.toList == []) = false := by cases hh : nm.toList with
      | nil => exact absurd hh g1
      | cons _ _ => rfl
    have HQ : Hid (q = false) := by
      cases hqq : q with
      | false => rfl
      | true => exact absurd (hq.1 hqq).2.2.1 (by intro h; exact g1 ((empty_iff nm).2 h))
    clear hq hn3 hn4
    go_enter Try.func53, Try.ntmps53
    go_wp2_with fail
    go_ret
    exact ⟨by rw [HQ.out]; rfl, below_alloc1 _ _⟩
  have g1n : nm = ⟨#[]⟩ := (empty_iff nm).1 (Decidable.not_not.1 g1)
  clear g1
  subst g1n
  by_cases g5 : ¬ kn = 0
  · have g5' : ((kn : Int) == 0) = false := by rw [beq_eq_false_iff_ne]; omega
    have g5x : ¬ (kn : Int) = 0 := by omega
    have HQ : Hid (q = false) := by
      cases hqq : q with
      | false => rfl
      | true => exact absurd (hq.1 hqq).2.2.2.1 (by exact g5)
    clear hq hn3 hn4 g5
    go_enter Try.func53, Try.ntmps53
    go_wp2_with fail
    go_ret
    exact ⟨by rw [HQ.out]; rfl, below_alloc1 _ _⟩
  have e5 : kn = 0 := by omega
  clear g5
  subst e5
  have HQ : Hid ((!q2) = q) := by
    show (!q2) = q
    have h4 := HQ2.out
    by_cases hL : bigBad mn lm
    · rw [h4.2 hL]
      cases hqq : q with
      | false => rfl
      | true => exact absurd hL (hq.1 hqq).2.2.2.2
    · cases q2 with
      | true => exact absurd (h4.1 rfl) hL
      | false => exact (hq.2 ⟨by omega, hns, rfl, rfl, hL⟩).symm
  clear hq hn3 hn4 HQ2
  have HCC := hide (HC.out _ HB.out)
  clear HC
  go_enter Try.func53, Try.ntmps53
  go_wp2_with fail
  refine HCC.out.mono ?_
  rintro e w1 ⟨rfl, b1⟩
  have HB1 := hide (HB.out.trans (b1.mono HB.out.size))
  clear b1 HCC
  go_wp2_with fail
  go_ret
  exact ⟨by rw [← HQ.out]; rfl, HB1.out⟩

end Go.Proofs.Ytcnokpaicnjkfaa

namespace Go.Proofs.Ytcnokpaicnjkfaa
open Go.RowKit Go.Joins

set_option maxHeartbeats 2000000 in
set_option maxRecDepth 100000 in
theorem ms_2b (nm : ByteArray) (mn : Bool) (la na ka aa : Option Addr) (lc nc kn kc an ac : Nat) (lm : List Int) (ns : List ByteArray) (al : Tm) (W : World) (nb : Nat) (hnb : nb ≤ W.heap.size) (hl : LR W (fun b => b < nb) la lc lm) (hn : SR W (fun b => b < nb) na nc ns) (hkn : kn ≤ maxLen) (han : an ≤ maxLen) (hal : al.len = an) (hnm : nm.size ≤ maxLen) (q : Bool) (hq : q = true ↔ shp ⟨⟨#[]⟩, [], 2, nm, mn, lm, ns⟩ kn al) (hv : lm.length = 0) (hm : mn = true) :
    Calls Try.prog 53 #[.agg #[.int .i64 2, .string nm, .bool mn, .slice la lm.length lc, .slice na ns.length nc, .slice ka kn kc, .slice aa an ac]] W fun e W' => e = .returned (.bool q) ∧ Below W.heap.size W W' := by
  rw [shp_2] at hq
  obtain ⟨n3, hn3⟩ : ∃ n, n = lm.length := ⟨_, rfl⟩
  obtain ⟨n4, hn4⟩ : ∃ n, n = ns.length := ⟨_, rfl⟩
  have hx3 : n3 ≤ 9223372036854775807 := by have h2 := hl.le; have h3 := hl.mx; simp only [maxLen] at h3; omega
  have hx4 : n4 ≤ 9223372036854775807 := by have h2 := hn.le; have h3 := hn.mx; simp only [maxLen] at h3; omega
  have hx5 : kn ≤ 9223372036854775807 := hkn
  have hx6 : an ≤ 9223372036854775807 := han
  have hx1 : nm.size ≤ 9223372036854775807 := hnm
  obtain ⟨q2, hq2⟩ : ∃ q2 : Bool, q2 = true ↔ bigBad mn lm := by
    by_cases h : bigBad mn lm
    · exact ⟨true, by simp [h]⟩
    · exact ⟨false, by simp [h]⟩
  have HC : Hid (∀ V, Below W.heap.size W V → Calls Try.prog 58 #[.agg #[.bool mn, .slice la n3 lc]] V fun e W' => e = .returned (.bool q2) ∧ Below V.heap.size V W') := fun V bV => by
    rw [hn3]
    exact m_big mn la lc lm V nb (Nat.le_trans hnb bV.size) (hl.below bV (fun b hb => Nat.lt_of_lt_of_le hb hnb)) q2 hq2
  have HQ2 := hide hq2
  clear hq2
  have HB := hide (below_alloc1 W (.cells #[.int .i64 2, .string nm, .bool mn, .slice la n3 lc, .slice na n4 nc, .slice ka kn kc, .slice aa an ac] 36))
  rw [← hn3, ← hn4]
  have e3 : n3 = 0 := by omega
  subst e3
  subst hm
  clear hv
  clear hn
  by_cases g6 : 0 < an
  · have g6' : (0 : Int) < an := by omega
    have HQ : Hid (q = false) := by
      cases hqq : q with
      | false => rfl
      | true => exact absurd (hq.1 hqq).1 (by omega)
    clear hq hn3 hn4
    go_enter Try.func53, Try.ntmps53
    go_wp2_with fail
    go_ret
    exact ⟨by rw [HQ.out]; rfl, below_alloc1 _ _⟩
  have e6 : an = 0 := by omega
  subst e6
  by_cases g4 : 0 < n4
  · have g4' : (0 : Int) < n4 := by omega
    have HQ : Hid (q = false) := by
      cases hqq : q with
      | false => rfl
      | true => exact absurd (hq.1 hqq).2.1 (by intro e; rw [e] at hn4; simp at hn4; omega)
    clear hq hn3 hn4
    go_enter Try.func53, Try.ntmps53
    go_wp2_with fail
    go_ret
    exact ⟨by rw [HQ.out]; rfl, below_alloc1 _ _⟩
  have e4 : n4 = 0 := by omega
  have hns : ns = [] := List.length_eq_zero_iff.1 (by omega)
  subst e4
  by_cases g1 : ¬ nm.toList = []
  · have g1a : nm.toList.isEmpty = false := by cases hh : nm.toList with
      | nil => exact absurd hh g1
      | cons _ _ => rfl
    have g1b : (nm.toList == []) = false := by cases hh : nm.toList with
      | nil => exact absurd hh g1
      | cons _ _ => rfl
    have HQ : Hid (q = false) := by
      cases hqq : q with
      | false => rfl
      | true => exact absurd (hq.1 hqq).2.2.1 (by intro h; exact g1 ((empty_iff nm).2 h))
    clear hq hn3 hn4
    go_enter Try.func53, Try.ntmps53
    go_wp2_with fail
    go_ret
    exact ⟨by rw [HQ.out]; rfl, below_alloc1 _ _⟩
  have g1n : nm = ⟨#[]⟩ := (empty_iff nm).1 (Decidable.not_not.1 g1)
  clear g1
  subst g1n
  by_cases g5 : ¬ kn = 0
  · have g5' : ((kn : Int) == 0) = false := by rw [beq_eq_false_iff_ne]; omega
    have g5x : ¬ (kn : Int) = 0 := by omega
    have HQ : Hid (q = false) := by
      cases hqq : q with
      | false => rfl
      | true => exact absurd (hq.1 hqq).2.2.2.1 (by exact g5)
    clear hq hn3 hn4 g5
    go_enter Try.func53, Try.ntmps53
    go_wp2_with fail
    go_ret
    exact ⟨by rw [HQ.out]; rfl, below_alloc1 _ _⟩
  have e5 : kn = 0 := by omega
  clear g5
  subst e5
  have HQ : Hid ((!q2) = q) := by
    show (!q2) = q
    have h4 := HQ2.out
    by_cases hL : bigBad true lm
    · rw [h4.2 hL]
      cases hqq : q with
      | false => rfl
      | true => exact absurd hL (hq.1 hqq).2.2.2.2
    · cases q2 with
      | true => exact absurd (h4.1 rfl) hL
      | false => exact (hq.2 ⟨by omega, hns, rfl, rfl, hL⟩).symm
  clear hq hn3 hn4 HQ2
  have HCC := hide (HC.out _ HB.out)
  clear HC
  go_enter Try.func53, Try.ntmps53
  go_wp2_with fail
  refine HCC.out.mono ?_
  rintro e w1 ⟨rfl, b1⟩
  have HB1 := hide (HB.out.trans (b1.mono HB.out.size))
  clear b1 HCC
  go_wp2_with fail
  go_ret
  exact ⟨by rw [← HQ.out]; rfl, HB1.out⟩

end Go.Proofs.Ytcnokpaicnjkfaa

namespace Go.Proofs.Ytcnokpaicnjkfaa
open Go.RowKit Go.Joins

set_option maxHeartbeats 2000000 in
set_option maxRecDepth 100000 in
theorem ms_2c (nm : ByteArray) (mn : Bool) (la na ka aa : Option Addr) (lc nc kn kc an ac : Nat) (lm : List Int) (ns : List ByteArray) (al : Tm) (W : World) (nb : Nat) (hnb : nb ≤ W.heap.size) (hl : LR W (fun b => b < nb) la lc lm) (hn : SR W (fun b => b < nb) na nc ns) (hkn : kn ≤ maxLen) (han : an ≤ maxLen) (hal : al.len = an) (hnm : nm.size ≤ maxLen) (q : Bool) (hq : q = true ↔ shp ⟨⟨#[]⟩, [], 2, nm, mn, lm, ns⟩ kn al) (hv : lm.length = 0) (hm : mn = false) :
    Calls Try.prog 53 #[.agg #[.int .i64 2, .string nm, .bool mn, .slice la lm.length lc, .slice na ns.length nc, .slice ka kn kc, .slice aa an ac]] W fun e W' => e = .returned (.bool q) ∧ Below W.heap.size W W' := by
  rw [shp_2] at hq
  obtain ⟨n3, hn3⟩ : ∃ n, n = lm.length := ⟨_, rfl⟩
  obtain ⟨n4, hn4⟩ : ∃ n, n = ns.length := ⟨_, rfl⟩
  have hx3 : n3 ≤ 9223372036854775807 := by have h2 := hl.le; have h3 := hl.mx; simp only [maxLen] at h3; omega
  have hx4 : n4 ≤ 9223372036854775807 := by have h2 := hn.le; have h3 := hn.mx; simp only [maxLen] at h3; omega
  have hx5 : kn ≤ 9223372036854775807 := hkn
  have hx6 : an ≤ 9223372036854775807 := han
  have hx1 : nm.size ≤ 9223372036854775807 := hnm
  obtain ⟨q2, hq2⟩ : ∃ q2 : Bool, q2 = true ↔ bigBad mn lm := by
    by_cases h : bigBad mn lm
    · exact ⟨true, by simp [h]⟩
    · exact ⟨false, by simp [h]⟩
  have HC : Hid (∀ V, Below W.heap.size W V → Calls Try.prog 58 #[.agg #[.bool mn, .slice la n3 lc]] V fun e W' => e = .returned (.bool q2) ∧ Below V.heap.size V W') := fun V bV => by
    rw [hn3]
    exact m_big mn la lc lm V nb (Nat.le_trans hnb bV.size) (hl.below bV (fun b hb => Nat.lt_of_lt_of_le hb hnb)) q2 hq2
  have HQ2 := hide hq2
  clear hq2
  have HB := hide (below_alloc1 W (.cells #[.int .i64 2, .string nm, .bool mn, .slice la n3 lc, .slice na n4 nc, .slice ka kn kc, .slice aa an ac] 36))
  rw [← hn3, ← hn4]
  have e3 : n3 = 0 := by omega
  subst e3
  subst hm
  clear hv
  clear hn
  by_cases g6 : 0 < an
  · have g6' : (0 : Int) < an := by omega
    have HQ : Hid (q = false) := by
      cases hqq : q with
      | false => rfl
      | true => exact absurd (hq.1 hqq).1 (by omega)
    clear hq hn3 hn4
    go_enter Try.func53, Try.ntmps53
    go_wp2_with fail
    go_ret
    exact ⟨by rw [HQ.out]; rfl, below_alloc1 _ _⟩
  have e6 : an = 0 := by omega
  subst e6
  by_cases g4 : 0 < n4
  · have g4' : (0 : Int) < n4 := by omega
    have HQ : Hid (q = false) := by
      cases hqq : q with
      | false => rfl
      | true => exact absurd (hq.1 hqq).2.1 (by intro e; rw [e] at hn4; simp at hn4; omega)
    clear hq hn3 hn4
    go_enter Try.func53, Try.ntmps53
    go_wp2_with fail
    go_ret
    exact ⟨by rw [HQ.out]; rfl, below_alloc1 _ _⟩
  have e4 : n4 = 0 := by omega
  have hns : ns = [] := List.length_eq_zero_iff.1 (by omega)
  subst e4
  by_cases g1 : ¬ nm.toList = []
  · have g1a : nm.toList.isEmpty = false := by cases hh : nm.toList with
      | nil => exact absurd hh g1
      | cons _ _ => rfl
    have g1b : (nm.toList == []) = false := by cases hh : nm.toList with
      | nil => exact absurd hh g1
      | cons _ _ => rfl
    have HQ : Hid (q = false) := by
      cases hqq : q with
      | false => rfl
      | true => exact absurd (hq.1 hqq).2.2.1 (by intro h; exact g1 ((empty_iff nm).2 h))
    clear hq hn3 hn4
    go_enter Try.func53, Try.ntmps53
    go_wp2_with fail
    go_ret
    exact ⟨by rw [HQ.out]; rfl, below_alloc1 _ _⟩
  have g1n : nm = ⟨#[]⟩ := (empty_iff nm).1 (Decidable.not_not.1 g1)
  clear g1
  subst g1n
  by_cases g5 : ¬ kn = 0
  · have g5' : ((kn : Int) == 0) = false := by rw [beq_eq_false_iff_ne]; omega
    have g5x : ¬ (kn : Int) = 0 := by omega
    have HQ : Hid (q = false) := by
      cases hqq : q with
      | false => rfl
      | true => exact absurd (hq.1 hqq).2.2.2.1 (by exact g5)
    clear hq hn3 hn4 g5
    go_enter Try.func53, Try.ntmps53
    go_wp2_with fail
    go_ret
    exact ⟨by rw [HQ.out]; rfl, below_alloc1 _ _⟩
  have e5 : kn = 0 := by omega
  clear g5
  subst e5
  have HQ : Hid ((!q2) = q) := by
    show (!q2) = q
    have h4 := HQ2.out
    by_cases hL : bigBad false lm
    · rw [h4.2 hL]
      cases hqq : q with
      | false => rfl
      | true => exact absurd hL (hq.1 hqq).2.2.2.2
    · cases q2 with
      | true => exact absurd (h4.1 rfl) hL
      | false => exact (hq.2 ⟨by omega, hns, rfl, rfl, hL⟩).symm
  clear hq hn3 hn4 HQ2
  have HCC := hide (HC.out _ HB.out)
  clear HC
  go_enter Try.func53, Try.ntmps53
  go_wp2_with fail
  refine HCC.out.mono ?_
  rintro e w1 ⟨rfl, b1⟩
  have HB1 := hide (HB.out.trans (b1.mono HB.out.size))
  clear b1 HCC
  go_wp2_with fail
  go_ret
  exact ⟨by rw [← HQ.out]; rfl, HB1.out⟩

end Go.Proofs.Ytcnokpaicnjkfaa

namespace Go.Proofs.Ytcnokpaicnjkfaa
open Go.RowKit Go.Joins

set_option maxHeartbeats 2000000 in
set_option maxRecDepth 100000 in
theorem ms_3 (nm : ByteArray) (mn : Bool) (la na ka aa : Option Addr) (lc nc kn kc an ac : Nat) (lm : List Int) (ns : List ByteArray) (al : Tm) (W : World) (nb : Nat) (_hnb : nb ≤ W.heap.size) (hl : LR W (fun b => b < nb) la lc lm) (hn : SR W (fun b => b < nb) na nc ns) (hkn : kn ≤ maxLen) (han : an ≤ maxLen) (hal : al.len = an) (hnm : nm.size ≤ maxLen) (q : Bool) (hq : q = true ↔ shp ⟨⟨#[]⟩, [], 3, nm, mn, lm, ns⟩ kn al) :
    Calls Try.prog 53 #[.agg #[.int .i64 3, .string nm, .bool mn, .slice la lm.length lc, .slice na ns.length nc, .slice ka kn kc, .slice aa an ac]] W fun e W' => e = .returned (.bool q) ∧ Below W.heap.size W W' := by
  rw [shp_3] at hq
  obtain ⟨n3, hn3⟩ : ∃ n, n = lm.length := ⟨_, rfl⟩
  obtain ⟨n4, hn4⟩ : ∃ n, n = ns.length := ⟨_, rfl⟩
  have hx3 : n3 ≤ 9223372036854775807 := by have h2 := hl.le; have h3 := hl.mx; simp only [maxLen] at h3; omega
  have hx4 : n4 ≤ 9223372036854775807 := by have h2 := hn.le; have h3 := hn.mx; simp only [maxLen] at h3; omega
  have hx5 : kn ≤ 9223372036854775807 := hkn
  have hx6 : an ≤ 9223372036854775807 := han
  have hx1 : nm.size ≤ 9223372036854775807 := hnm
  have HB := hide (below_alloc1 W (.cells #[.int .i64 3, .string nm, .bool mn, .slice la n3 lc, .slice na n4 nc, .slice ka kn kc, .slice aa an ac] 36))
  rw [← hn3, ← hn4]
  clear hl
  clear hn
  by_cases g0 : 0 < n3
  · have g0' : (0 : Int) < n3 := by omega
    have HQ : Hid (q = false) := by
      cases hqq : q with
      | false => rfl
      | true => exact absurd (hq.1 hqq).1 (by intro e; rw [e] at hn3; simp at hn3; omega)
    clear hq hn3 hn4
    go_enter Try.func53, Try.ntmps53
    go_wp2_with fail
    go_ret
    exact ⟨by rw [HQ.out]; rfl, below_alloc1 _ _⟩
  have e3 : n3 = 0 := by omega
  have hlm : lm = [] := List.length_eq_zero_iff.1 (by omega)
  subst e3
  cases mn with
  | true =>
    have HQ : Hid (q = false) := by
      cases hqq : q with
      | false => rfl
      | true => exact absurd (hq.1 hqq).2.1 (by simp)
    clear hq hn3 hn4
    go_enter Try.func53, Try.ntmps53
    go_wp2_with fail
    go_ret
    exact ⟨by rw [HQ.out]; rfl, below_alloc1 _ _⟩
  | false =>
  by_cases g6 : 0 < an
  · have g6' : (0 : Int) < an := by omega
    have HQ : Hid (q = false) := by
      cases hqq : q with
      | false => rfl
      | true => exact absurd (hq.1 hqq).2.2.1 (by omega)
    clear hq hn3 hn4
    go_enter Try.func53, Try.ntmps53
    go_wp2_with fail
    go_ret
    exact ⟨by rw [HQ.out]; rfl, below_alloc1 _ _⟩
  have e6 : an = 0 := by omega
  subst e6
  by_cases g4 : 0 < n4
  · have g4' : (0 : Int) < n4 := by omega
    have HQ : Hid (q = false) := by
      cases hqq : q with
      | false => rfl
      | true => exact absurd (hq.1 hqq).2.2.2.1 (by intro e; rw [e] at hn4; simp at hn4; omega)
    clear hq hn3 hn4
    go_enter Try.func53, Try.ntmps53
    go_wp2_with fail
    go_ret
    exact ⟨by rw [HQ.out]; rfl, below_alloc1 _ _⟩
  have e4 : n4 = 0 := by omega
  have hns : ns = [] := List.length_eq_zero_iff.1 (by omega)
  subst e4
  by_cases g7 : ¬ nm.size = 1
  · have g7' : ((nm.size : Int) == 1) = false := by rw [beq_eq_false_iff_ne]; omega
    have g7x : ¬ (nm.size : Int) = 1 := by omega
    have HQ : Hid (q = false) := by
      cases hqq : q with
      | false => rfl
      | true => exact absurd (hq.1 hqq).2.2.2.2.1 (by exact g7)
    clear hq hn3 hn4 g7
    go_enter Try.func53, Try.ntmps53
    go_wp2_with fail
    go_ret
    exact ⟨by rw [HQ.out]; rfl, below_alloc1 _ _⟩
  have g7p : nm.size = 1 := by omega
  have g7a : (nm.size : Int) = 1 := by omega
  have HG7 := hide g7p
  clear g7 g7p
  by_cases g5 : ¬ kn = 0
  · have g5' : ((kn : Int) == 0) = false := by rw [beq_eq_false_iff_ne]; omega
    have g5x : ¬ (kn : Int) = 0 := by omega
    have HQ : Hid (q = false) := by
      cases hqq : q with
      | false => rfl
      | true => exact absurd (hq.1 hqq).2.2.2.2.2 (by exact g5)
    clear hq hn3 hn4 g5
    go_enter Try.func53, Try.ntmps53
    go_wp2_with fail
    go_ret
    exact ⟨by rw [HQ.out]; rfl, below_alloc1 _ _⟩
  have e5 : kn = 0 := by omega
  clear g5
  subst e5
  have HQ : Hid (q = true) := hq.2 ⟨hlm, rfl, by omega, hns, HG7.out, rfl⟩
  clear hq hn3 hn4
  go_enter Try.func53, Try.ntmps53
  go_wp2_with fail
  go_ret
  exact ⟨by rw [HQ.out]; rfl, below_alloc1 _ _⟩

end Go.Proofs.Ytcnokpaicnjkfaa

namespace Go.Proofs.Ytcnokpaicnjkfaa
open Go.RowKit Go.Joins

set_option maxHeartbeats 2000000 in
set_option maxRecDepth 100000 in
theorem ms_4 (nm : ByteArray) (mn : Bool) (la na ka aa : Option Addr) (lc nc kn kc an ac : Nat) (lm : List Int) (ns : List ByteArray) (al : Tm) (W : World) (nb : Nat) (_hnb : nb ≤ W.heap.size) (hl : LR W (fun b => b < nb) la lc lm) (hn : SR W (fun b => b < nb) na nc ns) (hkn : kn ≤ maxLen) (han : an ≤ maxLen) (hal : al.len = an) (hnm : nm.size ≤ maxLen) (q : Bool) (hq : q = true ↔ shp ⟨⟨#[]⟩, [], 4, nm, mn, lm, ns⟩ kn al) :
    Calls Try.prog 53 #[.agg #[.int .i64 4, .string nm, .bool mn, .slice la lm.length lc, .slice na ns.length nc, .slice ka kn kc, .slice aa an ac]] W fun e W' => e = .returned (.bool q) ∧ Below W.heap.size W W' := by
  rw [shp_4] at hq
  obtain ⟨n3, hn3⟩ : ∃ n, n = lm.length := ⟨_, rfl⟩
  obtain ⟨n4, hn4⟩ : ∃ n, n = ns.length := ⟨_, rfl⟩
  have hx3 : n3 ≤ 9223372036854775807 := by have h2 := hl.le; have h3 := hl.mx; simp only [maxLen] at h3; omega
  have hx4 : n4 ≤ 9223372036854775807 := by have h2 := hn.le; have h3 := hn.mx; simp only [maxLen] at h3; omega
  have hx5 : kn ≤ 9223372036854775807 := hkn
  have hx6 : an ≤ 9223372036854775807 := han
  have hx1 : nm.size ≤ 9223372036854775807 := hnm
  have HB := hide (below_alloc1 W (.cells #[.int .i64 4, .string nm, .bool mn, .slice la n3 lc, .slice na n4 nc, .slice ka kn kc, .slice aa an ac] 36))
  rw [← hn3, ← hn4]
  clear hl
  clear hn
  by_cases g0 : 0 < n3
  · have g0' : (0 : Int) < n3 := by omega
    have HQ : Hid (q = false) := by
      cases hqq : q with
      | false => rfl
      | true => exact absurd (hq.1 hqq).1 (by intro e; rw [e] at hn3; simp at hn3; omega)
    clear hq hn3 hn4
    go_enter Try.func53, Try.ntmps53
    go_wp2_with fail
    go_ret
    exact ⟨by rw [HQ.out]; rfl, below_alloc1 _ _⟩
  have e3 : n3 = 0 := by omega
  have hlm : lm = [] := List.length_eq_zero_iff.1 (by omega)
  subst e3
  cases mn with
  | true =>
    have HQ : Hid (q = false) := by
      cases hqq : q with
      | false => rfl
      | true => exact absurd (hq.1 hqq).2.1 (by simp)
    clear hq hn3 hn4
    go_enter Try.func53, Try.ntmps53
    go_wp2_with fail
    go_ret
    exact ⟨by rw [HQ.out]; rfl, below_alloc1 _ _⟩
  | false =>
  by_cases g6 : 0 < an
  · have g6' : (0 : Int) < an := by omega
    have HQ : Hid (q = false) := by
      cases hqq : q with
      | false => rfl
      | true => exact absurd (hq.1 hqq).2.2.1 (by omega)
    clear hq hn3 hn4
    go_enter Try.func53, Try.ntmps53
    go_wp2_with fail
    go_ret
    exact ⟨by rw [HQ.out]; rfl, below_alloc1 _ _⟩
  have e6 : an = 0 := by omega
  subst e6
  by_cases g4 : 0 < n4
  · have g4' : (0 : Int) < n4 := by omega
    have HQ : Hid (q = false) := by
      cases hqq : q with
      | false => rfl
      | true => exact absurd (hq.1 hqq).2.2.2.1 (by intro e; rw [e] at hn4; simp at hn4; omega)
    clear hq hn3 hn4
    go_enter Try.func53, Try.ntmps53
    go_wp2_with fail
    go_ret
    exact ⟨by rw [HQ.out]; rfl, below_alloc1 _ _⟩
  have e4 : n4 = 0 := by omega
  have hns : ns = [] := List.length_eq_zero_iff.1 (by omega)
  subst e4
  by_cases g1 : nm.toList = []
  · have g1' : nm.toList.isEmpty = true := by rw [g1]; rfl
    have HQ : Hid (q = false) := by
      cases hqq : q with
      | false => rfl
      | true => exact absurd (hq.1 hqq).2.2.2.2 (by intro h; exact h ((empty_iff nm).1 g1))
    clear hq hn3 hn4
    go_enter Try.func53, Try.ntmps53
    go_wp2_with fail
    go_ret
    exact ⟨by rw [HQ.out]; rfl, below_alloc1 _ _⟩
  have g1a : nm.toList.isEmpty = false := by cases hh : nm.toList with
    | nil => exact absurd hh g1
    | cons _ _ => rfl
  have g1b : (nm.toList == []) = false := by cases hh : nm.toList with
    | nil => exact absurd hh g1
    | cons _ _ => rfl
  have g1c : ¬ nm = ⟨#[]⟩ := fun h => g1 ((empty_iff nm).2 h)
  have HQ : Hid (q = true) := hq.2 ⟨hlm, rfl, by omega, hns, g1c⟩
  clear hq hn3 hn4
  go_enter Try.func53, Try.ntmps53
  go_wp2_with fail
  go_ret
  exact ⟨by rw [HQ.out]; rfl, below_alloc1 _ _⟩

end Go.Proofs.Ytcnokpaicnjkfaa

namespace Go.Proofs.Ytcnokpaicnjkfaa
open Go.RowKit Go.Joins

set_option maxHeartbeats 2000000 in
set_option maxRecDepth 100000 in
theorem ms_5 (nm : ByteArray) (mn : Bool) (la na ka aa : Option Addr) (lc nc kn kc an ac : Nat) (lm : List Int) (ns : List ByteArray) (al : Tm) (W : World) (nb : Nat) (_hnb : nb ≤ W.heap.size) (hl : LR W (fun b => b < nb) la lc lm) (hn : SR W (fun b => b < nb) na nc ns) (hkn : kn ≤ maxLen) (han : an ≤ maxLen) (hal : al.len = an) (hnm : nm.size ≤ maxLen) (q : Bool) (hq : q = true ↔ shp ⟨⟨#[]⟩, [], 5, nm, mn, lm, ns⟩ kn al) :
    Calls Try.prog 53 #[.agg #[.int .i64 5, .string nm, .bool mn, .slice la lm.length lc, .slice na ns.length nc, .slice ka kn kc, .slice aa an ac]] W fun e W' => e = .returned (.bool q) ∧ Below W.heap.size W W' := by
  rw [shp_5] at hq
  obtain ⟨n3, hn3⟩ : ∃ n, n = lm.length := ⟨_, rfl⟩
  obtain ⟨n4, hn4⟩ : ∃ n, n = ns.length := ⟨_, rfl⟩
  have hx3 : n3 ≤ 9223372036854775807 := by have h2 := hl.le; have h3 := hl.mx; simp only [maxLen] at h3; omega
  have hx4 : n4 ≤ 9223372036854775807 := by have h2 := hn.le; have h3 := hn.mx; simp only [maxLen] at h3; omega
  have hx5 : kn ≤ 9223372036854775807 := hkn
  have hx6 : an ≤ 9223372036854775807 := han
  have hx1 : nm.size ≤ 9223372036854775807 := hnm
  have HB := hide (below_alloc1 W (.cells #[.int .i64 5, .string nm, .bool mn, .slice la n3 lc, .slice na n4 nc, .slice ka kn kc, .slice aa an ac] 36))
  rw [← hn3, ← hn4]
  clear hl
  clear hn
  by_cases g0 : 0 < n3
  · have g0' : (0 : Int) < n3 := by omega
    have HQ : Hid (q = false) := by
      cases hqq : q with
      | false => rfl
      | true => exact absurd (hq.1 hqq).1 (by intro e; rw [e] at hn3; simp at hn3; omega)
    clear hq hn3 hn4
    go_enter Try.func53, Try.ntmps53
    go_wp2_with fail
    go_ret
    exact ⟨by rw [HQ.out]; rfl, below_alloc1 _ _⟩
  have e3 : n3 = 0 := by omega
  have hlm : lm = [] := List.length_eq_zero_iff.1 (by omega)
  subst e3
  cases mn with
  | true =>
    have HQ : Hid (q = false) := by
      cases hqq : q with
      | false => rfl
      | true => exact absurd (hq.1 hqq).2.1 (by simp)
    clear hq hn3 hn4
    go_enter Try.func53, Try.ntmps53
    go_wp2_with fail
    go_ret
    exact ⟨by rw [HQ.out]; rfl, below_alloc1 _ _⟩
  | false =>
  by_cases g6 : 0 < an
  · have g6' : (0 : Int) < an := by omega
    have HQ : Hid (q = false) := by
      cases hqq : q with
      | false => rfl
      | true => exact absurd (hq.1 hqq).2.2.1 (by omega)
    clear hq hn3 hn4
    go_enter Try.func53, Try.ntmps53
    go_wp2_with fail
    go_ret
    exact ⟨by rw [HQ.out]; rfl, below_alloc1 _ _⟩
  have e6 : an = 0 := by omega
  subst e6
  by_cases g4 : 0 < n4
  · have g4' : (0 : Int) < n4 := by omega
    have HQ : Hid (q = false) := by
      cases hqq : q with
      | false => rfl
      | true => exact absurd (hq.1 hqq).2.2.2.1 (by intro e; rw [e] at hn4; simp at hn4; omega)
    clear hq hn3 hn4
    go_enter Try.func53, Try.ntmps53
    go_wp2_with fail
    go_ret
    exact ⟨by rw [HQ.out]; rfl, below_alloc1 _ _⟩
  have e4 : n4 = 0 := by omega
  have hns : ns = [] := List.length_eq_zero_iff.1 (by omega)
  subst e4
  by_cases g1 : ¬ nm.toList = []
  · have g1a : nm.toList.isEmpty = false := by cases hh : nm.toList with
      | nil => exact absurd hh g1
      | cons _ _ => rfl
    have g1b : (nm.toList == []) = false := by cases hh : nm.toList with
      | nil => exact absurd hh g1
      | cons _ _ => rfl
    have HQ : Hid (q = false) := by
      cases hqq : q with
      | false => rfl
      | true => exact absurd (hq.1 hqq).2.2.2.2.1 (by intro h; exact g1 ((empty_iff nm).2 h))
    clear hq hn3 hn4
    go_enter Try.func53, Try.ntmps53
    go_wp2_with fail
    go_ret
    exact ⟨by rw [HQ.out]; rfl, below_alloc1 _ _⟩
  have g1n : nm = ⟨#[]⟩ := (empty_iff nm).1 (Decidable.not_not.1 g1)
  clear g1
  subst g1n
  by_cases g5 : ¬ 2 ≤ kn
  · have g5' : ¬ (2 : Int) ≤ kn := by omega
    have HQ : Hid (q = false) := by
      cases hqq : q with
      | false => rfl
      | true => exact absurd (hq.1 hqq).2.2.2.2.2 (by exact g5)
    clear hq hn3 hn4 g5
    go_enter Try.func53, Try.ntmps53
    go_wp2_with fail
    go_ret
    exact ⟨by rw [HQ.out]; rfl, below_alloc1 _ _⟩
  have g5a : (2 : Int) ≤ kn := by omega
  clear g5
  have HQ : Hid (q = true) := hq.2 ⟨hlm, rfl, by omega, hns, rfl, by omega⟩
  clear hq hn3 hn4
  go_enter Try.func53, Try.ntmps53
  go_wp2_with fail
  go_ret
  exact ⟨by rw [HQ.out]; rfl, below_alloc1 _ _⟩

end Go.Proofs.Ytcnokpaicnjkfaa

namespace Go.Proofs.Ytcnokpaicnjkfaa
open Go.RowKit Go.Joins

set_option maxHeartbeats 2000000 in
set_option maxRecDepth 100000 in
theorem ms_6 (nm : ByteArray) (mn : Bool) (la na ka aa : Option Addr) (lc nc kn kc an ac : Nat) (lm : List Int) (ns : List ByteArray) (al : Tm) (W : World) (nb : Nat) (hnb : nb ≤ W.heap.size) (hl : LR W (fun b => b < nb) la lc lm) (hn : SR W (fun b => b < nb) na nc ns) (hkn : kn ≤ maxLen) (han : an ≤ maxLen) (hal : al.len = an) (hnm : nm.size ≤ maxLen) (q : Bool) (hq : q = true ↔ shp ⟨⟨#[]⟩, [], 6, nm, mn, lm, ns⟩ kn al) :
    Calls Try.prog 53 #[.agg #[.int .i64 6, .string nm, .bool mn, .slice la lm.length lc, .slice na ns.length nc, .slice ka kn kc, .slice aa an ac]] W fun e W' => e = .returned (.bool q) ∧ Below W.heap.size W W' := by
  rw [shp_6] at hq
  obtain ⟨n3, hn3⟩ : ∃ n, n = lm.length := ⟨_, rfl⟩
  obtain ⟨n4, hn4⟩ : ∃ n, n = ns.length := ⟨_, rfl⟩
  have hx3 : n3 ≤ 9223372036854775807 := by have h2 := hl.le; have h3 := hl.mx; simp only [maxLen] at h3; omega
  have hx4 : n4 ≤ 9223372036854775807 := by have h2 := hn.le; have h3 := hn.mx; simp only [maxLen] at h3; omega
  have hx5 : kn ≤ 9223372036854775807 := hkn
  have hx6 : an ≤ 9223372036854775807 := han
  have hx1 : nm.size ≤ 9223372036854775807 := hnm
  obtain ⟨q2, hq2⟩ : ∃ q2 : Bool, q2 = true ↔ okNames ns := by
    by_cases h : okNames ns
    · exact ⟨true, by simp [h]⟩
    · exact ⟨false, by simp [h]⟩
  have HC : Hid (∀ V, Below W.heap.size W V → Calls Try.prog 59 #[.slice na n4 nc] V fun e W' => e = .returned (.bool q2) ∧ Below V.heap.size V W') := fun V bV => by
    rw [hn4]
    exact m_names na nc ns V nb (Nat.le_trans hnb bV.size) (hn.below bV (fun b hb => Nat.lt_of_lt_of_le hb hnb)) q2 hq2
  have HQ2 := hide hq2
  clear hq2
  have HB := hide (below_alloc1 W (.cells #[.int .i64 6, .string nm, .bool mn, .slice la n3 lc, .slice na n4 nc, .slice ka kn kc, .slice aa an ac] 36))
  rw [← hn3, ← hn4]
  clear hl
  by_cases g0 : 0 < n3
  · have g0' : (0 : Int) < n3 := by omega
    have HQ : Hid (q = false) := by
      cases hqq : q with
      | false => rfl
      | true => exact absurd (hq.1 hqq).1 (by intro e; rw [e] at hn3; simp at hn3; omega)
    clear hq hn3 hn4
    go_enter Try.func53, Try.ntmps53
    go_wp2_with fail
    go_ret
    exact ⟨by rw [HQ.out]; rfl, below_alloc1 _ _⟩
  have e3 : n3 = 0 := by omega
  have hlm : lm = [] := List.length_eq_zero_iff.1 (by omega)
  subst e3
  cases mn with
  | true =>
    have HQ : Hid (q = false) := by
      cases hqq : q with
      | false => rfl
      | true => exact absurd (hq.1 hqq).2.1 (by simp)
    clear hq hn3 hn4
    go_enter Try.func53, Try.ntmps53
    go_wp2_with fail
    go_ret
    exact ⟨by rw [HQ.out]; rfl, below_alloc1 _ _⟩
  | false =>
  by_cases g6 : 0 < an
  · have g6' : (0 : Int) < an := by omega
    have HQ : Hid (q = false) := by
      cases hqq : q with
      | false => rfl
      | true => exact absurd (hq.1 hqq).2.2.1 (by omega)
    clear hq hn3 hn4
    go_enter Try.func53, Try.ntmps53
    go_wp2_with fail
    go_ret
    exact ⟨by rw [HQ.out]; rfl, below_alloc1 _ _⟩
  have e6 : an = 0 := by omega
  subst e6
  by_cases g1 : ¬ nm.toList = []
  · have g1a : nm.toList.isEmpty = false := by cases hh : nm.toList with
      | nil => exact absurd hh g1
      | cons _ _ => rfl
    have g1b : (nm.toList == []) = false := by cases hh : nm.toList with
      | nil => exact absurd hh g1
      | cons _ _ => rfl
    have HQ : Hid (q = false) := by
      cases hqq : q with
      | false => rfl
      | true => exact absurd (hq.1 hqq).2.2.2.1 (by intro h; exact g1 ((empty_iff nm).2 h))
    clear hq hn3 hn4
    go_enter Try.func53, Try.ntmps53
    go_wp2_with fail
    go_ret
    exact ⟨by rw [HQ.out]; rfl, below_alloc1 _ _⟩
  have g1n : nm = ⟨#[]⟩ := (empty_iff nm).1 (Decidable.not_not.1 g1)
  clear g1
  subst g1n
  by_cases g5 : ¬ kn = 1
  · have g5' : ((kn : Int) == 1) = false := by rw [beq_eq_false_iff_ne]; omega
    have g5x : ¬ (kn : Int) = 1 := by omega
    have HQ : Hid (q = false) := by
      cases hqq : q with
      | false => rfl
      | true => exact absurd (hq.1 hqq).2.2.2.2.1 (by exact g5)
    clear hq hn3 hn4 g5 HC
    go_enter Try.func53, Try.ntmps53
    go_wp2_with fail
    go_ret
    exact ⟨by rw [HQ.out]; rfl, below_alloc1 _ _⟩
  have e5 : kn = 1 := by omega
  clear g5
  subst e5
  by_cases g4 : ¬ 0 < n4
  · have g4' : ¬ (1 : Int) ≤ n4 := by omega
    have HQ : Hid (q = false) := by
      cases hqq : q with
      | false => rfl
      | true => exact absurd (hq.1 hqq).2.2.2.2.2.1 (by intro h; exact h (List.length_eq_zero_iff.1 (by omega)))
    have e4 : n4 = 0 := by omega
    clear hq hn3 hn4 g4 HC g4'
    subst e4
    go_enter Try.func53, Try.ntmps53
    go_wp2_with fail
    go_ret
    exact ⟨by rw [HQ.out]; rfl, below_alloc1 _ _⟩
  have g4a : (1 : Int) ≤ n4 := by omega
  have g4b : ¬ ns = [] := fun e => by rw [e] at hn4; simp at hn4; omega
  have g4c : 0 < n4 := by omega
  clear g4
  have HQ : Hid (q2 = q) := by
    show q2 = q
    have h4 := HQ2.out
    by_cases hL : okNames ns
    · rw [h4.2 hL, hq.2 ⟨hlm, rfl, by omega, rfl, rfl, g4b, hL⟩]
    · cases q2 with
      | true => exact absurd (h4.1 rfl) hL
      | false =>
        cases hqq : q with
        | false => rfl
        | true => exact absurd (hq.1 hqq).2.2.2.2.2.2 hL
  clear hq hn3 hn4 HQ2
  have HCC := hide (HC.out _ HB.out)
  clear HC
  go_enter Try.func53, Try.ntmps53
  go_wp2_with fail
  refine HCC.out.mono ?_
  rintro e w1 ⟨rfl, b1⟩
  have HB1 := hide (HB.out.trans (b1.mono HB.out.size))
  clear b1 HCC
  go_wp2_with fail
  go_ret
  exact ⟨by rw [← HQ.out]; rfl, HB1.out⟩

end Go.Proofs.Ytcnokpaicnjkfaa

namespace Go.Proofs.Ytcnokpaicnjkfaa
open Go.RowKit Go.Joins

set_option maxHeartbeats 2000000 in
set_option maxRecDepth 100000 in
theorem ms_7 (nm : ByteArray) (mn : Bool) (la na ka aa : Option Addr) (lc nc kn kc an ac : Nat) (lm : List Int) (ns : List ByteArray) (al : Tm) (W : World) (nb : Nat) (hnb : nb ≤ W.heap.size) (hl : LR W (fun b => b < nb) la lc lm) (hn : SR W (fun b => b < nb) na nc ns) (hkn : kn ≤ maxLen) (han : an ≤ maxLen) (hal : al.len = an) (hnm : nm.size ≤ maxLen) (q : Bool) (hq : q = true ↔ shp ⟨⟨#[]⟩, [], 7, nm, mn, lm, ns⟩ kn al) (hsz : ns.length ≤ 1048576) :
    Calls Try.prog 53 #[.agg #[.int .i64 7, .string nm, .bool mn, .slice la lm.length lc, .slice na ns.length nc, .slice ka kn kc, .slice aa an ac]] W fun e W' => e = .returned (.bool q) ∧ Below W.heap.size W W' := by
  rw [shp_7] at hq
  obtain ⟨n3, hn3⟩ : ∃ n, n = lm.length := ⟨_, rfl⟩
  obtain ⟨n4, hn4⟩ : ∃ n, n = ns.length := ⟨_, rfl⟩
  have hx3 : n3 ≤ 9223372036854775807 := by have h2 := hl.le; have h3 := hl.mx; simp only [maxLen] at h3; omega
  have hx4 : n4 ≤ 1048576 := by have h2 := hn.le; have h3 := hn.mx; simp only [maxLen] at h3; omega
  have hx5 : kn ≤ 9223372036854775807 := hkn
  have hx6 : an ≤ 9223372036854775807 := han
  have hx1 : nm.size ≤ 9223372036854775807 := hnm
  obtain ⟨q2, hq2⟩ : ∃ q2 : Bool, q2 = true ↔ okNames ns := by
    by_cases h : okNames ns
    · exact ⟨true, by simp [h]⟩
    · exact ⟨false, by simp [h]⟩
  have HC : Hid (∀ V, Below W.heap.size W V → Calls Try.prog 59 #[.slice na n4 nc] V fun e W' => e = .returned (.bool q2) ∧ Below V.heap.size V W') := fun V bV => by
    rw [hn4]
    exact m_names na nc ns V nb (Nat.le_trans hnb bV.size) (hn.below bV (fun b hb => Nat.lt_of_lt_of_le hb hnb)) q2 hq2
  have HQ2 := hide hq2
  clear hq2
  have HB := hide (below_alloc1 W (.cells #[.int .i64 7, .string nm, .bool mn, .slice la n3 lc, .slice na n4 nc, .slice ka kn kc, .slice aa an ac] 36))
  rw [← hn3, ← hn4]
  clear hl
  by_cases g0 : 0 < n3
  · have g0' : (0 : Int) < n3 := by omega
    have HQ : Hid (q = false) := by
      cases hqq : q with
      | false => rfl
      | true => exact absurd (hq.1 hqq).1 (by intro e; rw [e] at hn3; simp at hn3; omega)
    clear hq hn3 hn4
    go_enter Try.func53, Try.ntmps53
    go_wp2_with fail
    go_ret
    exact ⟨by rw [HQ.out]; rfl, below_alloc1 _ _⟩
  have e3 : n3 = 0 := by omega
  have hlm : lm = [] := List.length_eq_zero_iff.1 (by omega)
  subst e3
  cases mn with
  | true =>
    have HQ : Hid (q = false) := by
      cases hqq : q with
      | false => rfl
      | true => exact absurd (hq.1 hqq).2.1 (by simp)
    clear hq hn3 hn4
    go_enter Try.func53, Try.ntmps53
    go_wp2_with fail
    go_ret
    exact ⟨by rw [HQ.out]; rfl, below_alloc1 _ _⟩
  | false =>
  by_cases g6 : 0 < an
  · have g6' : (0 : Int) < an := by omega
    have HQ : Hid (q = false) := by
      cases hqq : q with
      | false => rfl
      | true => exact absurd (hq.1 hqq).2.2.1 (by omega)
    clear hq hn3 hn4
    go_enter Try.func53, Try.ntmps53
    go_wp2_with fail
    go_ret
    exact ⟨by rw [HQ.out]; rfl, below_alloc1 _ _⟩
  have e6 : an = 0 := by omega
  subst e6
  by_cases g1 : ¬ nm.toList = []
  · have g1a : nm.toList.isEmpty = false := by cases hh : nm.toList with
      | nil => exact absurd hh g1
      | cons _ _ => rfl
    have g1b : (nm.toList == []) = false := by cases hh : nm.toList with
      | nil => exact absurd hh g1
      | cons _ _ => rfl
    have HQ : Hid (q = false) := by
      cases hqq : q with
      | false => rfl
      | true => exact absurd (hq.1 hqq).2.2.2.1 (by intro h; exact g1 ((empty_iff nm).2 h))
    clear hq hn3 hn4
    go_enter Try.func53, Try.ntmps53
    go_wp2_with fail
    go_ret
    exact ⟨by rw [HQ.out]; rfl, below_alloc1 _ _⟩
  have g1n : nm = ⟨#[]⟩ := (empty_iff nm).1 (Decidable.not_not.1 g1)
  clear g1
  subst g1n
  by_cases g4 : ¬ 0 < n4
  · have g4' : ¬ (1 : Int) ≤ n4 := by omega
    have HQ : Hid (q = false) := by
      cases hqq : q with
      | false => rfl
      | true => exact absurd (hq.1 hqq).2.2.2.2.1 (by intro h; exact h (List.length_eq_zero_iff.1 (by omega)))
    have e4 : n4 = 0 := by omega
    clear hq hn3 hn4 g4 HC g4'
    subst e4
    go_enter Try.func53, Try.ntmps53
    go_wp2_with fail
    go_ret
    exact ⟨by rw [HQ.out]; rfl, below_alloc1 _ _⟩
  have g4a : (1 : Int) ≤ n4 := by omega
  have g4b : ¬ ns = [] := fun e => by rw [e] at hn4; simp at hn4; omega
  have g4c : 0 < n4 := by omega
  clear g4
  by_cases g5 : ¬ kn = n4 + 1
  · have g5' : ((kn : Int) == (n4 : Int) + 1) = false := by rw [beq_eq_false_iff_ne]; omega
    have g5x : ¬ (kn : Int) = (n4 : Int) + 1 := by omega
    have HQ : Hid (q = false) := by
      cases hqq : q with
      | false => rfl
      | true => exact absurd (hq.1 hqq).2.2.2.2.2.1 (by omega)
    clear hq hn3 hn4 HC
    go_enter Try.func53, Try.ntmps53
    go_wp2_with fail
    go_ret
    exact ⟨by rw [HQ.out]; rfl, below_alloc1 _ _⟩
  have g5a : (kn : Int) = (n4 : Int) + 1 := by omega
  have g5p : kn = ns.length + 1 := by omega
  have HG5 := hide g5p
  clear g5 g5p
  have g5b : ((kn : Int) == (n4 : Int) + 1) = true := by rw [beq_iff_eq]; exact g5a
  have HQ : Hid (q2 = q) := by
    show q2 = q
    have h4 := HQ2.out
    by_cases hL : okNames ns
    · rw [h4.2 hL, hq.2 ⟨hlm, rfl, by omega, rfl, g4b, HG5.out, hL⟩]
    · cases q2 with
      | true => exact absurd (h4.1 rfl) hL
      | false =>
        cases hqq : q with
        | false => rfl
        | true => exact absurd (hq.1 hqq).2.2.2.2.2.2 hL
  clear hq hn3 hn4 HQ2
  have HCC := hide (HC.out _ HB.out)
  clear HC
  go_enter Try.func53, Try.ntmps53
  go_wp2_with fail
  refine HCC.out.mono ?_
  rintro e w1 ⟨rfl, b1⟩
  have HB1 := hide (HB.out.trans (b1.mono HB.out.size))
  clear b1 HCC
  go_wp2_with fail
  go_ret
  exact ⟨by rw [← HQ.out]; rfl, HB1.out⟩

end Go.Proofs.Ytcnokpaicnjkfaa

namespace Go.Proofs.Ytcnokpaicnjkfaa
open Go.RowKit Go.Joins

set_option maxHeartbeats 2000000 in
set_option maxRecDepth 100000 in
theorem ms_9 (nm : ByteArray) (mn : Bool) (la na ka aa : Option Addr) (lc nc kn kc an ac : Nat) (lm : List Int) (ns : List ByteArray) (al : Tm) (W : World) (nb : Nat) (_hnb : nb ≤ W.heap.size) (hl : LR W (fun b => b < nb) la lc lm) (hn : SR W (fun b => b < nb) na nc ns) (hkn : kn ≤ maxLen) (han : an ≤ maxLen) (hal : al.len = an) (hnm : nm.size ≤ maxLen) (q : Bool) (hq : q = true ↔ shp ⟨⟨#[]⟩, [], 9, nm, mn, lm, ns⟩ kn al) :
    Calls Try.prog 53 #[.agg #[.int .i64 9, .string nm, .bool mn, .slice la lm.length lc, .slice na ns.length nc, .slice ka kn kc, .slice aa an ac]] W fun e W' => e = .returned (.bool q) ∧ Below W.heap.size W W' := by
  rw [shp_9] at hq
  obtain ⟨n3, hn3⟩ : ∃ n, n = lm.length := ⟨_, rfl⟩
  obtain ⟨n4, hn4⟩ : ∃ n, n = ns.length := ⟨_, rfl⟩
  have hx3 : n3 ≤ 9223372036854775807 := by have h2 := hl.le; have h3 := hl.mx; simp only [maxLen] at h3; omega
  have hx4 : n4 ≤ 9223372036854775807 := by have h2 := hn.le; have h3 := hn.mx; simp only [maxLen] at h3; omega
  have hx5 : kn ≤ 9223372036854775807 := hkn
  have hx6 : an ≤ 9223372036854775807 := han
  have hx1 : nm.size ≤ 9223372036854775807 := hnm
  obtain ⟨pc, hpc⟩ : ∃ x, pcF nm = x := ⟨_, rfl⟩
  have hpl := pcF_le nm
  rw [hpc] at hq hpl
  have HC : Hid (∀ V, Calls Try.prog 61 #[.string nm] V fun e W' => e = .returned (.int .i64 pc) ∧ W' = V) := fun V => by rw [← hpc]; exact mPrim nm V
  clear hpc
  have HB := hide (below_alloc1 W (.cells #[.int .i64 9, .string nm, .bool mn, .slice la n3 lc, .slice na n4 nc, .slice ka kn kc, .slice aa an ac] 36))
  rw [← hn3, ← hn4]
  clear hl
  clear hn
  by_cases g0 : 0 < n3
  · have g0' : (0 : Int) < n3 := by omega
    have HQ : Hid (q = false) := by
      cases hqq : q with
      | false => rfl
      | true => exact absurd (hq.1 hqq).1 (by intro e; rw [e] at hn3; simp at hn3; omega)
    clear hq hn3 hn4
    go_enter Try.func53, Try.ntmps53
    go_wp2_with fail
    go_ret
    exact ⟨by rw [HQ.out]; rfl, below_alloc1 _ _⟩
  have e3 : n3 = 0 := by omega
  have hlm : lm = [] := List.length_eq_zero_iff.1 (by omega)
  subst e3
  cases mn with
  | true =>
    have HQ : Hid (q = false) := by
      cases hqq : q with
      | false => rfl
      | true => exact absurd (hq.1 hqq).2.1 (by simp)
    clear hq hn3 hn4
    go_enter Try.func53, Try.ntmps53
    go_wp2_with fail
    go_ret
    exact ⟨by rw [HQ.out]; rfl, below_alloc1 _ _⟩
  | false =>
  by_cases g6 : 0 < an
  · have g6' : (0 : Int) < an := by omega
    have HQ : Hid (q = false) := by
      cases hqq : q with
      | false => rfl
      | true => exact absurd (hq.1 hqq).2.2.1 (by omega)
    clear hq hn3 hn4
    go_enter Try.func53, Try.ntmps53
    go_wp2_with fail
    go_ret
    exact ⟨by rw [HQ.out]; rfl, below_alloc1 _ _⟩
  have e6 : an = 0 := by omega
  subst e6
  by_cases g4 : 0 < n4
  · have g4' : (0 : Int) < n4 := by omega
    have HQ : Hid (q = false) := by
      cases hqq : q with
      | false => rfl
      | true => exact absurd (hq.1 hqq).2.2.2.1 (by intro e; rw [e] at hn4; simp at hn4; omega)
    clear hq hn3 hn4
    go_enter Try.func53, Try.ntmps53
    go_wp2_with fail
    go_ret
    exact ⟨by rw [HQ.out]; rfl, below_alloc1 _ _⟩
  have e4 : n4 = 0 := by omega
  have hns : ns = [] := List.length_eq_zero_iff.1 (by omega)
  subst e4
  by_cases g8 : ¬ 0 < pc
  · skip
    have HQ : Hid (q = false) := by
      cases hqq : q with
      | false => rfl
      | true => exact absurd (hq.1 hqq).2.2.2.2.1 (by exact g8)
    clear hq hn3 hn4
    go_enter Try.func53, Try.ntmps53
    go_wp2_with fail
    refine (HC.out _).mono ?_
    rintro e w1 ⟨rfl, rfl⟩
    go_wp2_with fail
    go_ret
    exact ⟨by rw [HQ.out]; rfl, below_alloc1 _ _⟩
  have g8a : 0 < pc := by omega
  clear g8
  by_cases g9 : ¬ (kn : Int) = pc
  · have g9' : ((kn : Int) == pc) = false := by rw [beq_eq_false_iff_ne]; exact g9
    have HQ : Hid (q = false) := by
      cases hqq : q with
      | false => rfl
      | true => exact absurd (hq.1 hqq).2.2.2.2.2 (by exact g9)
    clear hq hn3 hn4
    go_enter Try.func53, Try.ntmps53
    go_wp2_with fail
    refine (HC.out _).mono ?_
    rintro e w1 ⟨rfl, rfl⟩
    go_wp2_with fail
    refine (HC.out _).mono ?_
    rintro e w2 ⟨rfl, rfl⟩
    go_wp2_with fail
    go_ret
    exact ⟨by rw [HQ.out]; rfl, below_alloc1 _ _⟩
  have g9a : (kn : Int) = pc := by omega
  have g9b : ((kn : Int) == pc) = true := by rw [beq_iff_eq]; exact g9a
  have HG9 := hide g9a
  clear g9 g9a
  have HQ : Hid (q = true) := hq.2 ⟨hlm, rfl, by omega, hns, g8a, HG9.out⟩
  clear hq hn3 hn4
  go_enter Try.func53, Try.ntmps53
  go_wp2_with fail
  refine (HC.out _).mono ?_
  rintro e w1 ⟨rfl, rfl⟩
  go_wp2_with fail
  refine (HC.out _).mono ?_
  rintro e w2 ⟨rfl, rfl⟩
  go_wp2_with fail
  go_ret
  exact ⟨by rw [HQ.out]; rfl, below_alloc1 _ _⟩

end Go.Proofs.Ytcnokpaicnjkfaa

namespace Go.Proofs.Ytcnokpaicnjkfaa
open Go.RowKit Go.Joins

set_option maxHeartbeats 2000000 in
set_option maxRecDepth 100000 in
theorem ms_10 (nm : ByteArray) (mn : Bool) (la na ka aa : Option Addr) (lc nc kn kc an ac : Nat) (lm : List Int) (ns : List ByteArray) (al : Tm) (W : World) (nb : Nat) (_hnb : nb ≤ W.heap.size) (hl : LR W (fun b => b < nb) la lc lm) (hn : SR W (fun b => b < nb) na nc ns) (hkn : kn ≤ maxLen) (han : an ≤ maxLen) (hal : al.len = an) (hnm : nm.size ≤ maxLen) (q : Bool) (hq : q = true ↔ shp ⟨⟨#[]⟩, [], 10, nm, mn, lm, ns⟩ kn al) :
    Calls Try.prog 53 #[.agg #[.int .i64 10, .string nm, .bool mn, .slice la lm.length lc, .slice na ns.length nc, .slice ka kn kc, .slice aa an ac]] W fun e W' => e = .returned (.bool q) ∧ Below W.heap.size W W' := by
  rw [shp_10] at hq
  obtain ⟨n3, hn3⟩ : ∃ n, n = lm.length := ⟨_, rfl⟩
  obtain ⟨n4, hn4⟩ : ∃ n, n = ns.length := ⟨_, rfl⟩
  have hx3 : n3 ≤ 9223372036854775807 := by have h2 := hl.le; have h3 := hl.mx; simp only [maxLen] at h3; omega
  have hx4 : n4 ≤ 9223372036854775807 := by have h2 := hn.le; have h3 := hn.mx; simp only [maxLen] at h3; omega
  have hx5 : kn ≤ 9223372036854775807 := hkn
  have hx6 : an ≤ 9223372036854775807 := han
  have hx1 : nm.size ≤ 9223372036854775807 := hnm
  have HB := hide (below_alloc1 W (.cells #[.int .i64 10, .string nm, .bool mn, .slice la n3 lc, .slice na n4 nc, .slice ka kn kc, .slice aa an ac] 36))
  rw [← hn3, ← hn4]
  clear hl
  clear hn
  by_cases g0 : 0 < n3
  · have g0' : (0 : Int) < n3 := by omega
    have HQ : Hid (q = false) := by
      cases hqq : q with
      | false => rfl
      | true => exact absurd (hq.1 hqq).1 (by intro e; rw [e] at hn3; simp at hn3; omega)
    clear hq hn3 hn4
    go_enter Try.func53, Try.ntmps53
    go_wp2_with fail
    go_ret
    exact ⟨by rw [HQ.out]; rfl, below_alloc1 _ _⟩
  have e3 : n3 = 0 := by omega
  have hlm : lm = [] := List.length_eq_zero_iff.1 (by omega)
  subst e3
  cases mn with
  | true =>
    have HQ : Hid (q = false) := by
      cases hqq : q with
      | false => rfl
      | true => exact absurd (hq.1 hqq).2.1 (by simp)
    clear hq hn3 hn4
    go_enter Try.func53, Try.ntmps53
    go_wp2_with fail
    go_ret
    exact ⟨by rw [HQ.out]; rfl, below_alloc1 _ _⟩
  | false =>
  by_cases g6 : 0 < an
  · have g6' : (0 : Int) < an := by omega
    have HQ : Hid (q = false) := by
      cases hqq : q with
      | false => rfl
      | true => exact absurd (hq.1 hqq).2.2.1 (by omega)
    clear hq hn3 hn4
    go_enter Try.func53, Try.ntmps53
    go_wp2_with fail
    go_ret
    exact ⟨by rw [HQ.out]; rfl, below_alloc1 _ _⟩
  have e6 : an = 0 := by omega
  subst e6
  by_cases g4 : 0 < n4
  · have g4' : (0 : Int) < n4 := by omega
    have HQ : Hid (q = false) := by
      cases hqq : q with
      | false => rfl
      | true => exact absurd (hq.1 hqq).2.2.2.1 (by intro e; rw [e] at hn4; simp at hn4; omega)
    clear hq hn3 hn4
    go_enter Try.func53, Try.ntmps53
    go_wp2_with fail
    go_ret
    exact ⟨by rw [HQ.out]; rfl, below_alloc1 _ _⟩
  have e4 : n4 = 0 := by omega
  have hns : ns = [] := List.length_eq_zero_iff.1 (by omega)
  subst e4
  by_cases g1 : nm.toList = []
  · have g1' : nm.toList.isEmpty = true := by rw [g1]; rfl
    have HQ : Hid (q = false) := by
      cases hqq : q with
      | false => rfl
      | true => exact absurd (hq.1 hqq).2.2.2.2.1 (by intro h; exact h ((empty_iff nm).1 g1))
    clear hq hn3 hn4
    go_enter Try.func53, Try.ntmps53
    go_wp2_with fail
    go_ret
    exact ⟨by rw [HQ.out]; rfl, below_alloc1 _ _⟩
  have g1a : nm.toList.isEmpty = false := by cases hh : nm.toList with
    | nil => exact absurd hh g1
    | cons _ _ => rfl
  have g1b : (nm.toList == []) = false := by cases hh : nm.toList with
    | nil => exact absurd hh g1
    | cons _ _ => rfl
  have g1c : ¬ nm = ⟨#[]⟩ := fun h => g1 ((empty_iff nm).2 h)
  by_cases g7 : ¬ nm.size ≤ 60000
  · have g7' : ¬ (nm.size : Int) ≤ 60000 := by omega
    have HQ : Hid (q = false) := by
      cases hqq : q with
      | false => rfl
      | true => exact absurd (hq.1 hqq).2.2.2.2.2.1 (by exact g7)
    clear hq hn3 hn4 g7
    go_enter Try.func53, Try.ntmps53
    go_wp2_with fail
    go_ret
    exact ⟨by rw [HQ.out]; rfl, below_alloc1 _ _⟩
  have g7a : (nm.size : Int) ≤ 60000 := by omega
  clear g7
  by_cases g5 : ¬ kn = 0
  · have g5' : ((kn : Int) == 0) = false := by rw [beq_eq_false_iff_ne]; omega
    have g5x : ¬ (kn : Int) = 0 := by omega
    have HQ : Hid (q = false) := by
      cases hqq : q with
      | false => rfl
      | true => exact absurd (hq.1 hqq).2.2.2.2.2.2 (by exact g5)
    clear hq hn3 hn4 g5
    go_enter Try.func53, Try.ntmps53
    go_wp2_with fail
    go_ret
    exact ⟨by rw [HQ.out]; rfl, below_alloc1 _ _⟩
  have e5 : kn = 0 := by omega
  clear g5
  subst e5
  have HQ : Hid (q = true) := hq.2 ⟨hlm, rfl, by omega, hns, g1c, by omega, rfl⟩
  clear hq hn3 hn4
  go_enter Try.func53, Try.ntmps53
  go_wp2_with fail
  go_ret
  exact ⟨by rw [HQ.out]; rfl, below_alloc1 _ _⟩

end Go.Proofs.Ytcnokpaicnjkfaa
