import Derived.Test.YtjfoagmenehapaaGreatDoorQ21
namespace Go.Proofs.YtjfoagmenehapaaGreatDoor.Tree
open Go.RowKit Go.Joins

set_option maxHeartbeats 1000000 in
set_option maxRecDepth 100000 in
theorem kid6 (nm : ByteArray) (a : Option Addr) (cap n : Nat) (L : List Kn) (W : World) (hl : L.length = n) (hn : n ≤ maxLen) (hk : Kids W W.heap.size a L) :
    Calls Tryz.prog 31 #[nodeV 6 nm a n cap] W fun e W' => e = .returned (.bool (decide (2 ≤ n) && (allB L eK 0 n))) ∧ Below W.heap.size W W' := by
  obtain ⟨T, hT⟩ : ∃ T, T = (decide (2 ≤ n) && (allB L eK 0 n)) := ⟨_, rfl⟩
  rw [← hT]
  have hmx : (n : Int) ≤ 9223372036854775807 := by simp only [maxLen] at hn; omega
  by_cases h0 : 2 ≤ n
  · have z0 : (2 : Int) ≤ n := by omega
    have zz0 : decide (2 ≤ n) = true := decide_eq_true h0
    rw [zz0] at hT
    clear zz0
    have HA1 : Hid (∀ wx, Below W.heap.size W wx → Calls Tryz.prog 52 #[.agg #[.int .i64 6, .string nm, .slice (a) n cap], .int .i64 0, .int .i64 n, .int .u8 101, .int .i64 0] wx fun e W' => e = .returned (.bool (allB L eK 0 n)) ∧ Below wx.heap.size wx W') := fun wx hb => by
      have := mAllE 6 nm (a) cap n L (0) (n) 0 wx hl hn (by omega) (hk.at hb)
      exact this
    replace hT : T = (allB L eK 0 n) := hT
    rw [← hT] at HA1
    have HTX : True := trivial
    clear HTX
    clear hT
    unfold nodeV
    have q1 := Box3.new W (.int .i64 6) (.string nm) (.slice (a) n cap) 29
    have hB0 : Below W.heap.size W (W.alloc (.cells #[.int .i64 6, .string nm, .slice (a) n cap] 29)) := below_alloc1 _ _
    clear hk hl hn
    go_enter Tryz.func31, Tryz.ntmps31
    go_upto_region 1 with fail
    generalize W.alloc (.cells #[.int .i64 6, .string nm, .slice (a) n cap] 29) = W0 at *
    have qlt := q1.lt
    obtain ⟨-, d0, d1, d2, -, -, -⟩ := id q1
    go_wp2_with fail
    refine (HA1.out _ hB0).mono ?_
    rintro e w1 ⟨rfl, b1⟩
    have c1 := hB0.trans (b1.mono hB0.size)
    have q1' := q1.below b1 q1.lt
    obtain ⟨-, f10, f11, f12, -, -, -⟩ := id q1'
    go_wp2_with fail
    go_ret
    exact ⟨rfl, c1⟩
  · have z0 : ¬ (2 : Int) ≤ n := by omega
    have zz0 : decide (2 ≤ n) = false := decide_eq_false h0
    rw [zz0] at hT
    clear zz0
    rw [Bool.false_and] at hT
    have HT := hide hT
    clear hT
    unfold nodeV
    have q1 := Box3.new W (.int .i64 6) (.string nm) (.slice (a) n cap) 29
    have hB0 : Below W.heap.size W (W.alloc (.cells #[.int .i64 6, .string nm, .slice (a) n cap] 29)) := below_alloc1 _ _
    clear hk hl hn
    go_enter Tryz.func31, Tryz.ntmps31
    go_upto_region 1 with fail
    generalize W.alloc (.cells #[.int .i64 6, .string nm, .slice (a) n cap] 29) = W0 at *
    have qlt := q1.lt
    obtain ⟨-, d0, d1, d2, -, -, -⟩ := id q1
    go_wp2_with fail
    go_ret
    exact ⟨by rw [HT.out]; rfl, hB0⟩

set_option maxHeartbeats 1000000 in
set_option maxRecDepth 100000 in
theorem kid7 (nm : ByteArray) (a : Option Addr) (cap n : Nat) (L : List Kn) (W : World) (hl : L.length = n) (hn : n ≤ maxLen) (hk : Kids W W.heap.size a L) :
    Calls Tryz.prog 31 #[nodeV 7 nm a n cap] W fun e W' => e = .returned (.bool (decide (2 ≤ n) && (allB L pK 0 (n - 1) && (allB L eK (n - 1) n)))) ∧ Below W.heap.size W W' := by
  obtain ⟨T, hT⟩ : ∃ T, T = (decide (2 ≤ n) && (allB L pK 0 (n - 1) && (allB L eK (n - 1) n))) := ⟨_, rfl⟩
  rw [← hT]
  have hmx : (n : Int) ≤ 9223372036854775807 := by simp only [maxLen] at hn; omega
  by_cases h0 : 2 ≤ n
  · have z0 : (2 : Int) ≤ n := by omega
    have zz0 : decide (2 ≤ n) = true := decide_eq_true h0
    rw [zz0] at hT
    clear zz0
    have HA1 : Hid (∀ wx, Below W.heap.size W wx → Calls Tryz.prog 52 #[.agg #[.int .i64 7, .string nm, .slice (a) n cap], .int .i64 0, .int .i64 ((n : Int) - 1), .int .u8 112, .int .i64 0] wx fun e W' => e = .returned (.bool (allB L pK 0 (n - 1))) ∧ Below wx.heap.size wx W') := fun wx hb => by
      have := mAllP 7 nm (a) cap n L (0) (n - 1) 0 wx hl hn (by omega) (hk.at hb)
      rw [show ((n - 1 : Nat) : Int) = (n : Int) - 1 by omega] at this
      exact this
    have HA2 : Hid (∀ wx, Below W.heap.size W wx → Calls Tryz.prog 52 #[.agg #[.int .i64 7, .string nm, .slice (a) n cap], .int .i64 ((n : Int) - 1), .int .i64 n, .int .u8 101, .int .i64 0] wx fun e W' => e = .returned (.bool (allB L eK (n - 1) n)) ∧ Below wx.heap.size wx W') := fun wx hb => by
      have := mAllE 7 nm (a) cap n L (n - 1) (n) 0 wx hl hn (by omega) (hk.at hb)
      rw [show ((n - 1 : Nat) : Int) = (n : Int) - 1 by omega] at this
      exact this
    replace hT : T = (allB L pK 0 (n - 1) && (allB L eK (n - 1) n)) := hT
    cases hX1 : allB L pK 0 (n - 1) with
    | false =>
      rw [hX1] at HA1 hT
      clear hX1
      rw [Bool.false_and] at hT
      have HT := hide hT
      clear hT
      unfold nodeV
      have q1 := Box3.new W (.int .i64 7) (.string nm) (.slice (a) n cap) 29
      have hB0 : Below W.heap.size W (W.alloc (.cells #[.int .i64 7, .string nm, .slice (a) n cap] 29)) := below_alloc1 _ _
      clear hk hl hn
      go_enter Tryz.func31, Tryz.ntmps31
      go_upto_region 1 with fail
      generalize W.alloc (.cells #[.int .i64 7, .string nm, .slice (a) n cap] 29) = W0 at *
      have qlt := q1.lt
      obtain ⟨-, d0, d1, d2, -, -, -⟩ := id q1
      go_wp2_with fail
      refine (HA1.out _ hB0).mono ?_
      rintro e w1 ⟨rfl, b1⟩
      have c1 := hB0.trans (b1.mono hB0.size)
      have q1' := q1.below b1 q1.lt
      obtain ⟨-, f10, f11, f12, -, -, -⟩ := id q1'
      go_wp2_with fail
      go_ret
      exact ⟨by rw [HT.out]; rfl, c1⟩
    | true =>
      rw [hX1] at HA1 hT
      clear hX1
      rw [Bool.true_and] at hT
      rw [← hT] at HA2
      have HTX : True := trivial
      clear HTX
      clear hT
      unfold nodeV
      have q1 := Box3.new W (.int .i64 7) (.string nm) (.slice (a) n cap) 29
      have hB0 : Below W.heap.size W (W.alloc (.cells #[.int .i64 7, .string nm, .slice (a) n cap] 29)) := below_alloc1 _ _
      clear hk hl hn
      go_enter Tryz.func31, Tryz.ntmps31
      go_upto_region 1 with fail
      generalize W.alloc (.cells #[.int .i64 7, .string nm, .slice (a) n cap] 29) = W0 at *
      have qlt := q1.lt
      obtain ⟨-, d0, d1, d2, -, -, -⟩ := id q1
      go_wp2_with fail
      refine (HA1.out _ hB0).mono ?_
      rintro e w1 ⟨rfl, b1⟩
      have c1 := hB0.trans (b1.mono hB0.size)
      have q1' := q1.below b1 q1.lt
      obtain ⟨-, f10, f11, f12, -, -, -⟩ := id q1'
      go_wp2_with fail
      refine (HA2.out _ c1).mono ?_
      rintro e w2 ⟨rfl, b2⟩
      have c2 := c1.trans (b2.mono c1.size)
      have q2' := q1'.below b2 q1'.lt
      obtain ⟨-, f20, f21, f22, -, -, -⟩ := id q2'
      go_wp2_with fail
      go_ret
      exact ⟨rfl, c2⟩
  · have z0 : ¬ (2 : Int) ≤ n := by omega
    have zz0 : decide (2 ≤ n) = false := decide_eq_false h0
    rw [zz0] at hT
    clear zz0
    rw [Bool.false_and] at hT
    have HT := hide hT
    clear hT
    unfold nodeV
    have q1 := Box3.new W (.int .i64 7) (.string nm) (.slice (a) n cap) 29
    have hB0 : Below W.heap.size W (W.alloc (.cells #[.int .i64 7, .string nm, .slice (a) n cap] 29)) := below_alloc1 _ _
    clear hk hl hn
    go_enter Tryz.func31, Tryz.ntmps31
    go_upto_region 1 with fail
    generalize W.alloc (.cells #[.int .i64 7, .string nm, .slice (a) n cap] 29) = W0 at *
    have qlt := q1.lt
    obtain ⟨-, d0, d1, d2, -, -, -⟩ := id q1
    go_wp2_with fail
    go_ret
    exact ⟨by rw [HT.out]; rfl, hB0⟩

set_option maxHeartbeats 1000000 in
set_option maxRecDepth 100000 in
theorem kid8 (nm : ByteArray) (a : Option Addr) (cap n : Nat) (L : List Kn) (W : World) (hl : L.length = n) (hn : n ≤ maxLen) (hk : Kids W W.heap.size a L) :
    Calls Tryz.prog 31 #[nodeV 8 nm a n cap] W fun e W' => e = .returned (.bool (decide (1 ≤ n) && (allB L dK 0 (n - 1) && (allB L eK (n - 1) n)))) ∧ Below W.heap.size W W' := by
  obtain ⟨T, hT⟩ : ∃ T, T = (decide (1 ≤ n) && (allB L dK 0 (n - 1) && (allB L eK (n - 1) n))) := ⟨_, rfl⟩
  rw [← hT]
  have hmx : (n : Int) ≤ 9223372036854775807 := by simp only [maxLen] at hn; omega
  by_cases h0 : 1 ≤ n
  · have z0 : (1 : Int) ≤ n := by omega
    have zz0 : decide (1 ≤ n) = true := decide_eq_true h0
    rw [zz0] at hT
    clear zz0
    have HA1 : Hid (∀ wx, Below W.heap.size W wx → Calls Tryz.prog 52 #[.agg #[.int .i64 8, .string nm, .slice (a) n cap], .int .i64 0, .int .i64 ((n : Int) - 1), .int .u8 100, .int .i64 0] wx fun e W' => e = .returned (.bool (allB L dK 0 (n - 1))) ∧ Below wx.heap.size wx W') := fun wx hb => by
      have := mAllD 8 nm (a) cap n L (0) (n - 1) 0 wx hl hn (by omega) (hk.at hb)
      rw [show ((n - 1 : Nat) : Int) = (n : Int) - 1 by omega] at this
      exact this
    have HA2 : Hid (∀ wx, Below W.heap.size W wx → Calls Tryz.prog 52 #[.agg #[.int .i64 8, .string nm, .slice (a) n cap], .int .i64 ((n : Int) - 1), .int .i64 n, .int .u8 101, .int .i64 0] wx fun e W' => e = .returned (.bool (allB L eK (n - 1) n)) ∧ Below wx.heap.size wx W') := fun wx hb => by
      have := mAllE 8 nm (a) cap n L (n - 1) (n) 0 wx hl hn (by omega) (hk.at hb)
      rw [show ((n - 1 : Nat) : Int) = (n : Int) - 1 by omega] at this
      exact this
    replace hT : T = (allB L dK 0 (n - 1) && (allB L eK (n - 1) n)) := hT
    cases hX1 : allB L dK 0 (n - 1) with
    | false =>
      rw [hX1] at HA1 hT
      clear hX1
      rw [Bool.false_and] at hT
      have HT := hide hT
      clear hT
      unfold nodeV
      have q1 := Box3.new W (.int .i64 8) (.string nm) (.slice (a) n cap) 29
      have hB0 : Below W.heap.size W (W.alloc (.cells #[.int .i64 8, .string nm, .slice (a) n cap] 29)) := below_alloc1 _ _
      clear hk hl hn
      go_enter Tryz.func31, Tryz.ntmps31
      go_upto_region 1 with fail
      generalize W.alloc (.cells #[.int .i64 8, .string nm, .slice (a) n cap] 29) = W0 at *
      have qlt := q1.lt
      obtain ⟨-, d0, d1, d2, -, -, -⟩ := id q1
      go_wp2_with fail
      refine (HA1.out _ hB0).mono ?_
      rintro e w1 ⟨rfl, b1⟩
      have c1 := hB0.trans (b1.mono hB0.size)
      have q1' := q1.below b1 q1.lt
      obtain ⟨-, f10, f11, f12, -, -, -⟩ := id q1'
      go_wp2_with fail
      go_ret
      exact ⟨by rw [HT.out]; rfl, c1⟩
    | true =>
      rw [hX1] at HA1 hT
      clear hX1
      rw [Bool.true_and] at hT
      rw [← hT] at HA2
      have HTX : True := trivial
      clear HTX
      clear hT
      unfold nodeV
      have q1 := Box3.new W (.int .i64 8) (.string nm) (.slice (a) n cap) 29
      have hB0 : Below W.heap.size W (W.alloc (.cells #[.int .i64 8, .string nm, .slice (a) n cap] 29)) := below_alloc1 _ _
      clear hk hl hn
      go_enter Tryz.func31, Tryz.ntmps31
      go_upto_region 1 with fail
      generalize W.alloc (.cells #[.int .i64 8, .string nm, .slice (a) n cap] 29) = W0 at *
      have qlt := q1.lt
      obtain ⟨-, d0, d1, d2, -, -, -⟩ := id q1
      go_wp2_with fail
      refine (HA1.out _ hB0).mono ?_
      rintro e w1 ⟨rfl, b1⟩
      have c1 := hB0.trans (b1.mono hB0.size)
      have q1' := q1.below b1 q1.lt
      obtain ⟨-, f10, f11, f12, -, -, -⟩ := id q1'
      go_wp2_with fail
      refine (HA2.out _ c1).mono ?_
      rintro e w2 ⟨rfl, b2⟩
      have c2 := c1.trans (b2.mono c1.size)
      have q2' := q1'.below b2 q1'.lt
      obtain ⟨-, f20, f21, f22, -, -, -⟩ := id q2'
      go_wp2_with fail
      go_ret
      exact ⟨rfl, c2⟩
  · have z0 : ¬ (1 : Int) ≤ n := by omega
    have zz0 : decide (1 ≤ n) = false := decide_eq_false h0
    rw [zz0] at hT
    clear zz0
    rw [Bool.false_and] at hT
    have HT := hide hT
    clear hT
    unfold nodeV
    have q1 := Box3.new W (.int .i64 8) (.string nm) (.slice (a) n cap) 29
    have hB0 : Below W.heap.size W (W.alloc (.cells #[.int .i64 8, .string nm, .slice (a) n cap] 29)) := below_alloc1 _ _
    clear hk hl hn
    go_enter Tryz.func31, Tryz.ntmps31
    go_upto_region 1 with fail
    generalize W.alloc (.cells #[.int .i64 8, .string nm, .slice (a) n cap] 29) = W0 at *
    have qlt := q1.lt
    obtain ⟨-, d0, d1, d2, -, -, -⟩ := id q1
    go_wp2_with fail
    go_ret
    exact ⟨by rw [HT.out]; rfl, hB0⟩

set_option maxHeartbeats 1000000 in
set_option maxRecDepth 100000 in
theorem kid9 (nm : ByteArray) (a : Option Addr) (cap n : Nat) (L : List Kn) (W : World) (hl : L.length = n) (hn : n ≤ maxLen) (hk : Kids W W.heap.size a L) :
    Calls Tryz.prog 31 #[nodeV 9 nm a n cap] W fun e W' => e = .returned (.bool (n == 3 && (allB L eK 0 3))) ∧ Below W.heap.size W W' := by
  obtain ⟨T, hT⟩ : ∃ T, T = (n == 3 && (allB L eK 0 3)) := ⟨_, rfl⟩
  rw [← hT]
  have hmx : (n : Int) ≤ 9223372036854775807 := by simp only [maxLen] at hn; omega
  by_cases h0 : n = 3
  · subst h0
    have HA1 : Hid (∀ wx, Below W.heap.size W wx → Calls Tryz.prog 52 #[.agg #[.int .i64 9, .string nm, .slice (a) 3 cap], .int .i64 0, .int .i64 3, .int .u8 101, .int .i64 0] wx fun e W' => e = .returned (.bool (allB L eK 0 3)) ∧ Below wx.heap.size wx W') := fun wx hb => by
      have := mAllE 9 nm (a) cap 3 L (0) (3) 0 wx hl hn (by omega) (hk.at hb)
      exact this
    rw [show ((3 : Nat) == 3) = true from rfl, Bool.true_and] at hT
    rw [← hT] at HA1
    have HTX : True := trivial
    clear HTX
    clear hT
    unfold nodeV
    have q1 := Box3.new W (.int .i64 9) (.string nm) (.slice (a) 3 cap) 29
    have hB0 : Below W.heap.size W (W.alloc (.cells #[.int .i64 9, .string nm, .slice (a) 3 cap] 29)) := below_alloc1 _ _
    clear hk hl hn
    go_enter Tryz.func31, Tryz.ntmps31
    go_upto_region 1 with fail
    generalize W.alloc (.cells #[.int .i64 9, .string nm, .slice (a) 3 cap] 29) = W0 at *
    have qlt := q1.lt
    obtain ⟨-, d0, d1, d2, -, -, -⟩ := id q1
    go_wp2_with fail
    refine (HA1.out _ hB0).mono ?_
    rintro e w1 ⟨rfl, b1⟩
    have c1 := hB0.trans (b1.mono hB0.size)
    have q1' := q1.below b1 q1.lt
    obtain ⟨-, f10, f11, f12, -, -, -⟩ := id q1'
    go_wp2_with fail
    go_ret
    exact ⟨rfl, c1⟩
  · have z0 : ((n : Int) == 3) = false := beq_eq_false_iff_ne.2 (by omega)
    have zz0 : (n == 3) = false := beq_eq_false_iff_ne.2 h0
    rw [zz0] at hT
    clear zz0
    rw [Bool.false_and] at hT
    have HT := hide hT
    clear hT
    unfold nodeV
    have q1 := Box3.new W (.int .i64 9) (.string nm) (.slice (a) n cap) 29
    have hB0 : Below W.heap.size W (W.alloc (.cells #[.int .i64 9, .string nm, .slice (a) n cap] 29)) := below_alloc1 _ _
    clear hk hl hn
    go_enter Tryz.func31, Tryz.ntmps31
    go_upto_region 1 with fail
    generalize W.alloc (.cells #[.int .i64 9, .string nm, .slice (a) n cap] 29) = W0 at *
    have qlt := q1.lt
    obtain ⟨-, d0, d1, d2, -, -, -⟩ := id q1
    go_wp2_with fail
    go_ret
    exact ⟨by rw [HT.out]; rfl, hB0⟩

end Go.Proofs.YtjfoagmenehapaaGreatDoor.Tree

namespace Go.Proofs.YtjfoagmenehapaaGreatDoor.Tree
open Go.RowKit Go.Joins

set_option maxHeartbeats 1000000 in
set_option maxRecDepth 100000 in
theorem kid10 (nm : ByteArray) (a : Option Addr) (cap n : Nat) (L : List Kn) (W : World) (hl : L.length = n) (hn : n ≤ maxLen) (hk : Kids W W.heap.size a L) :
    Calls Tryz.prog 31 #[nodeV 10 nm a n cap] W fun e W' => e = .returned (.bool (decide (2 ≤ n) && (allB L eK 0 1 && (allB L (fun y => y == 19) 1 n)))) ∧ Below W.heap.size W W' := by
  obtain ⟨T, hT⟩ : ∃ T, T = (decide (2 ≤ n) && (allB L eK 0 1 && (allB L (fun y => y == 19) 1 n))) := ⟨_, rfl⟩
  rw [← hT]
  have hmx : (n : Int) ≤ 9223372036854775807 := by simp only [maxLen] at hn; omega
  by_cases h0 : 2 ≤ n
  · have z0 : (2 : Int) ≤ n := by omega
    have zz0 : decide (2 ≤ n) = true := decide_eq_true h0
    rw [zz0] at hT
    clear zz0
    have HA1 : Hid (∀ wx, Below W.heap.size W wx → Calls Tryz.prog 52 #[.agg #[.int .i64 10, .string nm, .slice (a) n cap], .int .i64 0, .int .i64 1, .int .u8 101, .int .i64 0] wx fun e W' => e = .returned (.bool (allB L eK 0 1)) ∧ Below wx.heap.size wx W') := fun wx hb => by
      have := mAllE 10 nm (a) cap n L (0) (1) 0 wx hl hn (by omega) (hk.at hb)
      exact this
    have HA2 : Hid (∀ wx, Below W.heap.size W wx → Calls Tryz.prog 52 #[.agg #[.int .i64 10, .string nm, .slice (a) n cap], .int .i64 1, .int .i64 n, .int .u8 0, .int .i64 19] wx fun e W' => e = .returned (.bool (allB L (fun y => y == 19) 1 n)) ∧ Below wx.heap.size wx W') := fun wx hb => by
      have := mAllK 10 nm (a) cap n L (1) (n) 19 wx hl hn (by omega) (hk.at hb)
      exact this
    replace hT : T = (allB L eK 0 1 && (allB L (fun y => y == 19) 1 n)) := hT
    cases hX1 : allB L eK 0 1 with
    | false =>
      rw [hX1] at HA1 hT
      clear hX1
      rw [Bool.false_and] at hT
      have HT := hide hT
      clear hT
      unfold nodeV
      have q1 := Box3.new W (.int .i64 10) (.string nm) (.slice (a) n cap) 29
      have hB0 : Below W.heap.size W (W.alloc (.cells #[.int .i64 10, .string nm, .slice (a) n cap] 29)) := below_alloc1 _ _
      clear hk hl hn
      go_enter Tryz.func31, Tryz.ntmps31
      go_upto_region 1 with fail
      generalize W.alloc (.cells #[.int .i64 10, .string nm, .slice (a) n cap] 29) = W0 at *
      have qlt := q1.lt
      obtain ⟨-, d0, d1, d2, -, -, -⟩ := id q1
      go_wp2_with fail
      refine (HA1.out _ hB0).mono ?_
      rintro e w1 ⟨rfl, b1⟩
      have c1 := hB0.trans (b1.mono hB0.size)
      have q1' := q1.below b1 q1.lt
      obtain ⟨-, f10, f11, f12, -, -, -⟩ := id q1'
      go_wp2_with fail
      go_ret
      exact ⟨by rw [HT.out]; rfl, c1⟩
    | true =>
      rw [hX1] at HA1 hT
      clear hX1
      rw [Bool.true_and] at hT
      rw [← hT] at HA2
      have HTX : True := trivial
      clear HTX
      clear hT
      unfold nodeV
      have q1 := Box3.new W (.int .i64 10) (.string nm) (.slice (a) n cap) 29
      have hB0 : Below W.heap.size W (W.alloc (.cells #[.int .i64 10, .string nm, .slice (a) n cap] 29)) := below_alloc1 _ _
      clear hk hl hn
      go_enter Tryz.func31, Tryz.ntmps31
      go_upto_region 1 with fail
      generalize W.alloc (.cells #[.int .i64 10, .string nm, .slice (a) n cap] 29) = W0 at *
      have qlt := q1.lt
      obtain ⟨-, d0, d1, d2, -, -, -⟩ := id q1
      go_wp2_with fail
      refine (HA1.out _ hB0).mono ?_
      rintro e w1 ⟨rfl, b1⟩
      have c1 := hB0.trans (b1.mono hB0.size)
      have q1' := q1.below b1 q1.lt
      obtain ⟨-, f10, f11, f12, -, -, -⟩ := id q1'
      go_wp2_with fail
      refine (HA2.out _ c1).mono ?_
      rintro e w2 ⟨rfl, b2⟩
      have c2 := c1.trans (b2.mono c1.size)
      have q2' := q1'.below b2 q1'.lt
      obtain ⟨-, f20, f21, f22, -, -, -⟩ := id q2'
      go_wp2_with fail
      go_ret
      exact ⟨rfl, c2⟩
  · have z0 : ¬ (2 : Int) ≤ n := by omega
    have zz0 : decide (2 ≤ n) = false := decide_eq_false h0
    rw [zz0] at hT
    clear zz0
    rw [Bool.false_and] at hT
    have HT := hide hT
    clear hT
    unfold nodeV
    have q1 := Box3.new W (.int .i64 10) (.string nm) (.slice (a) n cap) 29
    have hB0 : Below W.heap.size W (W.alloc (.cells #[.int .i64 10, .string nm, .slice (a) n cap] 29)) := below_alloc1 _ _
    clear hk hl hn
    go_enter Tryz.func31, Tryz.ntmps31
    go_upto_region 1 with fail
    generalize W.alloc (.cells #[.int .i64 10, .string nm, .slice (a) n cap] 29) = W0 at *
    have qlt := q1.lt
    obtain ⟨-, d0, d1, d2, -, -, -⟩ := id q1
    go_wp2_with fail
    go_ret
    exact ⟨by rw [HT.out]; rfl, hB0⟩

set_option maxHeartbeats 1000000 in
set_option maxRecDepth 100000 in
theorem kid11 (nm : ByteArray) (a : Option Addr) (cap n : Nat) (L : List Kn) (W : World) (hl : L.length = n) (hn : n ≤ maxLen) (hk : Kids W W.heap.size a L) :
    Calls Tryz.prog 31 #[nodeV 11 nm a n cap] W fun e W' => e = .returned (.bool (n != 1 && (allB L eK 0 n))) ∧ Below W.heap.size W W' := by
  obtain ⟨T, hT⟩ : ∃ T, T = (n != 1 && (allB L eK 0 n)) := ⟨_, rfl⟩
  rw [← hT]
  have hmx : (n : Int) ≤ 9223372036854775807 := by simp only [maxLen] at hn; omega
  by_cases h0 : n ≠ 1
  · have z0 : ((n : Int) != 1) = true := by simp; omega
    have zz0 : (n != 1) = true := by simpa using h0
    rw [zz0] at hT
    clear zz0
    have HA1 : Hid (∀ wx, Below W.heap.size W wx → Calls Tryz.prog 52 #[.agg #[.int .i64 11, .string nm, .slice (a) n cap], .int .i64 0, .int .i64 n, .int .u8 101, .int .i64 0] wx fun e W' => e = .returned (.bool (allB L eK 0 n)) ∧ Below wx.heap.size wx W') := fun wx hb => by
      have := mAllE 11 nm (a) cap n L (0) (n) 0 wx hl hn (by omega) (hk.at hb)
      exact this
    replace hT : T = (allB L eK 0 n) := hT
    rw [← hT] at HA1
    have HTX : True := trivial
    clear HTX
    clear hT
    unfold nodeV
    have q1 := Box3.new W (.int .i64 11) (.string nm) (.slice (a) n cap) 29
    have hB0 : Below W.heap.size W (W.alloc (.cells #[.int .i64 11, .string nm, .slice (a) n cap] 29)) := below_alloc1 _ _
    clear hk hl hn
    go_enter Tryz.func31, Tryz.ntmps31
    go_upto_region 1 with fail
    generalize W.alloc (.cells #[.int .i64 11, .string nm, .slice (a) n cap] 29) = W0 at *
    have qlt := q1.lt
    obtain ⟨-, d0, d1, d2, -, -, -⟩ := id q1
    go_wp2_with fail
    refine (HA1.out _ hB0).mono ?_
    rintro e w1 ⟨rfl, b1⟩
    have c1 := hB0.trans (b1.mono hB0.size)
    have q1' := q1.below b1 q1.lt
    obtain ⟨-, f10, f11, f12, -, -, -⟩ := id q1'
    go_wp2_with fail
    go_ret
    exact ⟨rfl, c1⟩
  · have z0 : ((n : Int) != 1) = false := by simp; omega
    have zz0 : (n != 1) = false := by simp; omega
    rw [zz0] at hT
    clear zz0
    rw [Bool.false_and] at hT
    have HT := hide hT
    clear hT
    unfold nodeV
    have q1 := Box3.new W (.int .i64 11) (.string nm) (.slice (a) n cap) 29
    have hB0 : Below W.heap.size W (W.alloc (.cells #[.int .i64 11, .string nm, .slice (a) n cap] 29)) := below_alloc1 _ _
    clear hk hl hn
    go_enter Tryz.func31, Tryz.ntmps31
    go_upto_region 1 with fail
    generalize W.alloc (.cells #[.int .i64 11, .string nm, .slice (a) n cap] 29) = W0 at *
    have qlt := q1.lt
    obtain ⟨-, d0, d1, d2, -, -, -⟩ := id q1
    go_wp2_with fail
    go_ret
    exact ⟨by rw [HT.out]; rfl, hB0⟩

set_option maxHeartbeats 1000000 in
set_option maxRecDepth 100000 in
theorem kid13 (nm : ByteArray) (a : Option Addr) (cap n : Nat) (L : List Kn) (W : World) (hl : L.length = n) (hn : n ≤ maxLen) (hk : Kids W W.heap.size a L) :
    Calls Tryz.prog 31 #[nodeV 13 nm a n cap] W fun e W' => e = .returned (.bool (n == 2 && (allB L eK 0 2))) ∧ Below W.heap.size W W' := by
  obtain ⟨T, hT⟩ : ∃ T, T = (n == 2 && (allB L eK 0 2)) := ⟨_, rfl⟩
  rw [← hT]
  have hmx : (n : Int) ≤ 9223372036854775807 := by simp only [maxLen] at hn; omega
  by_cases h0 : n = 2
  · subst h0
    have HA1 : Hid (∀ wx, Below W.heap.size W wx → Calls Tryz.prog 52 #[.agg #[.int .i64 13, .string nm, .slice (a) 2 cap], .int .i64 0, .int .i64 2, .int .u8 101, .int .i64 0] wx fun e W' => e = .returned (.bool (allB L eK 0 2)) ∧ Below wx.heap.size wx W') := fun wx hb => by
      have := mAllE 13 nm (a) cap 2 L (0) (2) 0 wx hl hn (by omega) (hk.at hb)
      exact this
    rw [show ((2 : Nat) == 2) = true from rfl, Bool.true_and] at hT
    rw [← hT] at HA1
    have HTX : True := trivial
    clear HTX
    clear hT
    unfold nodeV
    have q1 := Box3.new W (.int .i64 13) (.string nm) (.slice (a) 2 cap) 29
    have hB0 : Below W.heap.size W (W.alloc (.cells #[.int .i64 13, .string nm, .slice (a) 2 cap] 29)) := below_alloc1 _ _
    clear hk hl hn
    go_enter Tryz.func31, Tryz.ntmps31
    go_upto_region 1 with fail
    generalize W.alloc (.cells #[.int .i64 13, .string nm, .slice (a) 2 cap] 29) = W0 at *
    have qlt := q1.lt
    obtain ⟨-, d0, d1, d2, -, -, -⟩ := id q1
    go_wp2_with fail
    refine (HA1.out _ hB0).mono ?_
    rintro e w1 ⟨rfl, b1⟩
    have c1 := hB0.trans (b1.mono hB0.size)
    have q1' := q1.below b1 q1.lt
    obtain ⟨-, f10, f11, f12, -, -, -⟩ := id q1'
    go_wp2_with fail
    go_ret
    exact ⟨rfl, c1⟩
  · have z0 : ((n : Int) == 2) = false := beq_eq_false_iff_ne.2 (by omega)
    have zz0 : (n == 2) = false := beq_eq_false_iff_ne.2 h0
    rw [zz0] at hT
    clear zz0
    rw [Bool.false_and] at hT
    have HT := hide hT
    clear hT
    unfold nodeV
    have q1 := Box3.new W (.int .i64 13) (.string nm) (.slice (a) n cap) 29
    have hB0 : Below W.heap.size W (W.alloc (.cells #[.int .i64 13, .string nm, .slice (a) n cap] 29)) := below_alloc1 _ _
    clear hk hl hn
    go_enter Tryz.func31, Tryz.ntmps31
    go_upto_region 1 with fail
    generalize W.alloc (.cells #[.int .i64 13, .string nm, .slice (a) n cap] 29) = W0 at *
    have qlt := q1.lt
    obtain ⟨-, d0, d1, d2, -, -, -⟩ := id q1
    go_wp2_with fail
    go_ret
    exact ⟨by rw [HT.out]; rfl, hB0⟩

set_option maxHeartbeats 1000000 in
set_option maxRecDepth 100000 in
theorem kid15 (nm : ByteArray) (a : Option Addr) (cap n : Nat) (L : List Kn) (W : World) (hl : L.length = n) (hn : n ≤ maxLen) (hk : Kids W W.heap.size a L) :
    Calls Tryz.prog 31 #[nodeV 15 nm a n cap] W fun e W' => e = .returned (.bool (n == 1 && (allB L eK 0 1))) ∧ Below W.heap.size W W' := by
  obtain ⟨T, hT⟩ : ∃ T, T = (n == 1 && (allB L eK 0 1)) := ⟨_, rfl⟩
  rw [← hT]
  have hmx : (n : Int) ≤ 9223372036854775807 := by simp only [maxLen] at hn; omega
  by_cases h0 : n = 1
  · subst h0
    have HA1 : Hid (∀ wx, Below W.heap.size W wx → Calls Tryz.prog 52 #[.agg #[.int .i64 15, .string nm, .slice (a) 1 cap], .int .i64 0, .int .i64 1, .int .u8 101, .int .i64 0] wx fun e W' => e = .returned (.bool (allB L eK 0 1)) ∧ Below wx.heap.size wx W') := fun wx hb => by
      have := mAllE 15 nm (a) cap 1 L (0) (1) 0 wx hl hn (by omega) (hk.at hb)
      exact this
    rw [show ((1 : Nat) == 1) = true from rfl, Bool.true_and] at hT
    rw [← hT] at HA1
    have HTX : True := trivial
    clear HTX
    clear hT
    unfold nodeV
    have q1 := Box3.new W (.int .i64 15) (.string nm) (.slice (a) 1 cap) 29
    have hB0 : Below W.heap.size W (W.alloc (.cells #[.int .i64 15, .string nm, .slice (a) 1 cap] 29)) := below_alloc1 _ _
    clear hk hl hn
    go_enter Tryz.func31, Tryz.ntmps31
    go_upto_region 1 with fail
    generalize W.alloc (.cells #[.int .i64 15, .string nm, .slice (a) 1 cap] 29) = W0 at *
    have qlt := q1.lt
    obtain ⟨-, d0, d1, d2, -, -, -⟩ := id q1
    go_wp2_with fail
    refine (HA1.out _ hB0).mono ?_
    rintro e w1 ⟨rfl, b1⟩
    have c1 := hB0.trans (b1.mono hB0.size)
    have q1' := q1.below b1 q1.lt
    obtain ⟨-, f10, f11, f12, -, -, -⟩ := id q1'
    go_wp2_with fail
    go_ret
    exact ⟨rfl, c1⟩
  · have z0 : ((n : Int) == 1) = false := beq_eq_false_iff_ne.2 (by omega)
    have zz0 : (n == 1) = false := beq_eq_false_iff_ne.2 h0
    rw [zz0] at hT
    clear zz0
    rw [Bool.false_and] at hT
    have HT := hide hT
    clear hT
    unfold nodeV
    have q1 := Box3.new W (.int .i64 15) (.string nm) (.slice (a) n cap) 29
    have hB0 : Below W.heap.size W (W.alloc (.cells #[.int .i64 15, .string nm, .slice (a) n cap] 29)) := below_alloc1 _ _
    clear hk hl hn
    go_enter Tryz.func31, Tryz.ntmps31
    go_upto_region 1 with fail
    generalize W.alloc (.cells #[.int .i64 15, .string nm, .slice (a) n cap] 29) = W0 at *
    have qlt := q1.lt
    obtain ⟨-, d0, d1, d2, -, -, -⟩ := id q1
    go_wp2_with fail
    go_ret
    exact ⟨by rw [HT.out]; rfl, hB0⟩

set_option maxHeartbeats 1000000 in
set_option maxRecDepth 100000 in
theorem kid16 (nm : ByteArray) (a : Option Addr) (cap n : Nat) (L : List Kn) (W : World) (hl : L.length = n) (hn : n ≤ maxLen) (hk : Kids W W.heap.size a L) :
    Calls Tryz.prog 31 #[nodeV 16 nm a n cap] W fun e W' => e = .returned (.bool (n == 1 && (allB L eK 0 1))) ∧ Below W.heap.size W W' := by
  obtain ⟨T, hT⟩ : ∃ T, T = (n == 1 && (allB L eK 0 1)) := ⟨_, rfl⟩
  rw [← hT]
  have hmx : (n : Int) ≤ 9223372036854775807 := by simp only [maxLen] at hn; omega
  by_cases h0 : n = 1
  · subst h0
    have HA1 : Hid (∀ wx, Below W.heap.size W wx → Calls Tryz.prog 52 #[.agg #[.int .i64 16, .string nm, .slice (a) 1 cap], .int .i64 0, .int .i64 1, .int .u8 101, .int .i64 0] wx fun e W' => e = .returned (.bool (allB L eK 0 1)) ∧ Below wx.heap.size wx W') := fun wx hb => by
      have := mAllE 16 nm (a) cap 1 L (0) (1) 0 wx hl hn (by omega) (hk.at hb)
      exact this
    rw [show ((1 : Nat) == 1) = true from rfl, Bool.true_and] at hT
    rw [← hT] at HA1
    have HTX : True := trivial
    clear HTX
    clear hT
    unfold nodeV
    have q1 := Box3.new W (.int .i64 16) (.string nm) (.slice (a) 1 cap) 29
    have hB0 : Below W.heap.size W (W.alloc (.cells #[.int .i64 16, .string nm, .slice (a) 1 cap] 29)) := below_alloc1 _ _
    clear hk hl hn
    go_enter Tryz.func31, Tryz.ntmps31
    go_upto_region 1 with fail
    generalize W.alloc (.cells #[.int .i64 16, .string nm, .slice (a) 1 cap] 29) = W0 at *
    have qlt := q1.lt
    obtain ⟨-, d0, d1, d2, -, -, -⟩ := id q1
    go_wp2_with fail
    refine (HA1.out _ hB0).mono ?_
    rintro e w1 ⟨rfl, b1⟩
    have c1 := hB0.trans (b1.mono hB0.size)
    have q1' := q1.below b1 q1.lt
    obtain ⟨-, f10, f11, f12, -, -, -⟩ := id q1'
    go_wp2_with fail
    go_ret
    exact ⟨rfl, c1⟩
  · have z0 : ((n : Int) == 1) = false := beq_eq_false_iff_ne.2 (by omega)
    have zz0 : (n == 1) = false := beq_eq_false_iff_ne.2 h0
    rw [zz0] at hT
    clear zz0
    rw [Bool.false_and] at hT
    have HT := hide hT
    clear hT
    unfold nodeV
    have q1 := Box3.new W (.int .i64 16) (.string nm) (.slice (a) n cap) 29
    have hB0 : Below W.heap.size W (W.alloc (.cells #[.int .i64 16, .string nm, .slice (a) n cap] 29)) := below_alloc1 _ _
    clear hk hl hn
    go_enter Tryz.func31, Tryz.ntmps31
    go_upto_region 1 with fail
    generalize W.alloc (.cells #[.int .i64 16, .string nm, .slice (a) n cap] 29) = W0 at *
    have qlt := q1.lt
    obtain ⟨-, d0, d1, d2, -, -, -⟩ := id q1
    go_wp2_with fail
    go_ret
    exact ⟨by rw [HT.out]; rfl, hB0⟩

end Go.Proofs.YtjfoagmenehapaaGreatDoor.Tree

