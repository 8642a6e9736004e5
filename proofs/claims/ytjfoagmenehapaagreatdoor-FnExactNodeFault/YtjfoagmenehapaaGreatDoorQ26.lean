import Derived.Test.YtjfoagmenehapaaGreatDoorQ21
namespace Go.Proofs.YtjfoagmenehapaaGreatDoor.Tree
open Go.RowKit Go.Joins

set_option maxHeartbeats 1000000 in
set_option maxRecDepth 100000 in
theorem kid50 (nm : ByteArray) (a : Option Addr) (cap n : Nat) (L : List Kn) (W : World) (hl : L.length = n) (hn : n ≤ maxLen) (_hk : Kids W W.heap.size a L) :
    Calls Tryz.prog 35 #[nodeV 50 nm a n cap] W fun e W' => e = .returned (.bool (n == 0)) ∧ Below W.heap.size W W' := by
  obtain ⟨T, hT⟩ : ∃ T, T = (n == 0) := ⟨_, rfl⟩
  rw [← hT]
  have hmx : (n : Int) ≤ 9223372036854775807 := by simp only [maxLen] at hn; omega
  by_cases h0 : n = 0
  · subst h0
    have HT := hide hT
    clear hT
    unfold nodeV
    have q1 := Box3.new W (.int .i64 50) (.string nm) (.slice (a) 0 cap) 29
    have hB0 : Below W.heap.size W (W.alloc (.cells #[.int .i64 50, .string nm, .slice (a) 0 cap] 29)) := below_alloc1 _ _
    clear hl hn
    go_enter Tryz.func35, Tryz.ntmps35
    go_upto_region 1 with fail
    generalize W.alloc (.cells #[.int .i64 50, .string nm, .slice (a) 0 cap] 29) = W0 at *
    have qlt := q1.lt
    obtain ⟨-, d0, d1, d2, -, -, -⟩ := id q1
    go_wp2_with fail
    go_ret
    exact ⟨by rw [HT.out]; rfl, hB0⟩
  · have z0 : ((n : Int) == 0) = false := beq_eq_false_iff_ne.2 (by omega)
    have zz0 : (n == 0) = false := beq_eq_false_iff_ne.2 h0
    rw [zz0] at hT
    clear zz0
    have HT := hide hT
    clear hT
    unfold nodeV
    have q1 := Box3.new W (.int .i64 50) (.string nm) (.slice (a) n cap) 29
    have hB0 : Below W.heap.size W (W.alloc (.cells #[.int .i64 50, .string nm, .slice (a) n cap] 29)) := below_alloc1 _ _
    clear hl hn
    go_enter Tryz.func35, Tryz.ntmps35
    go_upto_region 1 with fail
    generalize W.alloc (.cells #[.int .i64 50, .string nm, .slice (a) n cap] 29) = W0 at *
    have qlt := q1.lt
    obtain ⟨-, d0, d1, d2, -, -, -⟩ := id q1
    go_wp2_with fail
    go_ret
    exact ⟨by rw [HT.out]; rfl, hB0⟩

set_option maxHeartbeats 1000000 in
set_option maxRecDepth 100000 in
theorem kid51 (nm : ByteArray) (a : Option Addr) (cap n : Nat) (L : List Kn) (W : World) (hl : L.length = n) (hn : n ≤ maxLen) (_hk : Kids W W.heap.size a L) :
    Calls Tryz.prog 35 #[nodeV 51 nm a n cap] W fun e W' => e = .returned (.bool (n == 0)) ∧ Below W.heap.size W W' := by
  obtain ⟨T, hT⟩ : ∃ T, T = (n == 0) := ⟨_, rfl⟩
  rw [← hT]
  have hmx : (n : Int) ≤ 9223372036854775807 := by simp only [maxLen] at hn; omega
  by_cases h0 : n = 0
  · subst h0
    have HT := hide hT
    clear hT
    unfold nodeV
    have q1 := Box3.new W (.int .i64 51) (.string nm) (.slice (a) 0 cap) 29
    have hB0 : Below W.heap.size W (W.alloc (.cells #[.int .i64 51, .string nm, .slice (a) 0 cap] 29)) := below_alloc1 _ _
    clear hl hn
    go_enter Tryz.func35, Tryz.ntmps35
    go_upto_region 1 with fail
    generalize W.alloc (.cells #[.int .i64 51, .string nm, .slice (a) 0 cap] 29) = W0 at *
    have qlt := q1.lt
    obtain ⟨-, d0, d1, d2, -, -, -⟩ := id q1
    go_wp2_with fail
    go_ret
    exact ⟨by rw [HT.out]; rfl, hB0⟩
  · have z0 : ((n : Int) == 0) = false := beq_eq_false_iff_ne.2 (by omega)
    have zz0 : (n == 0) = false := beq_eq_false_iff_ne.2 h0
    rw [zz0] at hT
    clear zz0
    have HT := hide hT
    clear hT
    unfold nodeV
    have q1 := Box3.new W (.int .i64 51) (.string nm) (.slice (a) n cap) 29
    have hB0 : Below W.heap.size W (W.alloc (.cells #[.int .i64 51, .string nm, .slice (a) n cap] 29)) := below_alloc1 _ _
    clear hl hn
    go_enter Tryz.func35, Tryz.ntmps35
    go_upto_region 1 with fail
    generalize W.alloc (.cells #[.int .i64 51, .string nm, .slice (a) n cap] 29) = W0 at *
    have qlt := q1.lt
    obtain ⟨-, d0, d1, d2, -, -, -⟩ := id q1
    go_wp2_with fail
    go_ret
    exact ⟨by rw [HT.out]; rfl, hB0⟩

set_option maxHeartbeats 1000000 in
set_option maxRecDepth 100000 in
theorem kid52 (nm : ByteArray) (a : Option Addr) (cap n : Nat) (L : List Kn) (W : World) (hl : L.length = n) (hn : n ≤ maxLen) (hk : Kids W W.heap.size a L) :
    Calls Tryz.prog 35 #[nodeV 52 nm a n cap] W fun e W' => e = .returned (.bool (decide (2 ≤ n) && (allB L tK 0 n))) ∧ Below W.heap.size W W' := by
  obtain ⟨T, hT⟩ : ∃ T, T = (decide (2 ≤ n) && (allB L tK 0 n)) := ⟨_, rfl⟩
  rw [← hT]
  have hmx : (n : Int) ≤ 9223372036854775807 := by simp only [maxLen] at hn; omega
  by_cases h0 : 2 ≤ n
  · have z0 : (2 : Int) ≤ n := by omega
    have zz0 : decide (2 ≤ n) = true := decide_eq_true h0
    rw [zz0] at hT
    clear zz0
    have HA1 : Hid (∀ wx, Below W.heap.size W wx → Calls Tryz.prog 52 #[.agg #[.int .i64 52, .string nm, .slice (a) n cap], .int .i64 0, .int .i64 n, .int .u8 116, .int .i64 0] wx fun e W' => e = .returned (.bool (allB L tK 0 n)) ∧ Below wx.heap.size wx W') := fun wx hb => by
      have := mAllT 52 nm (a) cap n L (0) (n) 0 wx hl hn (by omega) (hk.at hb)
      exact this
    replace hT : T = (allB L tK 0 n) := hT
    rw [← hT] at HA1
    have HTX : True := trivial
    clear HTX
    clear hT
    unfold nodeV
    have q1 := Box3.new W (.int .i64 52) (.string nm) (.slice (a) n cap) 29
    have hB0 : Below W.heap.size W (W.alloc (.cells #[.int .i64 52, .string nm, .slice (a) n cap] 29)) := below_alloc1 _ _
    clear hk hl hn
    go_enter Tryz.func35, Tryz.ntmps35
    go_upto_region 1 with fail
    generalize W.alloc (.cells #[.int .i64 52, .string nm, .slice (a) n cap] 29) = W0 at *
    have qlt := q1.lt
    obtain ⟨-, d0, d1, d2, -, -, -⟩ := id q1
    go_wp2_with fail
    refine (HA1.out _ hB0).mono ?_
    rintro e w1 ⟨rfl, b1⟩
    have c1 := hB0.trans (b1.mono hB0.size)
    have q1' := q1.below b1 q1.lt
    obtain ⟨-, f10, f11, f12, -, -, -⟩ := id q1'
    go_wp2_with fail
    go_ret
    exact ⟨rfl, c1⟩
  · have z0 : ¬ (2 : Int) ≤ n := by omega
    have zz0 : decide (2 ≤ n) = false := decide_eq_false h0
    rw [zz0] at hT
    clear zz0
    rw [Bool.false_and] at hT
    have HT := hide hT
    clear hT
    unfold nodeV
    have q1 := Box3.new W (.int .i64 52) (.string nm) (.slice (a) n cap) 29
    have hB0 : Below W.heap.size W (W.alloc (.cells #[.int .i64 52, .string nm, .slice (a) n cap] 29)) := below_alloc1 _ _
    clear hk hl hn
    go_enter Tryz.func35, Tryz.ntmps35
    go_upto_region 1 with fail
    generalize W.alloc (.cells #[.int .i64 52, .string nm, .slice (a) n cap] 29) = W0 at *
    have qlt := q1.lt
    obtain ⟨-, d0, d1, d2, -, -, -⟩ := id q1
    go_wp2_with fail
    go_ret
    exact ⟨by rw [HT.out]; rfl, hB0⟩

set_option maxHeartbeats 1000000 in
set_option maxRecDepth 100000 in
theorem kid53 (nm : ByteArray) (a : Option Addr) (cap n : Nat) (L : List Kn) (W : World) (hl : L.length = n) (hn : n ≤ maxLen) (hk : Kids W W.heap.size a L) :
    Calls Tryz.prog 35 #[nodeV 53 nm a n cap] W fun e W' => e = .returned (.bool (n == 2 && (allB L tK 0 2))) ∧ Below W.heap.size W W' := by
  obtain ⟨T, hT⟩ : ∃ T, T = (n == 2 && (allB L tK 0 2)) := ⟨_, rfl⟩
  rw [← hT]
  have hmx : (n : Int) ≤ 9223372036854775807 := by simp only [maxLen] at hn; omega
  by_cases h0 : n = 2
  · subst h0
    have HA1 : Hid (∀ wx, Below W.heap.size W wx → Calls Tryz.prog 52 #[.agg #[.int .i64 53, .string nm, .slice (a) 2 cap], .int .i64 0, .int .i64 2, .int .u8 116, .int .i64 0] wx fun e W' => e = .returned (.bool (allB L tK 0 2)) ∧ Below wx.heap.size wx W') := fun wx hb => by
      have := mAllT 53 nm (a) cap 2 L (0) (2) 0 wx hl hn (by omega) (hk.at hb)
      exact this
    rw [show ((2 : Nat) == 2) = true from rfl, Bool.true_and] at hT
    rw [← hT] at HA1
    have HTX : True := trivial
    clear HTX
    clear hT
    unfold nodeV
    have q1 := Box3.new W (.int .i64 53) (.string nm) (.slice (a) 2 cap) 29
    have hB0 : Below W.heap.size W (W.alloc (.cells #[.int .i64 53, .string nm, .slice (a) 2 cap] 29)) := below_alloc1 _ _
    clear hk hl hn
    go_enter Tryz.func35, Tryz.ntmps35
    go_upto_region 1 with fail
    generalize W.alloc (.cells #[.int .i64 53, .string nm, .slice (a) 2 cap] 29) = W0 at *
    have qlt := q1.lt
    obtain ⟨-, d0, d1, d2, -, -, -⟩ := id q1
    go_wp2_with fail
    refine (HA1.out _ hB0).mono ?_
    rintro e w1 ⟨rfl, b1⟩
    have c1 := hB0.trans (b1.mono hB0.size)
    have q1' := q1.below b1 q1.lt
    obtain ⟨-, f10, f11, f12, -, -, -⟩ := id q1'
    go_wp2_with fail
    go_ret
    exact ⟨rfl, c1⟩
  · have z0 : ((n : Int) == 2) = false := beq_eq_false_iff_ne.2 (by omega)
    have zz0 : (n == 2) = false := beq_eq_false_iff_ne.2 h0
    rw [zz0] at hT
    clear zz0
    rw [Bool.false_and] at hT
    have HT := hide hT
    clear hT
    unfold nodeV
    have q1 := Box3.new W (.int .i64 53) (.string nm) (.slice (a) n cap) 29
    have hB0 : Below W.heap.size W (W.alloc (.cells #[.int .i64 53, .string nm, .slice (a) n cap] 29)) := below_alloc1 _ _
    clear hk hl hn
    go_enter Tryz.func35, Tryz.ntmps35
    go_upto_region 1 with fail
    generalize W.alloc (.cells #[.int .i64 53, .string nm, .slice (a) n cap] 29) = W0 at *
    have qlt := q1.lt
    obtain ⟨-, d0, d1, d2, -, -, -⟩ := id q1
    go_wp2_with fail
    go_ret
    exact ⟨by rw [HT.out]; rfl, hB0⟩

set_option maxHeartbeats 1000000 in
set_option maxRecDepth 100000 in
theorem kid54 (nm : ByteArray) (a : Option Addr) (cap n : Nat) (L : List Kn) (W : World) (hl : L.length = n) (hn : n ≤ maxLen) (hk : Kids W W.heap.size a L) :
    Calls Tryz.prog 35 #[nodeV 54 nm a n cap] W fun e W' => e = .returned (.bool (n != 1 && (allB L tK 0 n))) ∧ Below W.heap.size W W' := by
  obtain ⟨T, hT⟩ : ∃ T, T = (n != 1 && (allB L tK 0 n)) := ⟨_, rfl⟩
  rw [← hT]
  have hmx : (n : Int) ≤ 9223372036854775807 := by simp only [maxLen] at hn; omega
  by_cases h0 : n ≠ 1
  · have z0 : ((n : Int) != 1) = true := by simp; omega
    have zz0 : (n != 1) = true := by simpa using h0
    rw [zz0] at hT
    clear zz0
    have HA1 : Hid (∀ wx, Below W.heap.size W wx → Calls Tryz.prog 52 #[.agg #[.int .i64 54, .string nm, .slice (a) n cap], .int .i64 0, .int .i64 n, .int .u8 116, .int .i64 0] wx fun e W' => e = .returned (.bool (allB L tK 0 n)) ∧ Below wx.heap.size wx W') := fun wx hb => by
      have := mAllT 54 nm (a) cap n L (0) (n) 0 wx hl hn (by omega) (hk.at hb)
      exact this
    replace hT : T = (allB L tK 0 n) := hT
    rw [← hT] at HA1
    have HTX : True := trivial
    clear HTX
    clear hT
    unfold nodeV
    have q1 := Box3.new W (.int .i64 54) (.string nm) (.slice (a) n cap) 29
    have hB0 : Below W.heap.size W (W.alloc (.cells #[.int .i64 54, .string nm, .slice (a) n cap] 29)) := below_alloc1 _ _
    clear hk hl hn
    go_enter Tryz.func35, Tryz.ntmps35
    go_upto_region 1 with fail
    generalize W.alloc (.cells #[.int .i64 54, .string nm, .slice (a) n cap] 29) = W0 at *
    have qlt := q1.lt
    obtain ⟨-, d0, d1, d2, -, -, -⟩ := id q1
    go_wp2_with fail
    refine (HA1.out _ hB0).mono ?_
    rintro e w1 ⟨rfl, b1⟩
    have c1 := hB0.trans (b1.mono hB0.size)
    have q1' := q1.below b1 q1.lt
    obtain ⟨-, f10, f11, f12, -, -, -⟩ := id q1'
    go_wp2_with fail
    go_ret
    exact ⟨rfl, c1⟩
  · have z0 : ((n : Int) != 1) = false := by simp; omega
    have zz0 : (n != 1) = false := by simp; omega
    rw [zz0] at hT
    clear zz0
    rw [Bool.false_and] at hT
    have HT := hide hT
    clear hT
    unfold nodeV
    have q1 := Box3.new W (.int .i64 54) (.string nm) (.slice (a) n cap) 29
    have hB0 : Below W.heap.size W (W.alloc (.cells #[.int .i64 54, .string nm, .slice (a) n cap] 29)) := below_alloc1 _ _
    clear hk hl hn
    go_enter Tryz.func35, Tryz.ntmps35
    go_upto_region 1 with fail
    generalize W.alloc (.cells #[.int .i64 54, .string nm, .slice (a) n cap] 29) = W0 at *
    have qlt := q1.lt
    obtain ⟨-, d0, d1, d2, -, -, -⟩ := id q1
    go_wp2_with fail
    go_ret
    exact ⟨by rw [HT.out]; rfl, hB0⟩

set_option maxHeartbeats 1000000 in
set_option maxRecDepth 100000 in
theorem kid55 (nm : ByteArray) (a : Option Addr) (cap n : Nat) (L : List Kn) (W : World) (hl : L.length = n) (hn : n ≤ maxLen) (hk : Kids W W.heap.size a L) :
    Calls Tryz.prog 35 #[nodeV 55 nm a n cap] W fun e W' => e = .returned (.bool (n == 1 && (allB L tK 0 1))) ∧ Below W.heap.size W W' := by
  obtain ⟨T, hT⟩ : ∃ T, T = (n == 1 && (allB L tK 0 1)) := ⟨_, rfl⟩
  rw [← hT]
  have hmx : (n : Int) ≤ 9223372036854775807 := by simp only [maxLen] at hn; omega
  by_cases h0 : n = 1
  · subst h0
    have HA1 : Hid (∀ wx, Below W.heap.size W wx → Calls Tryz.prog 52 #[.agg #[.int .i64 55, .string nm, .slice (a) 1 cap], .int .i64 0, .int .i64 1, .int .u8 116, .int .i64 0] wx fun e W' => e = .returned (.bool (allB L tK 0 1)) ∧ Below wx.heap.size wx W') := fun wx hb => by
      have := mAllT 55 nm (a) cap 1 L (0) (1) 0 wx hl hn (by omega) (hk.at hb)
      exact this
    rw [show ((1 : Nat) == 1) = true from rfl, Bool.true_and] at hT
    rw [← hT] at HA1
    have HTX : True := trivial
    clear HTX
    clear hT
    unfold nodeV
    have q1 := Box3.new W (.int .i64 55) (.string nm) (.slice (a) 1 cap) 29
    have hB0 : Below W.heap.size W (W.alloc (.cells #[.int .i64 55, .string nm, .slice (a) 1 cap] 29)) := below_alloc1 _ _
    clear hk hl hn
    go_enter Tryz.func35, Tryz.ntmps35
    go_upto_region 1 with fail
    generalize W.alloc (.cells #[.int .i64 55, .string nm, .slice (a) 1 cap] 29) = W0 at *
    have qlt := q1.lt
    obtain ⟨-, d0, d1, d2, -, -, -⟩ := id q1
    go_wp2_with fail
    refine (HA1.out _ hB0).mono ?_
    rintro e w1 ⟨rfl, b1⟩
    have c1 := hB0.trans (b1.mono hB0.size)
    have q1' := q1.below b1 q1.lt
    obtain ⟨-, f10, f11, f12, -, -, -⟩ := id q1'
    go_wp2_with fail
    go_ret
    exact ⟨rfl, c1⟩
  · have z0 : ((n : Int) == 1) = false := beq_eq_false_iff_ne.2 (by omega)
    have zz0 : (n == 1) = false := beq_eq_false_iff_ne.2 h0
    rw [zz0] at hT
    clear zz0
    rw [Bool.false_and] at hT
    have HT := hide hT
    clear hT
    unfold nodeV
    have q1 := Box3.new W (.int .i64 55) (.string nm) (.slice (a) n cap) 29
    have hB0 : Below W.heap.size W (W.alloc (.cells #[.int .i64 55, .string nm, .slice (a) n cap] 29)) := below_alloc1 _ _
    clear hk hl hn
    go_enter Tryz.func35, Tryz.ntmps35
    go_upto_region 1 with fail
    generalize W.alloc (.cells #[.int .i64 55, .string nm, .slice (a) n cap] 29) = W0 at *
    have qlt := q1.lt
    obtain ⟨-, d0, d1, d2, -, -, -⟩ := id q1
    go_wp2_with fail
    go_ret
    exact ⟨by rw [HT.out]; rfl, hB0⟩

end Go.Proofs.YtjfoagmenehapaaGreatDoor.Tree

namespace Go.Proofs.YtjfoagmenehapaaGreatDoor.Tree
open Go.RowKit Go.Joins

set_option maxHeartbeats 1000000 in
set_option maxRecDepth 100000 in
theorem kid60 (nm : ByteArray) (a : Option Addr) (cap n : Nat) (L : List Kn) (W : World) (hl : L.length = n) (hn : n ≤ maxLen) (hk : Kids W W.heap.size a L) :
    Calls Tryz.prog 36 #[nodeV 60 nm a n cap] W fun e W' => e = .returned (.bool (n == 3 && (plainB (kd L (0)) (kn L (0)) && (kd L (1) == 69 && (allB L tK 2 3))))) ∧ Below W.heap.size W W' := by
  obtain ⟨T, hT⟩ : ∃ T, T = (n == 3 && (plainB (kd L (0)) (kn L (0)) && (kd L (1) == 69 && (allB L tK 2 3)))) := ⟨_, rfl⟩
  rw [← hT]
  have hmx : (n : Int) ≤ 9223372036854775807 := by simp only [maxLen] at hn; omega
  by_cases h0 : n = 3
  · subst h0
    obtain ⟨g, o, rfl, hg, hr⟩ := id hk (by omega)
    obtain ⟨x0, hx0⟩ : ∃ x, L[0]? = some x := ⟨_, List.getElem?_eq_getElem (by omega)⟩
    have HX0 := hide (hr _ _ hx0)
    have hk0 : kd L (0) = x0.k := by unfold kd; rw [hx0]
    have hm0 : kn L (0) = x0.nm := by unfold kn; rw [hx0]
    obtain ⟨x1, hx1⟩ : ∃ x, L[1]? = some x := ⟨_, List.getElem?_eq_getElem (by omega)⟩
    have HX1 := hide (hr _ _ hx1)
    have hk1 : kd L (1) = x1.k := by unfold kd; rw [hx1]
    have hm1 : kn L (1) = x1.nm := by unfold kn; rw [hx1]
    have HA1 : Hid (∀ wx, Calls Tryz.prog 55 #[.agg #[.int .i64 x0.k, .string x0.nm, .slice x0.a x0.ks.len x0.cap]] wx fun e W' => e = .returned (.bool (plainB x0.k x0.nm)) ∧ Below wx.heap.size wx W') := fun wx => mPlain _ _ _ _ _ wx
    have HA3 : Hid (∀ wx, Below W.heap.size W wx → Calls Tryz.prog 52 #[.agg #[.int .i64 60, .string nm, .slice (some ⟨g, o, none⟩) 3 cap], .int .i64 2, .int .i64 3, .int .u8 116, .int .i64 0] wx fun e W' => e = .returned (.bool (allB L tK 2 3)) ∧ Below wx.heap.size wx W') := fun wx hb => by
      have := mAllT 60 nm (some ⟨g, o, none⟩) cap 3 L (2) (3) 0 wx hl hn (by omega) (hk.at hb)
      exact this
    rw [hk0] at hT
    rw [hm0] at hT
    rw [hk1] at hT
    clear hr hx0 hk0 hm0 hx1 hk1 hm1
    rw [show ((3 : Nat) == 3) = true from rfl, Bool.true_and] at hT
    cases hX1 : plainB x0.k x0.nm with
    | false =>
      rw [hX1] at HA1 hT
      clear hX1
      rw [Bool.false_and] at hT
      have HT := hide hT
      clear hT
      unfold nodeV
      have q1 := Box3.new W (.int .i64 60) (.string nm) (.slice (some ⟨g, o, none⟩) 3 cap) 29
      have hB0 : Below W.heap.size W (W.alloc (.cells #[.int .i64 60, .string nm, .slice (some ⟨g, o, none⟩) 3 cap] 29)) := below_alloc1 _ _
      clear hk hl hn
      go_enter Tryz.func36, Tryz.ntmps36
      go_upto_region 1 with fail
      generalize W.alloc (.cells #[.int .i64 60, .string nm, .slice (some ⟨g, o, none⟩) 3 cap] 29) = W0 at *
      have qlt := q1.lt
      obtain ⟨-, d0, d1, d2, -, -, -⟩ := id q1
      obtain ⟨-, -, y00a, y00b, y00c, -⟩ := HX0.out.below hB0 hg (Nat.le_refl _)
      rw [Nat.zero_mul, Nat.add_zero] at y00a
      rw [Nat.zero_mul, Nat.add_zero] at y00b
      rw [Nat.zero_mul, Nat.add_zero] at y00c
      obtain ⟨-, -, y01a, y01b, y01c, -⟩ := HX1.out.below hB0 hg (Nat.le_refl _)
      rw [Nat.one_mul] at y01a
      rw [Nat.one_mul] at y01b
      rw [Nat.one_mul] at y01c
      go_wp2_with fail
      refine (HA1.out _).mono ?_
      rintro e w1 ⟨rfl, b1⟩
      have c1 := hB0.trans (b1.mono hB0.size)
      have q1' := q1.below b1 q1.lt
      obtain ⟨-, f10, f11, f12, -, -, -⟩ := id q1'
      obtain ⟨-, -, y10a, y10b, y10c, -⟩ := HX0.out.below c1 hg (Nat.le_refl _)
      rw [Nat.zero_mul, Nat.add_zero] at y10a
      rw [Nat.zero_mul, Nat.add_zero] at y10b
      rw [Nat.zero_mul, Nat.add_zero] at y10c
      obtain ⟨-, -, y11a, y11b, y11c, -⟩ := HX1.out.below c1 hg (Nat.le_refl _)
      rw [Nat.one_mul] at y11a
      rw [Nat.one_mul] at y11b
      rw [Nat.one_mul] at y11c
      go_wp2_with fail
      go_ret
      exact ⟨by rw [HT.out]; rfl, c1⟩
    | true =>
      rw [hX1] at HA1 hT
      clear hX1
      rw [Bool.true_and] at hT
      by_cases h2 : x1.k = 69
      · have zz2 : (x1.k == 69) = true := by rw [h2]; rfl
        rw [zz2] at hT
        rw [Bool.true_and] at hT
        rw [← hT] at HA3
        have HTX : True := trivial
        clear HTX
        clear hT
        unfold nodeV
        have q1 := Box3.new W (.int .i64 60) (.string nm) (.slice (some ⟨g, o, none⟩) 3 cap) 29
        have hB0 : Below W.heap.size W (W.alloc (.cells #[.int .i64 60, .string nm, .slice (some ⟨g, o, none⟩) 3 cap] 29)) := below_alloc1 _ _
        clear hk hl hn
        go_enter Tryz.func36, Tryz.ntmps36
        go_upto_region 1 with fail
        generalize W.alloc (.cells #[.int .i64 60, .string nm, .slice (some ⟨g, o, none⟩) 3 cap] 29) = W0 at *
        have qlt := q1.lt
        obtain ⟨-, d0, d1, d2, -, -, -⟩ := id q1
        obtain ⟨-, -, y00a, y00b, y00c, -⟩ := HX0.out.below hB0 hg (Nat.le_refl _)
        rw [Nat.zero_mul, Nat.add_zero] at y00a
        rw [Nat.zero_mul, Nat.add_zero] at y00b
        rw [Nat.zero_mul, Nat.add_zero] at y00c
        obtain ⟨-, -, y01a, y01b, y01c, -⟩ := HX1.out.below hB0 hg (Nat.le_refl _)
        rw [Nat.one_mul] at y01a
        rw [Nat.one_mul] at y01b
        rw [Nat.one_mul] at y01c
        go_wp2_with fail
        refine (HA1.out _).mono ?_
        rintro e w1 ⟨rfl, b1⟩
        have c1 := hB0.trans (b1.mono hB0.size)
        have q1' := q1.below b1 q1.lt
        obtain ⟨-, f10, f11, f12, -, -, -⟩ := id q1'
        obtain ⟨-, -, y10a, y10b, y10c, -⟩ := HX0.out.below c1 hg (Nat.le_refl _)
        rw [Nat.zero_mul, Nat.add_zero] at y10a
        rw [Nat.zero_mul, Nat.add_zero] at y10b
        rw [Nat.zero_mul, Nat.add_zero] at y10c
        obtain ⟨-, -, y11a, y11b, y11c, -⟩ := HX1.out.below c1 hg (Nat.le_refl _)
        rw [Nat.one_mul] at y11a
        rw [Nat.one_mul] at y11b
        rw [Nat.one_mul] at y11c
        go_wp2_with fail
        refine (HA3.out _ c1).mono ?_
        rintro e w2 ⟨rfl, b2⟩
        have c2 := c1.trans (b2.mono c1.size)
        have q2' := q1'.below b2 q1'.lt
        obtain ⟨-, f20, f21, f22, -, -, -⟩ := id q2'
        obtain ⟨-, -, y20a, y20b, y20c, -⟩ := HX0.out.below c2 hg (Nat.le_refl _)
        rw [Nat.zero_mul, Nat.add_zero] at y20a
        rw [Nat.zero_mul, Nat.add_zero] at y20b
        rw [Nat.zero_mul, Nat.add_zero] at y20c
        obtain ⟨-, -, y21a, y21b, y21c, -⟩ := HX1.out.below c2 hg (Nat.le_refl _)
        rw [Nat.one_mul] at y21a
        rw [Nat.one_mul] at y21b
        rw [Nat.one_mul] at y21c
        go_wp2_with fail
        go_ret
        exact ⟨rfl, c2⟩
      · have zz2 : (x1.k == 69) = false := beq_eq_false_iff_ne.2 h2
        rw [zz2] at hT
        rw [Bool.false_and] at hT
        have HT := hide hT
        clear hT
        unfold nodeV
        have q1 := Box3.new W (.int .i64 60) (.string nm) (.slice (some ⟨g, o, none⟩) 3 cap) 29
        have hB0 : Below W.heap.size W (W.alloc (.cells #[.int .i64 60, .string nm, .slice (some ⟨g, o, none⟩) 3 cap] 29)) := below_alloc1 _ _
        clear hk hl hn
        go_enter Tryz.func36, Tryz.ntmps36
        go_upto_region 1 with fail
        generalize W.alloc (.cells #[.int .i64 60, .string nm, .slice (some ⟨g, o, none⟩) 3 cap] 29) = W0 at *
        have qlt := q1.lt
        obtain ⟨-, d0, d1, d2, -, -, -⟩ := id q1
        obtain ⟨-, -, y00a, y00b, y00c, -⟩ := HX0.out.below hB0 hg (Nat.le_refl _)
        rw [Nat.zero_mul, Nat.add_zero] at y00a
        rw [Nat.zero_mul, Nat.add_zero] at y00b
        rw [Nat.zero_mul, Nat.add_zero] at y00c
        obtain ⟨-, -, y01a, y01b, y01c, -⟩ := HX1.out.below hB0 hg (Nat.le_refl _)
        rw [Nat.one_mul] at y01a
        rw [Nat.one_mul] at y01b
        rw [Nat.one_mul] at y01c
        go_wp2_with fail
        refine (HA1.out _).mono ?_
        rintro e w1 ⟨rfl, b1⟩
        have c1 := hB0.trans (b1.mono hB0.size)
        have q1' := q1.below b1 q1.lt
        obtain ⟨-, f10, f11, f12, -, -, -⟩ := id q1'
        obtain ⟨-, -, y10a, y10b, y10c, -⟩ := HX0.out.below c1 hg (Nat.le_refl _)
        rw [Nat.zero_mul, Nat.add_zero] at y10a
        rw [Nat.zero_mul, Nat.add_zero] at y10b
        rw [Nat.zero_mul, Nat.add_zero] at y10c
        obtain ⟨-, -, y11a, y11b, y11c, -⟩ := HX1.out.below c1 hg (Nat.le_refl _)
        rw [Nat.one_mul] at y11a
        rw [Nat.one_mul] at y11b
        rw [Nat.one_mul] at y11c
        go_wp2_with fail
        go_ret
        exact ⟨by rw [HT.out]; rfl, c1⟩
  · have z0 : ((n : Int) == 3) = false := beq_eq_false_iff_ne.2 (by omega)
    have zz0 : (n == 3) = false := beq_eq_false_iff_ne.2 h0
    rw [zz0] at hT
    clear zz0
    rw [Bool.false_and] at hT
    have HT := hide hT
    clear hT
    unfold nodeV
    have q1 := Box3.new W (.int .i64 60) (.string nm) (.slice (a) n cap) 29
    have hB0 : Below W.heap.size W (W.alloc (.cells #[.int .i64 60, .string nm, .slice (a) n cap] 29)) := below_alloc1 _ _
    clear hk hl hn
    go_enter Tryz.func36, Tryz.ntmps36
    go_upto_region 1 with fail
    generalize W.alloc (.cells #[.int .i64 60, .string nm, .slice (a) n cap] 29) = W0 at *
    have qlt := q1.lt
    obtain ⟨-, d0, d1, d2, -, -, -⟩ := id q1
    go_wp2_with fail
    go_ret
    exact ⟨by rw [HT.out]; rfl, hB0⟩

set_option maxHeartbeats 1000000 in
set_option maxRecDepth 100000 in
theorem kid61 (nm : ByteArray) (a : Option Addr) (cap n : Nat) (L : List Kn) (W : World) (hl : L.length = n) (hn : n ≤ maxLen) (hk : Kids W W.heap.size a L) :
    Calls Tryz.prog 36 #[nodeV 61 nm a n cap] W fun e W' => e = .returned (.bool (decide (1 ≤ n) && (allB L pK 0 (n - 1) && (kd L (n - 1) == 20)))) ∧ Below W.heap.size W W' := by
  obtain ⟨T, hT⟩ : ∃ T, T = (decide (1 ≤ n) && (allB L pK 0 (n - 1) && (kd L (n - 1) == 20))) := ⟨_, rfl⟩
  rw [← hT]
  have hmx : (n : Int) ≤ 9223372036854775807 := by simp only [maxLen] at hn; omega
  by_cases h0 : 1 ≤ n
  · have z0 : (1 : Int) ≤ n := by omega
    have zz0 : decide (1 ≤ n) = true := decide_eq_true h0
    rw [zz0] at hT
    clear zz0
    obtain ⟨g, o, rfl, hg, hr⟩ := id hk (by omega)
    obtain ⟨xL, hxL⟩ : ∃ x, L[n - 1]? = some x := ⟨_, List.getElem?_eq_getElem (by omega)⟩
    have HXL := hide (hr _ _ hxL)
    have hkL : kd L (n - 1) = xL.k := by unfold kd; rw [hxL]
    have hmL : kn L (n - 1) = xL.nm := by unfold kn; rw [hxL]
    have HA1 : Hid (∀ wx, Below W.heap.size W wx → Calls Tryz.prog 52 #[.agg #[.int .i64 61, .string nm, .slice (some ⟨g, o, none⟩) n cap], .int .i64 0, .int .i64 ((n : Int) - 1), .int .u8 112, .int .i64 0] wx fun e W' => e = .returned (.bool (allB L pK 0 (n - 1))) ∧ Below wx.heap.size wx W') := fun wx hb => by
      have := mAllP 61 nm (some ⟨g, o, none⟩) cap n L (0) (n - 1) 0 wx hl hn (by omega) (hk.at hb)
      rw [show ((n - 1 : Nat) : Int) = (n : Int) - 1 by omega] at this
      exact this
    rw [hkL] at hT
    clear hr hxL hkL hmL
    rw [Bool.true_and] at hT
    cases hX1 : allB L pK 0 (n - 1) with
    | false =>
      rw [hX1] at HA1 hT
      clear hX1
      rw [Bool.false_and] at hT
      have HT := hide hT
      clear hT
      unfold nodeV
      have q1 := Box3.new W (.int .i64 61) (.string nm) (.slice (some ⟨g, o, none⟩) n cap) 29
      have hB0 : Below W.heap.size W (W.alloc (.cells #[.int .i64 61, .string nm, .slice (some ⟨g, o, none⟩) n cap] 29)) := below_alloc1 _ _
      clear hk hl hn
      go_enter Tryz.func36, Tryz.ntmps36
      go_upto_region 1 with fail
      generalize W.alloc (.cells #[.int .i64 61, .string nm, .slice (some ⟨g, o, none⟩) n cap] 29) = W0 at *
      have qlt := q1.lt
      obtain ⟨-, d0, d1, d2, -, -, -⟩ := id q1
      obtain ⟨-, -, y0La, y0Lb, y0Lc, -⟩ := HXL.out.below hB0 hg (Nat.le_refl _)
      go_wp2_with fail
      refine (HA1.out _ hB0).mono ?_
      rintro e w1 ⟨rfl, b1⟩
      have c1 := hB0.trans (b1.mono hB0.size)
      have q1' := q1.below b1 q1.lt
      obtain ⟨-, f10, f11, f12, -, -, -⟩ := id q1'
      obtain ⟨-, -, y1La, y1Lb, y1Lc, -⟩ := HXL.out.below c1 hg (Nat.le_refl _)
      go_wp2_with fail
      go_ret
      exact ⟨by rw [HT.out]; rfl, c1⟩
    | true =>
      rw [hX1] at HA1 hT
      clear hX1
      rw [Bool.true_and] at hT
      by_cases h2 : xL.k = 20
      · have zz2 : (xL.k == 20) = true := by rw [h2]; rfl
        rw [zz2] at hT
        have HT := hide hT
        clear hT
        unfold nodeV
        have q1 := Box3.new W (.int .i64 61) (.string nm) (.slice (some ⟨g, o, none⟩) n cap) 29
        have hB0 : Below W.heap.size W (W.alloc (.cells #[.int .i64 61, .string nm, .slice (some ⟨g, o, none⟩) n cap] 29)) := below_alloc1 _ _
        clear hk hl hn
        go_enter Tryz.func36, Tryz.ntmps36
        go_upto_region 1 with fail
        generalize W.alloc (.cells #[.int .i64 61, .string nm, .slice (some ⟨g, o, none⟩) n cap] 29) = W0 at *
        have qlt := q1.lt
        obtain ⟨-, d0, d1, d2, -, -, -⟩ := id q1
        obtain ⟨-, -, y0La, y0Lb, y0Lc, -⟩ := HXL.out.below hB0 hg (Nat.le_refl _)
        go_wp2_with fail
        refine (HA1.out _ hB0).mono ?_
        rintro e w1 ⟨rfl, b1⟩
        have c1 := hB0.trans (b1.mono hB0.size)
        have q1' := q1.below b1 q1.lt
        obtain ⟨-, f10, f11, f12, -, -, -⟩ := id q1'
        obtain ⟨-, -, y1La, y1Lb, y1Lc, -⟩ := HXL.out.below c1 hg (Nat.le_refl _)
        go_wp2_with fail
        go_ret
        exact ⟨by rw [HT.out]; rfl, c1⟩
      · have zz2 : (xL.k == 20) = false := beq_eq_false_iff_ne.2 h2
        rw [zz2] at hT
        have HT := hide hT
        clear hT
        unfold nodeV
        have q1 := Box3.new W (.int .i64 61) (.string nm) (.slice (some ⟨g, o, none⟩) n cap) 29
        have hB0 : Below W.heap.size W (W.alloc (.cells #[.int .i64 61, .string nm, .slice (some ⟨g, o, none⟩) n cap] 29)) := below_alloc1 _ _
        clear hk hl hn
        go_enter Tryz.func36, Tryz.ntmps36
        go_upto_region 1 with fail
        generalize W.alloc (.cells #[.int .i64 61, .string nm, .slice (some ⟨g, o, none⟩) n cap] 29) = W0 at *
        have qlt := q1.lt
        obtain ⟨-, d0, d1, d2, -, -, -⟩ := id q1
        obtain ⟨-, -, y0La, y0Lb, y0Lc, -⟩ := HXL.out.below hB0 hg (Nat.le_refl _)
        go_wp2_with fail
        refine (HA1.out _ hB0).mono ?_
        rintro e w1 ⟨rfl, b1⟩
        have c1 := hB0.trans (b1.mono hB0.size)
        have q1' := q1.below b1 q1.lt
        obtain ⟨-, f10, f11, f12, -, -, -⟩ := id q1'
        obtain ⟨-, -, y1La, y1Lb, y1Lc, -⟩ := HXL.out.below c1 hg (Nat.le_refl _)
        go_wp2_with fail
        go_ret
        exact ⟨by rw [HT.out]; rfl, c1⟩
  · have z0 : ¬ (1 : Int) ≤ n := by omega
    have zz0 : decide (1 ≤ n) = false := decide_eq_false h0
    rw [zz0] at hT
    clear zz0
    rw [Bool.false_and] at hT
    have HT := hide hT
    clear hT
    unfold nodeV
    have q1 := Box3.new W (.int .i64 61) (.string nm) (.slice (a) n cap) 29
    have hB0 : Below W.heap.size W (W.alloc (.cells #[.int .i64 61, .string nm, .slice (a) n cap] 29)) := below_alloc1 _ _
    clear hk hl hn
    go_enter Tryz.func36, Tryz.ntmps36
    go_upto_region 1 with fail
    generalize W.alloc (.cells #[.int .i64 61, .string nm, .slice (a) n cap] 29) = W0 at *
    have qlt := q1.lt
    obtain ⟨-, d0, d1, d2, -, -, -⟩ := id q1
    go_wp2_with fail
    go_ret
    exact ⟨by rw [HT.out]; rfl, hB0⟩

set_option maxHeartbeats 1000000 in
set_option maxRecDepth 100000 in
theorem kid62 (nm : ByteArray) (a : Option Addr) (cap n : Nat) (L : List Kn) (W : World) (hl : L.length = n) (hn : n ≤ maxLen) (hk : Kids W W.heap.size a L) :
    Calls Tryz.prog 36 #[nodeV 62 nm a n cap] W fun e W' => e = .returned (.bool (n == 2 && (kd L (0) == 3 && ((kn L (0)).size == 1 && (plainB (kd L (1)) (kn L (1))))))) ∧ Below W.heap.size W W' := by
  obtain ⟨T, hT⟩ : ∃ T, T = (n == 2 && (kd L (0) == 3 && ((kn L (0)).size == 1 && (plainB (kd L (1)) (kn L (1)))))) := ⟨_, rfl⟩
  rw [← hT]
  have hmx : (n : Int) ≤ 9223372036854775807 := by simp only [maxLen] at hn; omega
  by_cases h0 : n = 2
  · subst h0
    obtain ⟨g, o, rfl, hg, hr⟩ := id hk (by omega)
    obtain ⟨x0, hx0⟩ : ∃ x, L[0]? = some x := ⟨_, List.getElem?_eq_getElem (by omega)⟩
    have HX0 := hide (hr _ _ hx0)
    have hk0 : kd L (0) = x0.k := by unfold kd; rw [hx0]
    have hm0 : kn L (0) = x0.nm := by unfold kn; rw [hx0]
    obtain ⟨x1, hx1⟩ : ∃ x, L[1]? = some x := ⟨_, List.getElem?_eq_getElem (by omega)⟩
    have HX1 := hide (hr _ _ hx1)
    have hk1 : kd L (1) = x1.k := by unfold kd; rw [hx1]
    have hm1 : kn L (1) = x1.nm := by unfold kn; rw [hx1]
    have HA3 : Hid (∀ wx, Calls Tryz.prog 55 #[.agg #[.int .i64 x1.k, .string x1.nm, .slice x1.a x1.ks.len x1.cap]] wx fun e W' => e = .returned (.bool (plainB x1.k x1.nm)) ∧ Below wx.heap.size wx W') := fun wx => mPlain _ _ _ _ _ wx
    rw [hk0] at hT
    rw [hm0] at hT
    rw [hk1] at hT
    rw [hm1] at hT
    clear hr hx0 hk0 hm0 hx1 hk1 hm1
    rw [show ((2 : Nat) == 2) = true from rfl, Bool.true_and] at hT
    by_cases h1 : x0.k = 3
    · have zz1 : (x0.k == 3) = true := by rw [h1]; rfl
      rw [zz1] at hT
      rw [Bool.true_and] at hT
      by_cases h2 : x0.nm.size = 1
      · have zz2 : (x0.nm.size == 1) = true := by rw [h2]; rfl
        have z2 : ((x0.nm.size : Int) == 1) = true := by rw [h2]; rfl
        rw [zz2] at hT
        rw [Bool.true_and] at hT
        rw [← hT] at HA3
        have HTX : True := trivial
        clear HTX
        clear hT
        unfold nodeV
        have q1 := Box3.new W (.int .i64 62) (.string nm) (.slice (some ⟨g, o, none⟩) 2 cap) 29
        have hB0 : Below W.heap.size W (W.alloc (.cells #[.int .i64 62, .string nm, .slice (some ⟨g, o, none⟩) 2 cap] 29)) := below_alloc1 _ _
        clear hk hl hn
        go_enter Tryz.func36, Tryz.ntmps36
        go_upto_region 1 with fail
        generalize W.alloc (.cells #[.int .i64 62, .string nm, .slice (some ⟨g, o, none⟩) 2 cap] 29) = W0 at *
        have qlt := q1.lt
        obtain ⟨-, d0, d1, d2, -, -, -⟩ := id q1
        obtain ⟨-, -, y00a, y00b, y00c, -⟩ := HX0.out.below hB0 hg (Nat.le_refl _)
        rw [Nat.zero_mul, Nat.add_zero] at y00a
        rw [Nat.zero_mul, Nat.add_zero] at y00b
        rw [Nat.zero_mul, Nat.add_zero] at y00c
        obtain ⟨-, -, y01a, y01b, y01c, -⟩ := HX1.out.below hB0 hg (Nat.le_refl _)
        rw [Nat.one_mul] at y01a
        rw [Nat.one_mul] at y01b
        rw [Nat.one_mul] at y01c
        go_wp2_with fail
        refine (HA3.out _).mono ?_
        rintro e w1 ⟨rfl, b1⟩
        have c1 := hB0.trans (b1.mono hB0.size)
        have q1' := q1.below b1 q1.lt
        obtain ⟨-, f10, f11, f12, -, -, -⟩ := id q1'
        obtain ⟨-, -, y10a, y10b, y10c, -⟩ := HX0.out.below c1 hg (Nat.le_refl _)
        rw [Nat.zero_mul, Nat.add_zero] at y10a
        rw [Nat.zero_mul, Nat.add_zero] at y10b
        rw [Nat.zero_mul, Nat.add_zero] at y10c
        obtain ⟨-, -, y11a, y11b, y11c, -⟩ := HX1.out.below c1 hg (Nat.le_refl _)
        rw [Nat.one_mul] at y11a
        rw [Nat.one_mul] at y11b
        rw [Nat.one_mul] at y11c
        go_wp2_with fail
        go_ret
        exact ⟨rfl, c1⟩
      · have zz2 : (x0.nm.size == 1) = false := beq_eq_false_iff_ne.2 h2
        have z2 : ((x0.nm.size : Int) == 1) = false := beq_eq_false_iff_ne.2 (by omega)
        rw [zz2] at hT
        rw [Bool.false_and] at hT
        have HT := hide hT
        clear hT
        unfold nodeV
        have q1 := Box3.new W (.int .i64 62) (.string nm) (.slice (some ⟨g, o, none⟩) 2 cap) 29
        have hB0 : Below W.heap.size W (W.alloc (.cells #[.int .i64 62, .string nm, .slice (some ⟨g, o, none⟩) 2 cap] 29)) := below_alloc1 _ _
        clear hk hl hn
        go_enter Tryz.func36, Tryz.ntmps36
        go_upto_region 1 with fail
        generalize W.alloc (.cells #[.int .i64 62, .string nm, .slice (some ⟨g, o, none⟩) 2 cap] 29) = W0 at *
        have qlt := q1.lt
        obtain ⟨-, d0, d1, d2, -, -, -⟩ := id q1
        obtain ⟨-, -, y00a, y00b, y00c, -⟩ := HX0.out.below hB0 hg (Nat.le_refl _)
        rw [Nat.zero_mul, Nat.add_zero] at y00a
        rw [Nat.zero_mul, Nat.add_zero] at y00b
        rw [Nat.zero_mul, Nat.add_zero] at y00c
        obtain ⟨-, -, y01a, y01b, y01c, -⟩ := HX1.out.below hB0 hg (Nat.le_refl _)
        rw [Nat.one_mul] at y01a
        rw [Nat.one_mul] at y01b
        rw [Nat.one_mul] at y01c
        go_wp2_with fail
        go_ret
        exact ⟨by rw [HT.out]; rfl, hB0⟩
    · have zz1 : (x0.k == 3) = false := beq_eq_false_iff_ne.2 h1
      rw [zz1] at hT
      rw [Bool.false_and] at hT
      have HT := hide hT
      clear hT
      unfold nodeV
      have q1 := Box3.new W (.int .i64 62) (.string nm) (.slice (some ⟨g, o, none⟩) 2 cap) 29
      have hB0 : Below W.heap.size W (W.alloc (.cells #[.int .i64 62, .string nm, .slice (some ⟨g, o, none⟩) 2 cap] 29)) := below_alloc1 _ _
      clear hk hl hn
      go_enter Tryz.func36, Tryz.ntmps36
      go_upto_region 1 with fail
      generalize W.alloc (.cells #[.int .i64 62, .string nm, .slice (some ⟨g, o, none⟩) 2 cap] 29) = W0 at *
      have qlt := q1.lt
      obtain ⟨-, d0, d1, d2, -, -, -⟩ := id q1
      obtain ⟨-, -, y00a, y00b, y00c, -⟩ := HX0.out.below hB0 hg (Nat.le_refl _)
      rw [Nat.zero_mul, Nat.add_zero] at y00a
      rw [Nat.zero_mul, Nat.add_zero] at y00b
      rw [Nat.zero_mul, Nat.add_zero] at y00c
      obtain ⟨-, -, y01a, y01b, y01c, -⟩ := HX1.out.below hB0 hg (Nat.le_refl _)
      rw [Nat.one_mul] at y01a
      rw [Nat.one_mul] at y01b
      rw [Nat.one_mul] at y01c
      go_wp2_with fail
      go_ret
      exact ⟨by rw [HT.out]; rfl, hB0⟩
  · have z0 : ((n : Int) == 2) = false := beq_eq_false_iff_ne.2 (by omega)
    have zz0 : (n == 2) = false := beq_eq_false_iff_ne.2 h0
    rw [zz0] at hT
    clear zz0
    rw [Bool.false_and] at hT
    have HT := hide hT
    clear hT
    unfold nodeV
    have q1 := Box3.new W (.int .i64 62) (.string nm) (.slice (a) n cap) 29
    have hB0 : Below W.heap.size W (W.alloc (.cells #[.int .i64 62, .string nm, .slice (a) n cap] 29)) := below_alloc1 _ _
    clear hk hl hn
    go_enter Tryz.func36, Tryz.ntmps36
    go_upto_region 1 with fail
    generalize W.alloc (.cells #[.int .i64 62, .string nm, .slice (a) n cap] 29) = W0 at *
    have qlt := q1.lt
    obtain ⟨-, d0, d1, d2, -, -, -⟩ := id q1
    go_wp2_with fail
    go_ret
    exact ⟨by rw [HT.out]; rfl, hB0⟩

set_option maxHeartbeats 1000000 in
set_option maxRecDepth 100000 in
theorem kid64 (nm : ByteArray) (a : Option Addr) (cap n : Nat) (L : List Kn) (W : World) (hl : L.length = n) (hn : n ≤ maxLen) (hk : Kids W W.heap.size a L) :
    Calls Tryz.prog 36 #[nodeV 64 nm a n cap] W fun e W' => e = .returned (.bool (allB L tK 0 n)) ∧ Below W.heap.size W W' := by
  obtain ⟨T, hT⟩ : ∃ T, T = (allB L tK 0 n) := ⟨_, rfl⟩
  rw [← hT]
  have hmx : (n : Int) ≤ 9223372036854775807 := by simp only [maxLen] at hn; omega
  have HA0 : Hid (∀ wx, Below W.heap.size W wx → Calls Tryz.prog 52 #[.agg #[.int .i64 64, .string nm, .slice (a) n cap], .int .i64 0, .int .i64 n, .int .u8 116, .int .i64 0] wx fun e W' => e = .returned (.bool (allB L tK 0 n)) ∧ Below wx.heap.size wx W') := fun wx hb => by
    have := mAllT 64 nm (a) cap n L (0) (n) 0 wx hl hn (by omega) (hk.at hb)
    exact this
  rw [← hT] at HA0
  have HTX : True := trivial
  clear HTX
  clear hT
  unfold nodeV
  have q1 := Box3.new W (.int .i64 64) (.string nm) (.slice (a) n cap) 29
  have hB0 : Below W.heap.size W (W.alloc (.cells #[.int .i64 64, .string nm, .slice (a) n cap] 29)) := below_alloc1 _ _
  clear hk hl hn
  go_enter Tryz.func36, Tryz.ntmps36
  go_upto_region 1 with fail
  generalize W.alloc (.cells #[.int .i64 64, .string nm, .slice (a) n cap] 29) = W0 at *
  have qlt := q1.lt
  obtain ⟨-, d0, d1, d2, -, -, -⟩ := id q1
  go_wp2_with fail
  refine (HA0.out _ hB0).mono ?_
  rintro e w1 ⟨rfl, b1⟩
  have c1 := hB0.trans (b1.mono hB0.size)
  have q1' := q1.below b1 q1.lt
  obtain ⟨-, f10, f11, f12, -, -, -⟩ := id q1'
  go_wp2_with fail
  go_ret
  exact ⟨rfl, c1⟩

end Go.Proofs.YtjfoagmenehapaaGreatDoor.Tree

