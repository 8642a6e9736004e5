import Derived.Test.YtjfoagmenehapaaGreatDoorQ21
namespace Go.Proofs.YtjfoagmenehapaaGreatDoor.Tree
open Go.RowKit Go.Joins

set_option maxHeartbeats 1000000 in
set_option maxRecDepth 100000 in
theorem kid17 (nm : ByteArray) (a : Option Addr) (cap n : Nat) (L : List Kn) (W : World) (hl : L.length = n) (hn : n ≤ maxLen) (hk : Kids W W.heap.size a L) :
    Calls Tryz.prog 31 #[nodeV 17 nm a n cap] W fun e W' => e = .returned (.bool (n == 1 && (allB L eK 0 1))) ∧ Below W.heap.size W W' := by
  obtain ⟨T, hT⟩ : ∃ T, T = (n == 1 && (allB L eK 0 1)) := ⟨_, rfl⟩
  rw [← hT]
  have hmx : (n : Int) ≤ 9223372036854775807 := by simp only [maxLen] at hn; omega
  by_cases h0 : n = 1
  · subst h0
    have HA1 : Hid (∀ wx, Below W.heap.size W wx → Calls Tryz.prog 52 #[.agg #[.int .i64 17, .string nm, .slice (a) 1 cap], .int .i64 0, .int .i64 1, .int .u8 101, .int .i64 0] wx fun e W' => e = .returned (.bool (allB L eK 0 1)) ∧ Below wx.heap.size wx W') := fun wx hb => by
      have := mAllE 17 nm (a) cap 1 L (0) (1) 0 wx hl hn (by omega) (hk.at hb)
      exact this
    rw [show ((1 : Nat) == 1) = true from rfl, Bool.true_and] at hT
    rw [← hT] at HA1
    have HTX : True := trivial
    clear HTX
    clear hT
    unfold nodeV
    have q1 := Box3.new W (.int .i64 17) (.string nm) (.slice (a) 1 cap) 29
    have hB0 : Below W.heap.size W (W.alloc (.cells #[.int .i64 17, .string nm, .slice (a) 1 cap] 29)) := below_alloc1 _ _
    clear hk hl hn
    go_enter Tryz.func31, Tryz.ntmps31
    go_upto_region 1 with fail
    generalize W.alloc (.cells #[.int .i64 17, .string nm, .slice (a) 1 cap] 29) = W0 at *
    have qlt := q1.lt
    obtain ⟨-, d0, d1, d2, -, -, -⟩ := id q1
    go_wp2_with fail
    refine (HA1.out _ hB0).mono ?_
    rintro e w1 ⟨rfl, b1⟩
    have c1 := hB0.trans (b1.mono hB0.size)
    have q1' := q1.below b1 q1.lt
    obtain ⟨-, f10, f11, f12, -, -, -⟩ := id q1'
    go_wp2_with fail
    go_ret
    exact ⟨rfl, c1⟩
  · have z0 : ((n : Int) == 1) = false := beq_eq_false_iff_ne.2 (by omega)
    have zz0 : (n == 1) = false := beq_eq_false_iff_ne.2 h0
    rw [zz0] at hT
    clear zz0
    rw [Bool.false_and] at hT
    have HT := hide hT
    clear hT
    unfold nodeV
    have q1 := Box3.new W (.int .i64 17) (.string nm) (.slice (a) n cap) 29
    have hB0 : Below W.heap.size W (W.alloc (.cells #[.int .i64 17, .string nm, .slice (a) n cap] 29)) := below_alloc1 _ _
    clear hk hl hn
    go_enter Tryz.func31, Tryz.ntmps31
    go_upto_region 1 with fail
    generalize W.alloc (.cells #[.int .i64 17, .string nm, .slice (a) n cap] 29) = W0 at *
    have qlt := q1.lt
    obtain ⟨-, d0, d1, d2, -, -, -⟩ := id q1
    go_wp2_with fail
    go_ret
    exact ⟨by rw [HT.out]; rfl, hB0⟩

set_option maxHeartbeats 1000000 in
set_option maxRecDepth 100000 in
theorem kid23 (nm : ByteArray) (a : Option Addr) (cap n : Nat) (L : List Kn) (W : World) (hl : L.length = n) (hn : n ≤ maxLen) (hk : Kids W W.heap.size a L) :
    Calls Tryz.prog 31 #[nodeV 23 nm a n cap] W fun e W' => e = .returned (.bool (n == 1 && (allB L eK 0 1))) ∧ Below W.heap.size W W' := by
  obtain ⟨T, hT⟩ : ∃ T, T = (n == 1 && (allB L eK 0 1)) := ⟨_, rfl⟩
  rw [← hT]
  have hmx : (n : Int) ≤ 9223372036854775807 := by simp only [maxLen] at hn; omega
  by_cases h0 : n = 1
  · subst h0
    have HA1 : Hid (∀ wx, Below W.heap.size W wx → Calls Tryz.prog 52 #[.agg #[.int .i64 23, .string nm, .slice (a) 1 cap], .int .i64 0, .int .i64 1, .int .u8 101, .int .i64 0] wx fun e W' => e = .returned (.bool (allB L eK 0 1)) ∧ Below wx.heap.size wx W') := fun wx hb => by
      have := mAllE 23 nm (a) cap 1 L (0) (1) 0 wx hl hn (by omega) (hk.at hb)
      exact this
    rw [show ((1 : Nat) == 1) = true from rfl, Bool.true_and] at hT
    rw [← hT] at HA1
    have HTX : True := trivial
    clear HTX
    clear hT
    unfold nodeV
    have q1 := Box3.new W (.int .i64 23) (.string nm) (.slice (a) 1 cap) 29
    have hB0 : Below W.heap.size W (W.alloc (.cells #[.int .i64 23, .string nm, .slice (a) 1 cap] 29)) := below_alloc1 _ _
    clear hk hl hn
    go_enter Tryz.func31, Tryz.ntmps31
    go_upto_region 1 with fail
    generalize W.alloc (.cells #[.int .i64 23, .string nm, .slice (a) 1 cap] 29) = W0 at *
    have qlt := q1.lt
    obtain ⟨-, d0, d1, d2, -, -, -⟩ := id q1
    go_wp2_with fail
    refine (HA1.out _ hB0).mono ?_
    rintro e w1 ⟨rfl, b1⟩
    have c1 := hB0.trans (b1.mono hB0.size)
    have q1' := q1.below b1 q1.lt
    obtain ⟨-, f10, f11, f12, -, -, -⟩ := id q1'
    go_wp2_with fail
    go_ret
    exact ⟨rfl, c1⟩
  · have z0 : ((n : Int) == 1) = false := beq_eq_false_iff_ne.2 (by omega)
    have zz0 : (n == 1) = false := beq_eq_false_iff_ne.2 h0
    rw [zz0] at hT
    clear zz0
    rw [Bool.false_and] at hT
    have HT := hide hT
    clear hT
    unfold nodeV
    have q1 := Box3.new W (.int .i64 23) (.string nm) (.slice (a) n cap) 29
    have hB0 : Below W.heap.size W (W.alloc (.cells #[.int .i64 23, .string nm, .slice (a) n cap] 29)) := below_alloc1 _ _
    clear hk hl hn
    go_enter Tryz.func31, Tryz.ntmps31
    go_upto_region 1 with fail
    generalize W.alloc (.cells #[.int .i64 23, .string nm, .slice (a) n cap] 29) = W0 at *
    have qlt := q1.lt
    obtain ⟨-, d0, d1, d2, -, -, -⟩ := id q1
    go_wp2_with fail
    go_ret
    exact ⟨by rw [HT.out]; rfl, hB0⟩

set_option maxHeartbeats 1000000 in
set_option maxRecDepth 100000 in
theorem kid21 (nm : ByteArray) (a : Option Addr) (cap n : Nat) (L : List Kn) (W : World) (hl : L.length = n) (hn : n ≤ maxLen) (hk : Kids W W.heap.size a L) :
    Calls Tryz.prog 31 #[nodeV 21 nm a n cap] W fun e W' => e = .returned (.bool (n == 2 && (allB L eK 0 2))) ∧ Below W.heap.size W W' := by
  obtain ⟨T, hT⟩ : ∃ T, T = (n == 2 && (allB L eK 0 2)) := ⟨_, rfl⟩
  rw [← hT]
  have hmx : (n : Int) ≤ 9223372036854775807 := by simp only [maxLen] at hn; omega
  by_cases h0 : n = 2
  · subst h0
    have HA1 : Hid (∀ wx, Below W.heap.size W wx → Calls Tryz.prog 52 #[.agg #[.int .i64 21, .string nm, .slice (a) 2 cap], .int .i64 0, .int .i64 2, .int .u8 101, .int .i64 0] wx fun e W' => e = .returned (.bool (allB L eK 0 2)) ∧ Below wx.heap.size wx W') := fun wx hb => by
      have := mAllE 21 nm (a) cap 2 L (0) (2) 0 wx hl hn (by omega) (hk.at hb)
      exact this
    rw [show ((2 : Nat) == 2) = true from rfl, Bool.true_and] at hT
    rw [← hT] at HA1
    have HTX : True := trivial
    clear HTX
    clear hT
    unfold nodeV
    have q1 := Box3.new W (.int .i64 21) (.string nm) (.slice (a) 2 cap) 29
    have hB0 : Below W.heap.size W (W.alloc (.cells #[.int .i64 21, .string nm, .slice (a) 2 cap] 29)) := below_alloc1 _ _
    clear hk hl hn
    go_enter Tryz.func31, Tryz.ntmps31
    go_upto_region 1 with fail
    generalize W.alloc (.cells #[.int .i64 21, .string nm, .slice (a) 2 cap] 29) = W0 at *
    have qlt := q1.lt
    obtain ⟨-, d0, d1, d2, -, -, -⟩ := id q1
    go_wp2_with fail
    refine (HA1.out _ hB0).mono ?_
    rintro e w1 ⟨rfl, b1⟩
    have c1 := hB0.trans (b1.mono hB0.size)
    have q1' := q1.below b1 q1.lt
    obtain ⟨-, f10, f11, f12, -, -, -⟩ := id q1'
    go_wp2_with fail
    go_ret
    exact ⟨rfl, c1⟩
  · have z0 : ((n : Int) == 2) = false := beq_eq_false_iff_ne.2 (by omega)
    have zz0 : (n == 2) = false := beq_eq_false_iff_ne.2 h0
    rw [zz0] at hT
    clear zz0
    rw [Bool.false_and] at hT
    have HT := hide hT
    clear hT
    unfold nodeV
    have q1 := Box3.new W (.int .i64 21) (.string nm) (.slice (a) n cap) 29
    have hB0 : Below W.heap.size W (W.alloc (.cells #[.int .i64 21, .string nm, .slice (a) n cap] 29)) := below_alloc1 _ _
    clear hk hl hn
    go_enter Tryz.func31, Tryz.ntmps31
    go_upto_region 1 with fail
    generalize W.alloc (.cells #[.int .i64 21, .string nm, .slice (a) n cap] 29) = W0 at *
    have qlt := q1.lt
    obtain ⟨-, d0, d1, d2, -, -, -⟩ := id q1
    go_wp2_with fail
    go_ret
    exact ⟨by rw [HT.out]; rfl, hB0⟩

set_option maxHeartbeats 1000000 in
set_option maxRecDepth 100000 in
theorem kid22 (nm : ByteArray) (a : Option Addr) (cap n : Nat) (L : List Kn) (W : World) (hl : L.length = n) (hn : n ≤ maxLen) (hk : Kids W W.heap.size a L) :
    Calls Tryz.prog 31 #[nodeV 22 nm a n cap] W fun e W' => e = .returned (.bool (n == 2 && (allB L pK 0 1 && (allB L eK 1 2)))) ∧ Below W.heap.size W W' := by
  obtain ⟨T, hT⟩ : ∃ T, T = (n == 2 && (allB L pK 0 1 && (allB L eK 1 2))) := ⟨_, rfl⟩
  rw [← hT]
  have hmx : (n : Int) ≤ 9223372036854775807 := by simp only [maxLen] at hn; omega
  by_cases h0 : n = 2
  · subst h0
    have HA1 : Hid (∀ wx, Below W.heap.size W wx → Calls Tryz.prog 52 #[.agg #[.int .i64 22, .string nm, .slice (a) 2 cap], .int .i64 0, .int .i64 1, .int .u8 112, .int .i64 0] wx fun e W' => e = .returned (.bool (allB L pK 0 1)) ∧ Below wx.heap.size wx W') := fun wx hb => by
      have := mAllP 22 nm (a) cap 2 L (0) (1) 0 wx hl hn (by omega) (hk.at hb)
      exact this
    have HA2 : Hid (∀ wx, Below W.heap.size W wx → Calls Tryz.prog 52 #[.agg #[.int .i64 22, .string nm, .slice (a) 2 cap], .int .i64 1, .int .i64 2, .int .u8 101, .int .i64 0] wx fun e W' => e = .returned (.bool (allB L eK 1 2)) ∧ Below wx.heap.size wx W') := fun wx hb => by
      have := mAllE 22 nm (a) cap 2 L (1) (2) 0 wx hl hn (by omega) (hk.at hb)
      exact this
    rw [show ((2 : Nat) == 2) = true from rfl, Bool.true_and] at hT
    cases hX1 : allB L pK 0 1 with
    | false =>
      rw [hX1] at HA1 hT
      clear hX1
      rw [Bool.false_and] at hT
      have HT := hide hT
      clear hT
      unfold nodeV
      have q1 := Box3.new W (.int .i64 22) (.string nm) (.slice (a) 2 cap) 29
      have hB0 : Below W.heap.size W (W.alloc (.cells #[.int .i64 22, .string nm, .slice (a) 2 cap] 29)) := below_alloc1 _ _
      clear hk hl hn
      go_enter Tryz.func31, Tryz.ntmps31
      go_upto_region 1 with fail
      generalize W.alloc (.cells #[.int .i64 22, .string nm, .slice (a) 2 cap] 29) = W0 at *
      have qlt := q1.lt
      obtain ⟨-, d0, d1, d2, -, -, -⟩ := id q1
      go_wp2_with fail
      refine (HA1.out _ hB0).mono ?_
      rintro e w1 ⟨rfl, b1⟩
      have c1 := hB0.trans (b1.mono hB0.size)
      have q1' := q1.below b1 q1.lt
      obtain ⟨-, f10, f11, f12, -, -, -⟩ := id q1'
      go_wp2_with fail
      go_ret
      exact ⟨by rw [HT.out]; rfl, c1⟩
    | true =>
      rw [hX1] at HA1 hT
      clear hX1
      rw [Bool.true_and] at hT
      rw [← hT] at HA2
      have HTX : True := trivial
      clear HTX
      clear hT
      unfold nodeV
      have q1 := Box3.new W (.int .i64 22) (.string nm) (.slice (a) 2 cap) 29
      have hB0 : Below W.heap.size W (W.alloc (.cells #[.int .i64 22, .string nm, .slice (a) 2 cap] 29)) := below_alloc1 _ _
      clear hk hl hn
      go_enter Tryz.func31, Tryz.ntmps31
      go_upto_region 1 with fail
      generalize W.alloc (.cells #[.int .i64 22, .string nm, .slice (a) 2 cap] 29) = W0 at *
      have qlt := q1.lt
      obtain ⟨-, d0, d1, d2, -, -, -⟩ := id q1
      go_wp2_with fail
      refine (HA1.out _ hB0).mono ?_
      rintro e w1 ⟨rfl, b1⟩
      have c1 := hB0.trans (b1.mono hB0.size)
      have q1' := q1.below b1 q1.lt
      obtain ⟨-, f10, f11, f12, -, -, -⟩ := id q1'
      go_wp2_with fail
      refine (HA2.out _ c1).mono ?_
      rintro e w2 ⟨rfl, b2⟩
      have c2 := c1.trans (b2.mono c1.size)
      have q2' := q1'.below b2 q1'.lt
      obtain ⟨-, f20, f21, f22, -, -, -⟩ := id q2'
      go_wp2_with fail
      go_ret
      exact ⟨rfl, c2⟩
  · have z0 : ((n : Int) == 2) = false := beq_eq_false_iff_ne.2 (by omega)
    have zz0 : (n == 2) = false := beq_eq_false_iff_ne.2 h0
    rw [zz0] at hT
    clear zz0
    rw [Bool.false_and] at hT
    have HT := hide hT
    clear hT
    unfold nodeV
    have q1 := Box3.new W (.int .i64 22) (.string nm) (.slice (a) n cap) 29
    have hB0 : Below W.heap.size W (W.alloc (.cells #[.int .i64 22, .string nm, .slice (a) n cap] 29)) := below_alloc1 _ _
    clear hk hl hn
    go_enter Tryz.func31, Tryz.ntmps31
    go_upto_region 1 with fail
    generalize W.alloc (.cells #[.int .i64 22, .string nm, .slice (a) n cap] 29) = W0 at *
    have qlt := q1.lt
    obtain ⟨-, d0, d1, d2, -, -, -⟩ := id q1
    go_wp2_with fail
    go_ret
    exact ⟨by rw [HT.out]; rfl, hB0⟩

set_option maxHeartbeats 1000000 in
set_option maxRecDepth 100000 in
theorem kid19 (nm : ByteArray) (a : Option Addr) (cap n : Nat) (L : List Kn) (W : World) (hl : L.length = n) (hn : n ≤ maxLen) (hk : Kids W W.heap.size a L) :
    Calls Tryz.prog 31 #[nodeV 19 nm a n cap] W fun e W' => e = .returned (.bool (n == 2 && (allB L pK 0 1 && (kd L (1) == 20)))) ∧ Below W.heap.size W W' := by
  obtain ⟨T, hT⟩ : ∃ T, T = (n == 2 && (allB L pK 0 1 && (kd L (1) == 20))) := ⟨_, rfl⟩
  rw [← hT]
  have hmx : (n : Int) ≤ 9223372036854775807 := by simp only [maxLen] at hn; omega
  by_cases h0 : n = 2
  · subst h0
    obtain ⟨g, o, rfl, hg, hr⟩ := id hk (by omega)
    obtain ⟨x1, hx1⟩ : ∃ x, L[1]? = some x := ⟨_, List.getElem?_eq_getElem (by omega)⟩
    have HX1 := hide (hr _ _ hx1)
    have hk1 : kd L (1) = x1.k := by unfold kd; rw [hx1]
    have hm1 : kn L (1) = x1.nm := by unfold kn; rw [hx1]
    have HA1 : Hid (∀ wx, Below W.heap.size W wx → Calls Tryz.prog 52 #[.agg #[.int .i64 19, .string nm, .slice (some ⟨g, o, none⟩) 2 cap], .int .i64 0, .int .i64 1, .int .u8 112, .int .i64 0] wx fun e W' => e = .returned (.bool (allB L pK 0 1)) ∧ Below wx.heap.size wx W') := fun wx hb => by
      have := mAllP 19 nm (some ⟨g, o, none⟩) cap 2 L (0) (1) 0 wx hl hn (by omega) (hk.at hb)
      exact this
    rw [hk1] at hT
    clear hr hx1 hk1 hm1
    rw [show ((2 : Nat) == 2) = true from rfl, Bool.true_and] at hT
    cases hX1 : allB L pK 0 1 with
    | false =>
      rw [hX1] at HA1 hT
      clear hX1
      rw [Bool.false_and] at hT
      have HT := hide hT
      clear hT
      unfold nodeV
      have q1 := Box3.new W (.int .i64 19) (.string nm) (.slice (some ⟨g, o, none⟩) 2 cap) 29
      have hB0 : Below W.heap.size W (W.alloc (.cells #[.int .i64 19, .string nm, .slice (some ⟨g, o, none⟩) 2 cap] 29)) := below_alloc1 _ _
      clear hk hl hn
      go_enter Tryz.func31, Tryz.ntmps31
      go_upto_region 1 with fail
      generalize W.alloc (.cells #[.int .i64 19, .string nm, .slice (some ⟨g, o, none⟩) 2 cap] 29) = W0 at *
      have qlt := q1.lt
      obtain ⟨-, d0, d1, d2, -, -, -⟩ := id q1
      obtain ⟨-, -, y01a, y01b, y01c, -⟩ := HX1.out.below hB0 hg (Nat.le_refl _)
      rw [Nat.one_mul] at y01a
      rw [Nat.one_mul] at y01b
      rw [Nat.one_mul] at y01c
      go_wp2_with fail
      refine (HA1.out _ hB0).mono ?_
      rintro e w1 ⟨rfl, b1⟩
      have c1 := hB0.trans (b1.mono hB0.size)
      have q1' := q1.below b1 q1.lt
      obtain ⟨-, f10, f11, f12, -, -, -⟩ := id q1'
      obtain ⟨-, -, y11a, y11b, y11c, -⟩ := HX1.out.below c1 hg (Nat.le_refl _)
      rw [Nat.one_mul] at y11a
      rw [Nat.one_mul] at y11b
      rw [Nat.one_mul] at y11c
      go_wp2_with fail
      go_ret
      exact ⟨by rw [HT.out]; rfl, c1⟩
    | true =>
      rw [hX1] at HA1 hT
      clear hX1
      rw [Bool.true_and] at hT
      by_cases h2 : x1.k = 20
      · have zz2 : (x1.k == 20) = true := by rw [h2]; rfl
        rw [zz2] at hT
        have HT := hide hT
        clear hT
        unfold nodeV
        have q1 := Box3.new W (.int .i64 19) (.string nm) (.slice (some ⟨g, o, none⟩) 2 cap) 29
        have hB0 : Below W.heap.size W (W.alloc (.cells #[.int .i64 19, .string nm, .slice (some ⟨g, o, none⟩) 2 cap] 29)) := below_alloc1 _ _
        clear hk hl hn
        go_enter Tryz.func31, Tryz.ntmps31
        go_upto_region 1 with fail
        generalize W.alloc (.cells #[.int .i64 19, .string nm, .slice (some ⟨g, o, none⟩) 2 cap] 29) = W0 at *
        have qlt := q1.lt
        obtain ⟨-, d0, d1, d2, -, -, -⟩ := id q1
        obtain ⟨-, -, y01a, y01b, y01c, -⟩ := HX1.out.below hB0 hg (Nat.le_refl _)
        rw [Nat.one_mul] at y01a
        rw [Nat.one_mul] at y01b
        rw [Nat.one_mul] at y01c
        go_wp2_with fail
        refine (HA1.out _ hB0).mono ?_
        rintro e w1 ⟨rfl, b1⟩
        have c1 := hB0.trans (b1.mono hB0.size)
        have q1' := q1.below b1 q1.lt
        obtain ⟨-, f10, f11, f12, -, -, -⟩ := id q1'
        obtain ⟨-, -, y11a, y11b, y11c, -⟩ := HX1.out.below c1 hg (Nat.le_refl _)
        rw [Nat.one_mul] at y11a
        rw [Nat.one_mul] at y11b
        rw [Nat.one_mul] at y11c
        go_wp2_with fail
        go_ret
        exact ⟨by rw [HT.out]; rfl, c1⟩
      · have zz2 : (x1.k == 20) = false := beq_eq_false_iff_ne.2 h2
        rw [zz2] at hT
        have HT := hide hT
        clear hT
        unfold nodeV
        have q1 := Box3.new W (.int .i64 19) (.string nm) (.slice (some ⟨g, o, none⟩) 2 cap) 29
        have hB0 : Below W.heap.size W (W.alloc (.cells #[.int .i64 19, .string nm, .slice (some ⟨g, o, none⟩) 2 cap] 29)) := below_alloc1 _ _
        clear hk hl hn
        go_enter Tryz.func31, Tryz.ntmps31
        go_upto_region 1 with fail
        generalize W.alloc (.cells #[.int .i64 19, .string nm, .slice (some ⟨g, o, none⟩) 2 cap] 29) = W0 at *
        have qlt := q1.lt
        obtain ⟨-, d0, d1, d2, -, -, -⟩ := id q1
        obtain ⟨-, -, y01a, y01b, y01c, -⟩ := HX1.out.below hB0 hg (Nat.le_refl _)
        rw [Nat.one_mul] at y01a
        rw [Nat.one_mul] at y01b
        rw [Nat.one_mul] at y01c
        go_wp2_with fail
        refine (HA1.out _ hB0).mono ?_
        rintro e w1 ⟨rfl, b1⟩
        have c1 := hB0.trans (b1.mono hB0.size)
        have q1' := q1.below b1 q1.lt
        obtain ⟨-, f10, f11, f12, -, -, -⟩ := id q1'
        obtain ⟨-, -, y11a, y11b, y11c, -⟩ := HX1.out.below c1 hg (Nat.le_refl _)
        rw [Nat.one_mul] at y11a
        rw [Nat.one_mul] at y11b
        rw [Nat.one_mul] at y11c
        go_wp2_with fail
        go_ret
        exact ⟨by rw [HT.out]; rfl, c1⟩
  · have z0 : ((n : Int) == 2) = false := beq_eq_false_iff_ne.2 (by omega)
    have zz0 : (n == 2) = false := beq_eq_false_iff_ne.2 h0
    rw [zz0] at hT
    clear zz0
    rw [Bool.false_and] at hT
    have HT := hide hT
    clear hT
    unfold nodeV
    have q1 := Box3.new W (.int .i64 19) (.string nm) (.slice (a) n cap) 29
    have hB0 : Below W.heap.size W (W.alloc (.cells #[.int .i64 19, .string nm, .slice (a) n cap] 29)) := below_alloc1 _ _
    clear hk hl hn
    go_enter Tryz.func31, Tryz.ntmps31
    go_upto_region 1 with fail
    generalize W.alloc (.cells #[.int .i64 19, .string nm, .slice (a) n cap] 29) = W0 at *
    have qlt := q1.lt
    obtain ⟨-, d0, d1, d2, -, -, -⟩ := id q1
    go_wp2_with fail
    go_ret
    exact ⟨by rw [HT.out]; rfl, hB0⟩

end Go.Proofs.YtjfoagmenehapaaGreatDoor.Tree

namespace Go.Proofs.YtjfoagmenehapaaGreatDoor.Tree
open Go.RowKit Go.Joins

set_option maxHeartbeats 1000000 in
set_option maxRecDepth 100000 in
theorem kid30 (nm : ByteArray) (a : Option Addr) (cap n : Nat) (L : List Kn) (W : World) (hl : L.length = n) (hn : n ≤ maxLen) (_hk : Kids W W.heap.size a L) :
    Calls Tryz.prog 33 #[nodeV 30 nm a n cap] W fun e W' => e = .returned (.bool (n == 0)) ∧ Below W.heap.size W W' := by
  obtain ⟨T, hT⟩ : ∃ T, T = (n == 0) := ⟨_, rfl⟩
  rw [← hT]
  have hmx : (n : Int) ≤ 9223372036854775807 := by simp only [maxLen] at hn; omega
  by_cases h0 : n = 0
  · subst h0
    have HT := hide hT
    clear hT
    unfold nodeV
    have q1 := Box3.new W (.int .i64 30) (.string nm) (.slice (a) 0 cap) 29
    have hB0 : Below W.heap.size W (W.alloc (.cells #[.int .i64 30, .string nm, .slice (a) 0 cap] 29)) := below_alloc1 _ _
    clear hl hn
    go_enter Tryz.func33, Tryz.ntmps33
    go_upto_region 1 with fail
    generalize W.alloc (.cells #[.int .i64 30, .string nm, .slice (a) 0 cap] 29) = W0 at *
    have qlt := q1.lt
    obtain ⟨-, d0, d1, d2, -, -, -⟩ := id q1
    go_wp2_with fail
    go_ret
    exact ⟨by rw [HT.out]; rfl, hB0⟩
  · have z0 : ((n : Int) == 0) = false := beq_eq_false_iff_ne.2 (by omega)
    have zz0 : (n == 0) = false := beq_eq_false_iff_ne.2 h0
    rw [zz0] at hT
    clear zz0
    have HT := hide hT
    clear hT
    unfold nodeV
    have q1 := Box3.new W (.int .i64 30) (.string nm) (.slice (a) n cap) 29
    have hB0 : Below W.heap.size W (W.alloc (.cells #[.int .i64 30, .string nm, .slice (a) n cap] 29)) := below_alloc1 _ _
    clear hl hn
    go_enter Tryz.func33, Tryz.ntmps33
    go_upto_region 1 with fail
    generalize W.alloc (.cells #[.int .i64 30, .string nm, .slice (a) n cap] 29) = W0 at *
    have qlt := q1.lt
    obtain ⟨-, d0, d1, d2, -, -, -⟩ := id q1
    go_wp2_with fail
    go_ret
    exact ⟨by rw [HT.out]; rfl, hB0⟩

set_option maxHeartbeats 1000000 in
set_option maxRecDepth 100000 in
theorem kid31 (nm : ByteArray) (a : Option Addr) (cap n : Nat) (L : List Kn) (W : World) (hl : L.length = n) (hn : n ≤ maxLen) (_hk : Kids W W.heap.size a L) :
    Calls Tryz.prog 33 #[nodeV 31 nm a n cap] W fun e W' => e = .returned (.bool (n == 0)) ∧ Below W.heap.size W W' := by
  obtain ⟨T, hT⟩ : ∃ T, T = (n == 0) := ⟨_, rfl⟩
  rw [← hT]
  have hmx : (n : Int) ≤ 9223372036854775807 := by simp only [maxLen] at hn; omega
  by_cases h0 : n = 0
  · subst h0
    have HT := hide hT
    clear hT
    unfold nodeV
    have q1 := Box3.new W (.int .i64 31) (.string nm) (.slice (a) 0 cap) 29
    have hB0 : Below W.heap.size W (W.alloc (.cells #[.int .i64 31, .string nm, .slice (a) 0 cap] 29)) := below_alloc1 _ _
    clear hl hn
    go_enter Tryz.func33, Tryz.ntmps33
    go_upto_region 1 with fail
    generalize W.alloc (.cells #[.int .i64 31, .string nm, .slice (a) 0 cap] 29) = W0 at *
    have qlt := q1.lt
    obtain ⟨-, d0, d1, d2, -, -, -⟩ := id q1
    go_wp2_with fail
    go_ret
    exact ⟨by rw [HT.out]; rfl, hB0⟩
  · have z0 : ((n : Int) == 0) = false := beq_eq_false_iff_ne.2 (by omega)
    have zz0 : (n == 0) = false := beq_eq_false_iff_ne.2 h0
    rw [zz0] at hT
    clear zz0
    have HT := hide hT
    clear hT
    unfold nodeV
    have q1 := Box3.new W (.int .i64 31) (.string nm) (.slice (a) n cap) 29
    have hB0 : Below W.heap.size W (W.alloc (.cells #[.int .i64 31, .string nm, .slice (a) n cap] 29)) := below_alloc1 _ _
    clear hl hn
    go_enter Tryz.func33, Tryz.ntmps33
    go_upto_region 1 with fail
    generalize W.alloc (.cells #[.int .i64 31, .string nm, .slice (a) n cap] 29) = W0 at *
    have qlt := q1.lt
    obtain ⟨-, d0, d1, d2, -, -, -⟩ := id q1
    go_wp2_with fail
    go_ret
    exact ⟨by rw [HT.out]; rfl, hB0⟩

set_option maxHeartbeats 1000000 in
set_option maxRecDepth 100000 in
theorem kid32 (nm : ByteArray) (a : Option Addr) (cap n : Nat) (L : List Kn) (W : World) (hl : L.length = n) (hn : n ≤ maxLen) (hk : Kids W W.heap.size a L) :
    Calls Tryz.prog 33 #[nodeV 32 nm a n cap] W fun e W' => e = .returned (.bool (allB L pK 0 n)) ∧ Below W.heap.size W W' := by
  obtain ⟨T, hT⟩ : ∃ T, T = (allB L pK 0 n) := ⟨_, rfl⟩
  rw [← hT]
  have hmx : (n : Int) ≤ 9223372036854775807 := by simp only [maxLen] at hn; omega
  have HA0 : Hid (∀ wx, Below W.heap.size W wx → Calls Tryz.prog 52 #[.agg #[.int .i64 32, .string nm, .slice (a) n cap], .int .i64 0, .int .i64 n, .int .u8 112, .int .i64 0] wx fun e W' => e = .returned (.bool (allB L pK 0 n)) ∧ Below wx.heap.size wx W') := fun wx hb => by
    have := mAllP 32 nm (a) cap n L (0) (n) 0 wx hl hn (by omega) (hk.at hb)
    exact this
  rw [← hT] at HA0
  have HTX : True := trivial
  clear HTX
  clear hT
  unfold nodeV
  have q1 := Box3.new W (.int .i64 32) (.string nm) (.slice (a) n cap) 29
  have hB0 : Below W.heap.size W (W.alloc (.cells #[.int .i64 32, .string nm, .slice (a) n cap] 29)) := below_alloc1 _ _
  clear hk hl hn
  go_enter Tryz.func33, Tryz.ntmps33
  go_upto_region 1 with fail
  generalize W.alloc (.cells #[.int .i64 32, .string nm, .slice (a) n cap] 29) = W0 at *
  have qlt := q1.lt
  obtain ⟨-, d0, d1, d2, -, -, -⟩ := id q1
  go_wp2_with fail
  refine (HA0.out _ hB0).mono ?_
  rintro e w1 ⟨rfl, b1⟩
  have c1 := hB0.trans (b1.mono hB0.size)
  have q1' := q1.below b1 q1.lt
  obtain ⟨-, f10, f11, f12, -, -, -⟩ := id q1'
  go_wp2_with fail
  go_ret
  exact ⟨rfl, c1⟩

set_option maxHeartbeats 1000000 in
set_option maxRecDepth 100000 in
theorem kid33 (nm : ByteArray) (a : Option Addr) (cap n : Nat) (L : List Kn) (W : World) (hl : L.length = n) (hn : n ≤ maxLen) (_hk : Kids W W.heap.size a L) :
    Calls Tryz.prog 33 #[nodeV 33 nm a n cap] W fun e W' => e = .returned (.bool (n == 0)) ∧ Below W.heap.size W W' := by
  obtain ⟨T, hT⟩ : ∃ T, T = (n == 0) := ⟨_, rfl⟩
  rw [← hT]
  have hmx : (n : Int) ≤ 9223372036854775807 := by simp only [maxLen] at hn; omega
  by_cases h0 : n = 0
  · subst h0
    have HT := hide hT
    clear hT
    unfold nodeV
    have q1 := Box3.new W (.int .i64 33) (.string nm) (.slice (a) 0 cap) 29
    have hB0 : Below W.heap.size W (W.alloc (.cells #[.int .i64 33, .string nm, .slice (a) 0 cap] 29)) := below_alloc1 _ _
    clear hl hn
    go_enter Tryz.func33, Tryz.ntmps33
    go_upto_region 1 with fail
    generalize W.alloc (.cells #[.int .i64 33, .string nm, .slice (a) 0 cap] 29) = W0 at *
    have qlt := q1.lt
    obtain ⟨-, d0, d1, d2, -, -, -⟩ := id q1
    go_wp2_with fail
    go_ret
    exact ⟨by rw [HT.out]; rfl, hB0⟩
  · have z0 : ((n : Int) == 0) = false := beq_eq_false_iff_ne.2 (by omega)
    have zz0 : (n == 0) = false := beq_eq_false_iff_ne.2 h0
    rw [zz0] at hT
    clear zz0
    have HT := hide hT
    clear hT
    unfold nodeV
    have q1 := Box3.new W (.int .i64 33) (.string nm) (.slice (a) n cap) 29
    have hB0 : Below W.heap.size W (W.alloc (.cells #[.int .i64 33, .string nm, .slice (a) n cap] 29)) := below_alloc1 _ _
    clear hl hn
    go_enter Tryz.func33, Tryz.ntmps33
    go_upto_region 1 with fail
    generalize W.alloc (.cells #[.int .i64 33, .string nm, .slice (a) n cap] 29) = W0 at *
    have qlt := q1.lt
    obtain ⟨-, d0, d1, d2, -, -, -⟩ := id q1
    go_wp2_with fail
    go_ret
    exact ⟨by rw [HT.out]; rfl, hB0⟩

set_option maxHeartbeats 1000000 in
set_option maxRecDepth 100000 in
theorem kid34 (nm : ByteArray) (a : Option Addr) (cap n : Nat) (L : List Kn) (W : World) (hl : L.length = n) (hn : n ≤ maxLen) (_hk : Kids W W.heap.size a L) :
    Calls Tryz.prog 33 #[nodeV 34 nm a n cap] W fun e W' => e = .returned (.bool (n == 0)) ∧ Below W.heap.size W W' := by
  obtain ⟨T, hT⟩ : ∃ T, T = (n == 0) := ⟨_, rfl⟩
  rw [← hT]
  have hmx : (n : Int) ≤ 9223372036854775807 := by simp only [maxLen] at hn; omega
  by_cases h0 : n = 0
  · subst h0
    have HT := hide hT
    clear hT
    unfold nodeV
    have q1 := Box3.new W (.int .i64 34) (.string nm) (.slice (a) 0 cap) 29
    have hB0 : Below W.heap.size W (W.alloc (.cells #[.int .i64 34, .string nm, .slice (a) 0 cap] 29)) := below_alloc1 _ _
    clear hl hn
    go_enter Tryz.func33, Tryz.ntmps33
    go_upto_region 1 with fail
    generalize W.alloc (.cells #[.int .i64 34, .string nm, .slice (a) 0 cap] 29) = W0 at *
    have qlt := q1.lt
    obtain ⟨-, d0, d1, d2, -, -, -⟩ := id q1
    go_wp2_with fail
    go_ret
    exact ⟨by rw [HT.out]; rfl, hB0⟩
  · have z0 : ((n : Int) == 0) = false := beq_eq_false_iff_ne.2 (by omega)
    have zz0 : (n == 0) = false := beq_eq_false_iff_ne.2 h0
    rw [zz0] at hT
    clear zz0
    have HT := hide hT
    clear hT
    unfold nodeV
    have q1 := Box3.new W (.int .i64 34) (.string nm) (.slice (a) n cap) 29
    have hB0 : Below W.heap.size W (W.alloc (.cells #[.int .i64 34, .string nm, .slice (a) n cap] 29)) := below_alloc1 _ _
    clear hl hn
    go_enter Tryz.func33, Tryz.ntmps33
    go_upto_region 1 with fail
    generalize W.alloc (.cells #[.int .i64 34, .string nm, .slice (a) n cap] 29) = W0 at *
    have qlt := q1.lt
    obtain ⟨-, d0, d1, d2, -, -, -⟩ := id q1
    go_wp2_with fail
    go_ret
    exact ⟨by rw [HT.out]; rfl, hB0⟩

set_option maxHeartbeats 1000000 in
set_option maxRecDepth 100000 in
theorem kid35 (nm : ByteArray) (a : Option Addr) (cap n : Nat) (L : List Kn) (W : World) (hl : L.length = n) (hn : n ≤ maxLen) (_hk : Kids W W.heap.size a L) :
    Calls Tryz.prog 33 #[nodeV 35 nm a n cap] W fun e W' => e = .returned (.bool (n == 0)) ∧ Below W.heap.size W W' := by
  obtain ⟨T, hT⟩ : ∃ T, T = (n == 0) := ⟨_, rfl⟩
  rw [← hT]
  have hmx : (n : Int) ≤ 9223372036854775807 := by simp only [maxLen] at hn; omega
  by_cases h0 : n = 0
  · subst h0
    have HT := hide hT
    clear hT
    unfold nodeV
    have q1 := Box3.new W (.int .i64 35) (.string nm) (.slice (a) 0 cap) 29
    have hB0 : Below W.heap.size W (W.alloc (.cells #[.int .i64 35, .string nm, .slice (a) 0 cap] 29)) := below_alloc1 _ _
    clear hl hn
    go_enter Tryz.func33, Tryz.ntmps33
    go_upto_region 1 with fail
    generalize W.alloc (.cells #[.int .i64 35, .string nm, .slice (a) 0 cap] 29) = W0 at *
    have qlt := q1.lt
    obtain ⟨-, d0, d1, d2, -, -, -⟩ := id q1
    go_wp2_with fail
    go_ret
    exact ⟨by rw [HT.out]; rfl, hB0⟩
  · have z0 : ((n : Int) == 0) = false := beq_eq_false_iff_ne.2 (by omega)
    have zz0 : (n == 0) = false := beq_eq_false_iff_ne.2 h0
    rw [zz0] at hT
    clear zz0
    have HT := hide hT
    clear hT
    unfold nodeV
    have q1 := Box3.new W (.int .i64 35) (.string nm) (.slice (a) n cap) 29
    have hB0 : Below W.heap.size W (W.alloc (.cells #[.int .i64 35, .string nm, .slice (a) n cap] 29)) := below_alloc1 _ _
    clear hl hn
    go_enter Tryz.func33, Tryz.ntmps33
    go_upto_region 1 with fail
    generalize W.alloc (.cells #[.int .i64 35, .string nm, .slice (a) n cap] 29) = W0 at *
    have qlt := q1.lt
    obtain ⟨-, d0, d1, d2, -, -, -⟩ := id q1
    go_wp2_with fail
    go_ret
    exact ⟨by rw [HT.out]; rfl, hB0⟩

set_option maxHeartbeats 1000000 in
set_option maxRecDepth 100000 in
theorem kid36 (nm : ByteArray) (a : Option Addr) (cap n : Nat) (L : List Kn) (W : World) (hl : L.length = n) (hn : n ≤ maxLen) (hk : Kids W W.heap.size a L) :
    Calls Tryz.prog 33 #[nodeV 36 nm a n cap] W fun e W' => e = .returned (.bool (n != 1 && (allB L pK 0 n))) ∧ Below W.heap.size W W' := by
  obtain ⟨T, hT⟩ : ∃ T, T = (n != 1 && (allB L pK 0 n)) := ⟨_, rfl⟩
  rw [← hT]
  have hmx : (n : Int) ≤ 9223372036854775807 := by simp only [maxLen] at hn; omega
  by_cases h0 : n ≠ 1
  · have z0 : ((n : Int) != 1) = true := by simp; omega
    have zz0 : (n != 1) = true := by simpa using h0
    rw [zz0] at hT
    clear zz0
    have HA1 : Hid (∀ wx, Below W.heap.size W wx → Calls Tryz.prog 52 #[.agg #[.int .i64 36, .string nm, .slice (a) n cap], .int .i64 0, .int .i64 n, .int .u8 112, .int .i64 0] wx fun e W' => e = .returned (.bool (allB L pK 0 n)) ∧ Below wx.heap.size wx W') := fun wx hb => by
      have := mAllP 36 nm (a) cap n L (0) (n) 0 wx hl hn (by omega) (hk.at hb)
      exact this
    replace hT : T = (allB L pK 0 n) := hT
    rw [← hT] at HA1
    have HTX : True := trivial
    clear HTX
    clear hT
    unfold nodeV
    have q1 := Box3.new W (.int .i64 36) (.string nm) (.slice (a) n cap) 29
    have hB0 : Below W.heap.size W (W.alloc (.cells #[.int .i64 36, .string nm, .slice (a) n cap] 29)) := below_alloc1 _ _
    clear hk hl hn
    go_enter Tryz.func33, Tryz.ntmps33
    go_upto_region 1 with fail
    generalize W.alloc (.cells #[.int .i64 36, .string nm, .slice (a) n cap] 29) = W0 at *
    have qlt := q1.lt
    obtain ⟨-, d0, d1, d2, -, -, -⟩ := id q1
    go_wp2_with fail
    refine (HA1.out _ hB0).mono ?_
    rintro e w1 ⟨rfl, b1⟩
    have c1 := hB0.trans (b1.mono hB0.size)
    have q1' := q1.below b1 q1.lt
    obtain ⟨-, f10, f11, f12, -, -, -⟩ := id q1'
    go_wp2_with fail
    go_ret
    exact ⟨rfl, c1⟩
  · have z0 : ((n : Int) != 1) = false := by simp; omega
    have zz0 : (n != 1) = false := by simp; omega
    rw [zz0] at hT
    clear zz0
    rw [Bool.false_and] at hT
    have HT := hide hT
    clear hT
    unfold nodeV
    have q1 := Box3.new W (.int .i64 36) (.string nm) (.slice (a) n cap) 29
    have hB0 : Below W.heap.size W (W.alloc (.cells #[.int .i64 36, .string nm, .slice (a) n cap] 29)) := below_alloc1 _ _
    clear hk hl hn
    go_enter Tryz.func33, Tryz.ntmps33
    go_upto_region 1 with fail
    generalize W.alloc (.cells #[.int .i64 36, .string nm, .slice (a) n cap] 29) = W0 at *
    have qlt := q1.lt
    obtain ⟨-, d0, d1, d2, -, -, -⟩ := id q1
    go_wp2_with fail
    go_ret
    exact ⟨by rw [HT.out]; rfl, hB0⟩

set_option maxHeartbeats 1000000 in
set_option maxRecDepth 100000 in
theorem kid37 (nm : ByteArray) (a : Option Addr) (cap n : Nat) (L : List Kn) (W : World) (hl : L.length = n) (hn : n ≤ maxLen) (hk : Kids W W.heap.size a L) :
    Calls Tryz.prog 33 #[nodeV 37 nm a n cap] W fun e W' => e = .returned (.bool (allB L pK 0 n)) ∧ Below W.heap.size W W' := by
  obtain ⟨T, hT⟩ : ∃ T, T = (allB L pK 0 n) := ⟨_, rfl⟩
  rw [← hT]
  have hmx : (n : Int) ≤ 9223372036854775807 := by simp only [maxLen] at hn; omega
  have HA0 : Hid (∀ wx, Below W.heap.size W wx → Calls Tryz.prog 52 #[.agg #[.int .i64 37, .string nm, .slice (a) n cap], .int .i64 0, .int .i64 n, .int .u8 112, .int .i64 0] wx fun e W' => e = .returned (.bool (allB L pK 0 n)) ∧ Below wx.heap.size wx W') := fun wx hb => by
    have := mAllP 37 nm (a) cap n L (0) (n) 0 wx hl hn (by omega) (hk.at hb)
    exact this
  rw [← hT] at HA0
  have HTX : True := trivial
  clear HTX
  clear hT
  unfold nodeV
  have q1 := Box3.new W (.int .i64 37) (.string nm) (.slice (a) n cap) 29
  have hB0 : Below W.heap.size W (W.alloc (.cells #[.int .i64 37, .string nm, .slice (a) n cap] 29)) := below_alloc1 _ _
  clear hk hl hn
  go_enter Tryz.func33, Tryz.ntmps33
  go_upto_region 1 with fail
  generalize W.alloc (.cells #[.int .i64 37, .string nm, .slice (a) n cap] 29) = W0 at *
  have qlt := q1.lt
  obtain ⟨-, d0, d1, d2, -, -, -⟩ := id q1
  go_wp2_with fail
  refine (HA0.out _ hB0).mono ?_
  rintro e w1 ⟨rfl, b1⟩
  have c1 := hB0.trans (b1.mono hB0.size)
  have q1' := q1.below b1 q1.lt
  obtain ⟨-, f10, f11, f12, -, -, -⟩ := id q1'
  go_wp2_with fail
  go_ret
  exact ⟨rfl, c1⟩

set_option maxHeartbeats 1000000 in
set_option maxRecDepth 100000 in
theorem kid38 (nm : ByteArray) (a : Option Addr) (cap n : Nat) (L : List Kn) (W : World) (hl : L.length = n) (hn : n ≤ maxLen) (hk : Kids W W.heap.size a L) :
    Calls Tryz.prog 33 #[nodeV 38 nm a n cap] W fun e W' => e = .returned (.bool (n == 1 && (allB L pK 0 1))) ∧ Below W.heap.size W W' := by
  obtain ⟨T, hT⟩ : ∃ T, T = (n == 1 && (allB L pK 0 1)) := ⟨_, rfl⟩
  rw [← hT]
  have hmx : (n : Int) ≤ 9223372036854775807 := by simp only [maxLen] at hn; omega
  by_cases h0 : n = 1
  · subst h0
    have HA1 : Hid (∀ wx, Below W.heap.size W wx → Calls Tryz.prog 52 #[.agg #[.int .i64 38, .string nm, .slice (a) 1 cap], .int .i64 0, .int .i64 1, .int .u8 112, .int .i64 0] wx fun e W' => e = .returned (.bool (allB L pK 0 1)) ∧ Below wx.heap.size wx W') := fun wx hb => by
      have := mAllP 38 nm (a) cap 1 L (0) (1) 0 wx hl hn (by omega) (hk.at hb)
      exact this
    rw [show ((1 : Nat) == 1) = true from rfl, Bool.true_and] at hT
    rw [← hT] at HA1
    have HTX : True := trivial
    clear HTX
    clear hT
    unfold nodeV
    have q1 := Box3.new W (.int .i64 38) (.string nm) (.slice (a) 1 cap) 29
    have hB0 : Below W.heap.size W (W.alloc (.cells #[.int .i64 38, .string nm, .slice (a) 1 cap] 29)) := below_alloc1 _ _
    clear hk hl hn
    go_enter Tryz.func33, Tryz.ntmps33
    go_upto_region 1 with fail
    generalize W.alloc (.cells #[.int .i64 38, .string nm, .slice (a) 1 cap] 29) = W0 at *
    have qlt := q1.lt
    obtain ⟨-, d0, d1, d2, -, -, -⟩ := id q1
    go_wp2_with fail
    refine (HA1.out _ hB0).mono ?_
    rintro e w1 ⟨rfl, b1⟩
    have c1 := hB0.trans (b1.mono hB0.size)
    have q1' := q1.below b1 q1.lt
    obtain ⟨-, f10, f11, f12, -, -, -⟩ := id q1'
    go_wp2_with fail
    go_ret
    exact ⟨rfl, c1⟩
  · have z0 : ((n : Int) == 1) = false := beq_eq_false_iff_ne.2 (by omega)
    have zz0 : (n == 1) = false := beq_eq_false_iff_ne.2 h0
    rw [zz0] at hT
    clear zz0
    rw [Bool.false_and] at hT
    have HT := hide hT
    clear hT
    unfold nodeV
    have q1 := Box3.new W (.int .i64 38) (.string nm) (.slice (a) n cap) 29
    have hB0 : Below W.heap.size W (W.alloc (.cells #[.int .i64 38, .string nm, .slice (a) n cap] 29)) := below_alloc1 _ _
    clear hk hl hn
    go_enter Tryz.func33, Tryz.ntmps33
    go_upto_region 1 with fail
    generalize W.alloc (.cells #[.int .i64 38, .string nm, .slice (a) n cap] 29) = W0 at *
    have qlt := q1.lt
    obtain ⟨-, d0, d1, d2, -, -, -⟩ := id q1
    go_wp2_with fail
    go_ret
    exact ⟨by rw [HT.out]; rfl, hB0⟩

set_option maxHeartbeats 1000000 in
set_option maxRecDepth 100000 in
theorem kid39 (nm : ByteArray) (a : Option Addr) (cap n : Nat) (L : List Kn) (W : World) (hl : L.length = n) (hn : n ≤ maxLen) (hk : Kids W W.heap.size a L) :
    Calls Tryz.prog 33 #[nodeV 39 nm a n cap] W fun e W' => e = .returned (.bool (n == 1 && (allB L pK 0 1))) ∧ Below W.heap.size W W' := by
  obtain ⟨T, hT⟩ : ∃ T, T = (n == 1 && (allB L pK 0 1)) := ⟨_, rfl⟩
  rw [← hT]
  have hmx : (n : Int) ≤ 9223372036854775807 := by simp only [maxLen] at hn; omega
  by_cases h0 : n = 1
  · subst h0
    have HA1 : Hid (∀ wx, Below W.heap.size W wx → Calls Tryz.prog 52 #[.agg #[.int .i64 39, .string nm, .slice (a) 1 cap], .int .i64 0, .int .i64 1, .int .u8 112, .int .i64 0] wx fun e W' => e = .returned (.bool (allB L pK 0 1)) ∧ Below wx.heap.size wx W') := fun wx hb => by
      have := mAllP 39 nm (a) cap 1 L (0) (1) 0 wx hl hn (by omega) (hk.at hb)
      exact this
    rw [show ((1 : Nat) == 1) = true from rfl, Bool.true_and] at hT
    rw [← hT] at HA1
    have HTX : True := trivial
    clear HTX
    clear hT
    unfold nodeV
    have q1 := Box3.new W (.int .i64 39) (.string nm) (.slice (a) 1 cap) 29
    have hB0 : Below W.heap.size W (W.alloc (.cells #[.int .i64 39, .string nm, .slice (a) 1 cap] 29)) := below_alloc1 _ _
    clear hk hl hn
    go_enter Tryz.func33, Tryz.ntmps33
    go_upto_region 1 with fail
    generalize W.alloc (.cells #[.int .i64 39, .string nm, .slice (a) 1 cap] 29) = W0 at *
    have qlt := q1.lt
    obtain ⟨-, d0, d1, d2, -, -, -⟩ := id q1
    go_wp2_with fail
    refine (HA1.out _ hB0).mono ?_
    rintro e w1 ⟨rfl, b1⟩
    have c1 := hB0.trans (b1.mono hB0.size)
    have q1' := q1.below b1 q1.lt
    obtain ⟨-, f10, f11, f12, -, -, -⟩ := id q1'
    go_wp2_with fail
    go_ret
    exact ⟨rfl, c1⟩
  · have z0 : ((n : Int) == 1) = false := beq_eq_false_iff_ne.2 (by omega)
    have zz0 : (n == 1) = false := beq_eq_false_iff_ne.2 h0
    rw [zz0] at hT
    clear zz0
    rw [Bool.false_and] at hT
    have HT := hide hT
    clear hT
    unfold nodeV
    have q1 := Box3.new W (.int .i64 39) (.string nm) (.slice (a) n cap) 29
    have hB0 : Below W.heap.size W (W.alloc (.cells #[.int .i64 39, .string nm, .slice (a) n cap] 29)) := below_alloc1 _ _
    clear hk hl hn
    go_enter Tryz.func33, Tryz.ntmps33
    go_upto_region 1 with fail
    generalize W.alloc (.cells #[.int .i64 39, .string nm, .slice (a) n cap] 29) = W0 at *
    have qlt := q1.lt
    obtain ⟨-, d0, d1, d2, -, -, -⟩ := id q1
    go_wp2_with fail
    go_ret
    exact ⟨by rw [HT.out]; rfl, hB0⟩

set_option maxHeartbeats 1000000 in
set_option maxRecDepth 100000 in
theorem kid40 (nm : ByteArray) (a : Option Addr) (cap n : Nat) (L : List Kn) (W : World) (hl : L.length = n) (hn : n ≤ maxLen) (hk : Kids W W.heap.size a L) :
    Calls Tryz.prog 33 #[nodeV 40 nm a n cap] W fun e W' => e = .returned (.bool (n == 1 && (allB L pK 0 1))) ∧ Below W.heap.size W W' := by
  obtain ⟨T, hT⟩ : ∃ T, T = (n == 1 && (allB L pK 0 1)) := ⟨_, rfl⟩
  rw [← hT]
  have hmx : (n : Int) ≤ 9223372036854775807 := by simp only [maxLen] at hn; omega
  by_cases h0 : n = 1
  · subst h0
    have HA1 : Hid (∀ wx, Below W.heap.size W wx → Calls Tryz.prog 52 #[.agg #[.int .i64 40, .string nm, .slice (a) 1 cap], .int .i64 0, .int .i64 1, .int .u8 112, .int .i64 0] wx fun e W' => e = .returned (.bool (allB L pK 0 1)) ∧ Below wx.heap.size wx W') := fun wx hb => by
      have := mAllP 40 nm (a) cap 1 L (0) (1) 0 wx hl hn (by omega) (hk.at hb)
      exact this
    rw [show ((1 : Nat) == 1) = true from rfl, Bool.true_and] at hT
    rw [← hT] at HA1
    have HTX : True := trivial
    clear HTX
    clear hT
    unfold nodeV
    have q1 := Box3.new W (.int .i64 40) (.string nm) (.slice (a) 1 cap) 29
    have hB0 : Below W.heap.size W (W.alloc (.cells #[.int .i64 40, .string nm, .slice (a) 1 cap] 29)) := below_alloc1 _ _
    clear hk hl hn
    go_enter Tryz.func33, Tryz.ntmps33
    go_upto_region 1 with fail
    generalize W.alloc (.cells #[.int .i64 40, .string nm, .slice (a) 1 cap] 29) = W0 at *
    have qlt := q1.lt
    obtain ⟨-, d0, d1, d2, -, -, -⟩ := id q1
    go_wp2_with fail
    refine (HA1.out _ hB0).mono ?_
    rintro e w1 ⟨rfl, b1⟩
    have c1 := hB0.trans (b1.mono hB0.size)
    have q1' := q1.below b1 q1.lt
    obtain ⟨-, f10, f11, f12, -, -, -⟩ := id q1'
    go_wp2_with fail
    go_ret
    exact ⟨rfl, c1⟩
  · have z0 : ((n : Int) == 1) = false := beq_eq_false_iff_ne.2 (by omega)
    have zz0 : (n == 1) = false := beq_eq_false_iff_ne.2 h0
    rw [zz0] at hT
    clear zz0
    rw [Bool.false_and] at hT
    have HT := hide hT
    clear hT
    unfold nodeV
    have q1 := Box3.new W (.int .i64 40) (.string nm) (.slice (a) n cap) 29
    have hB0 : Below W.heap.size W (W.alloc (.cells #[.int .i64 40, .string nm, .slice (a) n cap] 29)) := below_alloc1 _ _
    clear hk hl hn
    go_enter Tryz.func33, Tryz.ntmps33
    go_upto_region 1 with fail
    generalize W.alloc (.cells #[.int .i64 40, .string nm, .slice (a) n cap] 29) = W0 at *
    have qlt := q1.lt
    obtain ⟨-, d0, d1, d2, -, -, -⟩ := id q1
    go_wp2_with fail
    go_ret
    exact ⟨by rw [HT.out]; rfl, hB0⟩

set_option maxHeartbeats 1000000 in
set_option maxRecDepth 100000 in
theorem kid41 (nm : ByteArray) (a : Option Addr) (cap n : Nat) (L : List Kn) (W : World) (hl : L.length = n) (hn : n ≤ maxLen) (hk : Kids W W.heap.size a L) :
    Calls Tryz.prog 33 #[nodeV 41 nm a n cap] W fun e W' => e = .returned (.bool (turnsM true L)) ∧ Below W.heap.size W W' := by
  obtain ⟨T, hT⟩ : ∃ T, T = (turnsM true L) := ⟨_, rfl⟩
  rw [← hT]
  have hmx : (n : Int) ≤ 9223372036854775807 := by simp only [maxLen] at hn; omega
  have HA0 : Hid (∀ wx, Below W.heap.size W wx → Calls Tryz.prog 53 #[.agg #[.int .i64 41, .string nm, .slice (a) n cap], .int .u8 112] wx fun e W' => e = .returned (.bool (turnsM true L)) ∧ Below wx.heap.size wx W') := fun wx hb => mTurnsP 41 nm (a) cap n L wx hl hn (hk.at hb)
  rw [← hT] at HA0
  have HTX : True := trivial
  clear HTX
  clear hT
  unfold nodeV
  have q1 := Box3.new W (.int .i64 41) (.string nm) (.slice (a) n cap) 29
  have hB0 : Below W.heap.size W (W.alloc (.cells #[.int .i64 41, .string nm, .slice (a) n cap] 29)) := below_alloc1 _ _
  clear hk hl hn
  go_enter Tryz.func33, Tryz.ntmps33
  go_upto_region 1 with fail
  generalize W.alloc (.cells #[.int .i64 41, .string nm, .slice (a) n cap] 29) = W0 at *
  have qlt := q1.lt
  obtain ⟨-, d0, d1, d2, -, -, -⟩ := id q1
  go_wp2_with fail
  refine (HA0.out _ hB0).mono ?_
  rintro e w1 ⟨rfl, b1⟩
  have c1 := hB0.trans (b1.mono hB0.size)
  have q1' := q1.below b1 q1.lt
  obtain ⟨-, f10, f11, f12, -, -, -⟩ := id q1'
  go_wp2_with fail
  go_ret
  exact ⟨rfl, c1⟩

end Go.Proofs.YtjfoagmenehapaaGreatDoor.Tree

