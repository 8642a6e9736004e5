import Derived.Test.YtjfoagmenehapaaGreatDoorQ21
namespace Go.Proofs.YtjfoagmenehapaaGreatDoor.Tree
open Go.RowKit Go.Joins

set_option maxHeartbeats 1000000 in
set_option maxRecDepth 100000 in
theorem kid63 (nm : ByteArray) (a : Option Addr) (cap n : Nat) (L : List Kn) (W : World) (hl : L.length = n) (hn : n ≤ maxLen) (hk : Kids W W.heap.size a L) :
    Calls Tryz.prog 36 #[nodeV 63 nm a n cap] W fun e W' => e = .returned (.bool (decide (3 ≤ n) && (plainB (kd L (0)) (kn L (0)) && (allB L (fun y => y == 64) 1 (n - 1) && (plainB (kd L (n - 1)) (kn L (n - 1))))))) ∧ Below W.heap.size W W' := by
  obtain ⟨T, hT⟩ : ∃ T, T = (decide (3 ≤ n) && (plainB (kd L (0)) (kn L (0)) && (allB L (fun y => y == 64) 1 (n - 1) && (plainB (kd L (n - 1)) (kn L (n - 1)))))) := ⟨_, rfl⟩
  rw [← hT]
  have hmx : (n : Int) ≤ 9223372036854775807 := by simp only [maxLen] at hn; omega
  by_cases h0 : 3 ≤ n
  · have z0 : (3 : Int) ≤ n := by omega
    have zz0 : decide (3 ≤ n) = true := decide_eq_true h0
    rw [zz0] at hT
    clear zz0
    obtain ⟨g, o, rfl, hg, hr⟩ := id hk (by omega)
    obtain ⟨x0, hx0⟩ : ∃ x, L[0]? = some x := ⟨_, List.getElem?_eq_getElem (by omega)⟩
    have HX0 := hide (hr _ _ hx0)
    have hk0 : kd L (0) = x0.k := by unfold kd; rw [hx0]
    have hm0 : kn L (0) = x0.nm := by unfold kn; rw [hx0]
    obtain ⟨xL, hxL⟩ : ∃ x, L[n - 1]? = some x := ⟨_, List.getElem?_eq_getElem (by omega)⟩
    have HXL := hide (hr _ _ hxL)
    have hkL : kd L (n - 1) = xL.k := by unfold kd; rw [hxL]
    have hmL : kn L (n - 1) = xL.nm := by unfold kn; rw [hxL]
    have HA1 : Hid (∀ wx, Calls Tryz.prog 55 #[.agg #[.int .i64 x0.k, .string x0.nm, .slice x0.a x0.ks.len x0.cap]] wx fun e W' => e = .returned (.bool (plainB x0.k x0.nm)) ∧ Below wx.heap.size wx W') := fun wx => mPlain _ _ _ _ _ wx
    have HA3 : Hid (∀ wx, Calls Tryz.prog 55 #[.agg #[.int .i64 xL.k, .string xL.nm, .slice xL.a xL.ks.len xL.cap]] wx fun e W' => e = .returned (.bool (plainB xL.k xL.nm)) ∧ Below wx.heap.size wx W') := fun wx => mPlain _ _ _ _ _ wx
    have HA2 : Hid (∀ wx, Below W.heap.size W wx → Calls Tryz.prog 52 #[.agg #[.int .i64 63, .string nm, .slice (some ⟨g, o, none⟩) n cap], .int .i64 1, .int .i64 ((n : Int) - 1), .int .u8 0, .int .i64 64] wx fun e W' => e = .returned (.bool (allB L (fun y => y == 64) 1 (n - 1))) ∧ Below wx.heap.size wx W') := fun wx hb => by
      have := mAllK 63 nm (some ⟨g, o, none⟩) cap n L (1) (n - 1) 64 wx hl hn (by omega) (hk.at hb)
      rw [show ((n - 1 : Nat) : Int) = (n : Int) - 1 by omega] at this
      exact this
    rw [hk0] at hT
    rw [hm0] at hT
    rw [hkL] at hT
    rw [hmL] at hT
    clear hr hx0 hk0 hm0 hxL hkL hmL
    rw [Bool.true_and] at hT
    cases hX1 : plainB x0.k x0.nm with
    | false =>
      rw [hX1] at HA1 hT
      clear hX1
      rw [Bool.false_and] at hT
      have HT := hide hT
      clear hT
      unfold nodeV
      have q1 := Box3.new W (.int .i64 63) (.string nm) (.slice (some ⟨g, o, none⟩) n cap) 29
      have hB0 : Below W.heap.size W (W.alloc (.cells #[.int .i64 63, .string nm, .slice (some ⟨g, o, none⟩) n cap] 29)) := below_alloc1 _ _
      clear hk hl hn
      go_enter Tryz.func36, Tryz.ntmps36
      go_upto_region 1 with fail
      generalize W.alloc (.cells #[.int .i64 63, .string nm, .slice (some ⟨g, o, none⟩) n cap] 29) = W0 at *
      have qlt := q1.lt
      obtain ⟨-, d0, d1, d2, -, -, -⟩ := id q1
      obtain ⟨-, -, y00a, y00b, y00c, -⟩ := HX0.out.below hB0 hg (Nat.le_refl _)
      rw [Nat.zero_mul, Nat.add_zero] at y00a
      rw [Nat.zero_mul, Nat.add_zero] at y00b
      rw [Nat.zero_mul, Nat.add_zero] at y00c
      obtain ⟨-, -, y0La, y0Lb, y0Lc, -⟩ := HXL.out.below hB0 hg (Nat.le_refl _)
      go_wp2_with fail
      refine (HA1.out _).mono ?_
      rintro e w1 ⟨rfl, b1⟩
      have c1 := hB0.trans (b1.mono hB0.size)
      have q1' := q1.below b1 q1.lt
      obtain ⟨-, f10, f11, f12, -, -, -⟩ := id q1'
      obtain ⟨-, -, y10a, y10b, y10c, -⟩ := HX0.out.below c1 hg (Nat.le_refl _)
      rw [Nat.zero_mul, Nat.add_zero] at y10a
      rw [Nat.zero_mul, Nat.add_zero] at y10b
      rw [Nat.zero_mul, Nat.add_zero] at y10c
      obtain ⟨-, -, y1La, y1Lb, y1Lc, -⟩ := HXL.out.below c1 hg (Nat.le_refl _)
      go_wp2_with fail
      go_ret
      exact ⟨by rw [HT.out]; rfl, c1⟩
    | true =>
      rw [hX1] at HA1 hT
      clear hX1
      rw [Bool.true_and] at hT
      cases hX2 : allB L (fun y => y == 64) 1 (n - 1) with
      | false =>
        rw [hX2] at HA2 hT
        clear hX2
        rw [Bool.false_and] at hT
        have HT := hide hT
        clear hT
        unfold nodeV
        have q1 := Box3.new W (.int .i64 63) (.string nm) (.slice (some ⟨g, o, none⟩) n cap) 29
        have hB0 : Below W.heap.size W (W.alloc (.cells #[.int .i64 63, .string nm, .slice (some ⟨g, o, none⟩) n cap] 29)) := below_alloc1 _ _
        clear hk hl hn
        go_enter Tryz.func36, Tryz.ntmps36
        go_upto_region 1 with fail
        generalize W.alloc (.cells #[.int .i64 63, .string nm, .slice (some ⟨g, o, none⟩) n cap] 29) = W0 at *
        have qlt := q1.lt
        obtain ⟨-, d0, d1, d2, -, -, -⟩ := id q1
        obtain ⟨-, -, y00a, y00b, y00c, -⟩ := HX0.out.below hB0 hg (Nat.le_refl _)
        rw [Nat.zero_mul, Nat.add_zero] at y00a
        rw [Nat.zero_mul, Nat.add_zero] at y00b
        rw [Nat.zero_mul, Nat.add_zero] at y00c
        obtain ⟨-, -, y0La, y0Lb, y0Lc, -⟩ := HXL.out.below hB0 hg (Nat.le_refl _)
        go_wp2_with fail
        refine (HA1.out _).mono ?_
        rintro e w1 ⟨rfl, b1⟩
        have c1 := hB0.trans (b1.mono hB0.size)
        have q1' := q1.below b1 q1.lt
        obtain ⟨-, f10, f11, f12, -, -, -⟩ := id q1'
        obtain ⟨-, -, y10a, y10b, y10c, -⟩ := HX0.out.below c1 hg (Nat.le_refl _)
        rw [Nat.zero_mul, Nat.add_zero] at y10a
        rw [Nat.zero_mul, Nat.add_zero] at y10b
        rw [Nat.zero_mul, Nat.add_zero] at y10c
        obtain ⟨-, -, y1La, y1Lb, y1Lc, -⟩ := HXL.out.below c1 hg (Nat.le_refl _)
        go_wp2_with fail
        refine (HA2.out _ c1).mono ?_
        rintro e w2 ⟨rfl, b2⟩
        have c2 := c1.trans (b2.mono c1.size)
        have q2' := q1'.below b2 q1'.lt
        obtain ⟨-, f20, f21, f22, -, -, -⟩ := id q2'
        obtain ⟨-, -, y20a, y20b, y20c, -⟩ := HX0.out.below c2 hg (Nat.le_refl _)
        rw [Nat.zero_mul, Nat.add_zero] at y20a
        rw [Nat.zero_mul, Nat.add_zero] at y20b
        rw [Nat.zero_mul, Nat.add_zero] at y20c
        obtain ⟨-, -, y2La, y2Lb, y2Lc, -⟩ := HXL.out.below c2 hg (Nat.le_refl _)
        go_wp2_with fail
        go_ret
        exact ⟨by rw [HT.out]; rfl, c2⟩
      | true =>
        rw [hX2] at HA2 hT
        clear hX2
        rw [Bool.true_and] at hT
        rw [← hT] at HA3
        have HTX : True := trivial
        clear HTX
        clear hT
        unfold nodeV
        have q1 := Box3.new W (.int .i64 63) (.string nm) (.slice (some ⟨g, o, none⟩) n cap) 29
        have hB0 : Below W.heap.size W (W.alloc (.cells #[.int .i64 63, .string nm, .slice (some ⟨g, o, none⟩) n cap] 29)) := below_alloc1 _ _
        clear hk hl hn
        go_enter Tryz.func36, Tryz.ntmps36
        go_upto_region 1 with fail
        generalize W.alloc (.cells #[.int .i64 63, .string nm, .slice (some ⟨g, o, none⟩) n cap] 29) = W0 at *
        have qlt := q1.lt
        obtain ⟨-, d0, d1, d2, -, -, -⟩ := id q1
        obtain ⟨-, -, y00a, y00b, y00c, -⟩ := HX0.out.below hB0 hg (Nat.le_refl _)
        rw [Nat.zero_mul, Nat.add_zero] at y00a
        rw [Nat.zero_mul, Nat.add_zero] at y00b
        rw [Nat.zero_mul, Nat.add_zero] at y00c
        obtain ⟨-, -, y0La, y0Lb, y0Lc, -⟩ := HXL.out.below hB0 hg (Nat.le_refl _)
        go_wp2_with fail
        refine (HA1.out _).mono ?_
        rintro e w1 ⟨rfl, b1⟩
        have c1 := hB0.trans (b1.mono hB0.size)
        have q1' := q1.below b1 q1.lt
        obtain ⟨-, f10, f11, f12, -, -, -⟩ := id q1'
        obtain ⟨-, -, y10a, y10b, y10c, -⟩ := HX0.out.below c1 hg (Nat.le_refl _)
        rw [Nat.zero_mul, Nat.add_zero] at y10a
        rw [Nat.zero_mul, Nat.add_zero] at y10b
        rw [Nat.zero_mul, Nat.add_zero] at y10c
        obtain ⟨-, -, y1La, y1Lb, y1Lc, -⟩ := HXL.out.below c1 hg (Nat.le_refl _)
        go_wp2_with fail
        refine (HA2.out _ c1).mono ?_
        rintro e w2 ⟨rfl, b2⟩
        have c2 := c1.trans (b2.mono c1.size)
        have q2' := q1'.below b2 q1'.lt
        obtain ⟨-, f20, f21, f22, -, -, -⟩ := id q2'
        obtain ⟨-, -, y20a, y20b, y20c, -⟩ := HX0.out.below c2 hg (Nat.le_refl _)
        rw [Nat.zero_mul, Nat.add_zero] at y20a
        rw [Nat.zero_mul, Nat.add_zero] at y20b
        rw [Nat.zero_mul, Nat.add_zero] at y20c
        obtain ⟨-, -, y2La, y2Lb, y2Lc, -⟩ := HXL.out.below c2 hg (Nat.le_refl _)
        go_wp2_with fail
        refine (HA3.out _).mono ?_
        rintro e w3 ⟨rfl, b3⟩
        have c3 := c2.trans (b3.mono c2.size)
        have q3' := q2'.below b3 q2'.lt
        obtain ⟨-, f30, f31, f32, -, -, -⟩ := id q3'
        obtain ⟨-, -, y30a, y30b, y30c, -⟩ := HX0.out.below c3 hg (Nat.le_refl _)
        rw [Nat.zero_mul, Nat.add_zero] at y30a
        rw [Nat.zero_mul, Nat.add_zero] at y30b
        rw [Nat.zero_mul, Nat.add_zero] at y30c
        obtain ⟨-, -, y3La, y3Lb, y3Lc, -⟩ := HXL.out.below c3 hg (Nat.le_refl _)
        go_wp2_with fail
        go_ret
        exact ⟨rfl, c3⟩
  · have z0 : ¬ (3 : Int) ≤ n := by omega
    have zz0 : decide (3 ≤ n) = false := decide_eq_false h0
    rw [zz0] at hT
    clear zz0
    rw [Bool.false_and] at hT
    have HT := hide hT
    clear hT
    unfold nodeV
    have q1 := Box3.new W (.int .i64 63) (.string nm) (.slice (a) n cap) 29
    have hB0 : Below W.heap.size W (W.alloc (.cells #[.int .i64 63, .string nm, .slice (a) n cap] 29)) := below_alloc1 _ _
    clear hk hl hn
    go_enter Tryz.func36, Tryz.ntmps36
    go_upto_region 1 with fail
    generalize W.alloc (.cells #[.int .i64 63, .string nm, .slice (a) n cap] 29) = W0 at *
    have qlt := q1.lt
    obtain ⟨-, d0, d1, d2, -, -, -⟩ := id q1
    go_wp2_with fail
    go_ret
    exact ⟨by rw [HT.out]; rfl, hB0⟩

set_option maxHeartbeats 1000000 in
set_option maxRecDepth 100000 in
theorem kid65 (nm : ByteArray) (a : Option Addr) (cap n : Nat) (L : List Kn) (W : World) (hl : L.length = n) (hn : n ≤ maxLen) (hk : Kids W W.heap.size a L) :
    Calls Tryz.prog 36 #[nodeV 65 nm a n cap] W fun e W' => e = .returned (.bool (decide (2 ≤ n) && (kd L (0) == 69 && (kd L (1) == 50 && (allB L (fun y => y == 60) 2 n))))) ∧ Below W.heap.size W W' := by
  obtain ⟨T, hT⟩ : ∃ T, T = (decide (2 ≤ n) && (kd L (0) == 69 && (kd L (1) == 50 && (allB L (fun y => y == 60) 2 n)))) := ⟨_, rfl⟩
  rw [← hT]
  have hmx : (n : Int) ≤ 9223372036854775807 := by simp only [maxLen] at hn; omega
  by_cases h0 : 2 ≤ n
  · have z0 : (2 : Int) ≤ n := by omega
    have zz0 : decide (2 ≤ n) = true := decide_eq_true h0
    rw [zz0] at hT
    clear zz0
    obtain ⟨g, o, rfl, hg, hr⟩ := id hk (by omega)
    obtain ⟨x0, hx0⟩ : ∃ x, L[0]? = some x := ⟨_, List.getElem?_eq_getElem (by omega)⟩
    have HX0 := hide (hr _ _ hx0)
    have hk0 : kd L (0) = x0.k := by unfold kd; rw [hx0]
    have hm0 : kn L (0) = x0.nm := by unfold kn; rw [hx0]
    obtain ⟨x1, hx1⟩ : ∃ x, L[1]? = some x := ⟨_, List.getElem?_eq_getElem (by omega)⟩
    have HX1 := hide (hr _ _ hx1)
    have hk1 : kd L (1) = x1.k := by unfold kd; rw [hx1]
    have hm1 : kn L (1) = x1.nm := by unfold kn; rw [hx1]
    have HA3 : Hid (∀ wx, Below W.heap.size W wx → Calls Tryz.prog 52 #[.agg #[.int .i64 65, .string nm, .slice (some ⟨g, o, none⟩) n cap], .int .i64 2, .int .i64 n, .int .u8 0, .int .i64 60] wx fun e W' => e = .returned (.bool (allB L (fun y => y == 60) 2 n)) ∧ Below wx.heap.size wx W') := fun wx hb => by
      have := mAllK 65 nm (some ⟨g, o, none⟩) cap n L (2) (n) 60 wx hl hn (by omega) (hk.at hb)
      exact this
    rw [hk0] at hT
    rw [hk1] at hT
    clear hr hx0 hk0 hm0 hx1 hk1 hm1
    rw [Bool.true_and] at hT
    by_cases h1 : x0.k = 69
    · have zz1 : (x0.k == 69) = true := by rw [h1]; rfl
      rw [zz1] at hT
      rw [Bool.true_and] at hT
      by_cases h2 : x1.k = 50
      · have zz2 : (x1.k == 50) = true := by rw [h2]; rfl
        rw [zz2] at hT
        rw [Bool.true_and] at hT
        rw [← hT] at HA3
        have HTX : True := trivial
        clear HTX
        clear hT
        unfold nodeV
        have q1 := Box3.new W (.int .i64 65) (.string nm) (.slice (some ⟨g, o, none⟩) n cap) 29
        have hB0 : Below W.heap.size W (W.alloc (.cells #[.int .i64 65, .string nm, .slice (some ⟨g, o, none⟩) n cap] 29)) := below_alloc1 _ _
        clear hk hl hn
        go_enter Tryz.func36, Tryz.ntmps36
        go_upto_region 1 with fail
        generalize W.alloc (.cells #[.int .i64 65, .string nm, .slice (some ⟨g, o, none⟩) n cap] 29) = W0 at *
        have qlt := q1.lt
        obtain ⟨-, d0, d1, d2, -, -, -⟩ := id q1
        obtain ⟨-, -, y00a, y00b, y00c, -⟩ := HX0.out.below hB0 hg (Nat.le_refl _)
        rw [Nat.zero_mul, Nat.add_zero] at y00a
        rw [Nat.zero_mul, Nat.add_zero] at y00b
        rw [Nat.zero_mul, Nat.add_zero] at y00c
        obtain ⟨-, -, y01a, y01b, y01c, -⟩ := HX1.out.below hB0 hg (Nat.le_refl _)
        rw [Nat.one_mul] at y01a
        rw [Nat.one_mul] at y01b
        rw [Nat.one_mul] at y01c
        go_wp2_with fail
        refine (HA3.out _ hB0).mono ?_
        rintro e w1 ⟨rfl, b1⟩
        have c1 := hB0.trans (b1.mono hB0.size)
        have q1' := q1.below b1 q1.lt
        obtain ⟨-, f10, f11, f12, -, -, -⟩ := id q1'
        obtain ⟨-, -, y10a, y10b, y10c, -⟩ := HX0.out.below c1 hg (Nat.le_refl _)
        rw [Nat.zero_mul, Nat.add_zero] at y10a
        rw [Nat.zero_mul, Nat.add_zero] at y10b
        rw [Nat.zero_mul, Nat.add_zero] at y10c
        obtain ⟨-, -, y11a, y11b, y11c, -⟩ := HX1.out.below c1 hg (Nat.le_refl _)
        rw [Nat.one_mul] at y11a
        rw [Nat.one_mul] at y11b
        rw [Nat.one_mul] at y11c
        go_wp2_with fail
        go_ret
        exact ⟨rfl, c1⟩
      · have zz2 : (x1.k == 50) = false := beq_eq_false_iff_ne.2 h2
        rw [zz2] at hT
        rw [Bool.false_and] at hT
        have HT := hide hT
        clear hT
        unfold nodeV
        have q1 := Box3.new W (.int .i64 65) (.string nm) (.slice (some ⟨g, o, none⟩) n cap) 29
        have hB0 : Below W.heap.size W (W.alloc (.cells #[.int .i64 65, .string nm, .slice (some ⟨g, o, none⟩) n cap] 29)) := below_alloc1 _ _
        clear hk hl hn
        go_enter Tryz.func36, Tryz.ntmps36
        go_upto_region 1 with fail
        generalize W.alloc (.cells #[.int .i64 65, .string nm, .slice (some ⟨g, o, none⟩) n cap] 29) = W0 at *
        have qlt := q1.lt
        obtain ⟨-, d0, d1, d2, -, -, -⟩ := id q1
        obtain ⟨-, -, y00a, y00b, y00c, -⟩ := HX0.out.below hB0 hg (Nat.le_refl _)
        rw [Nat.zero_mul, Nat.add_zero] at y00a
        rw [Nat.zero_mul, Nat.add_zero] at y00b
        rw [Nat.zero_mul, Nat.add_zero] at y00c
        obtain ⟨-, -, y01a, y01b, y01c, -⟩ := HX1.out.below hB0 hg (Nat.le_refl _)
        rw [Nat.one_mul] at y01a
        rw [Nat.one_mul] at y01b
        rw [Nat.one_mul] at y01c
        go_wp2_with fail
        go_ret
        exact ⟨by rw [HT.out]; rfl, hB0⟩
    · have zz1 : (x0.k == 69) = false := beq_eq_false_iff_ne.2 h1
      rw [zz1] at hT
      rw [Bool.false_and] at hT
      have HT := hide hT
      clear hT
      unfold nodeV
      have q1 := Box3.new W (.int .i64 65) (.string nm) (.slice (some ⟨g, o, none⟩) n cap) 29
      have hB0 : Below W.heap.size W (W.alloc (.cells #[.int .i64 65, .string nm, .slice (some ⟨g, o, none⟩) n cap] 29)) := below_alloc1 _ _
      clear hk hl hn
      go_enter Tryz.func36, Tryz.ntmps36
      go_upto_region 1 with fail
      generalize W.alloc (.cells #[.int .i64 65, .string nm, .slice (some ⟨g, o, none⟩) n cap] 29) = W0 at *
      have qlt := q1.lt
      obtain ⟨-, d0, d1, d2, -, -, -⟩ := id q1
      obtain ⟨-, -, y00a, y00b, y00c, -⟩ := HX0.out.below hB0 hg (Nat.le_refl _)
      rw [Nat.zero_mul, Nat.add_zero] at y00a
      rw [Nat.zero_mul, Nat.add_zero] at y00b
      rw [Nat.zero_mul, Nat.add_zero] at y00c
      obtain ⟨-, -, y01a, y01b, y01c, -⟩ := HX1.out.below hB0 hg (Nat.le_refl _)
      rw [Nat.one_mul] at y01a
      rw [Nat.one_mul] at y01b
      rw [Nat.one_mul] at y01c
      go_wp2_with fail
      go_ret
      exact ⟨by rw [HT.out]; rfl, hB0⟩
  · have z0 : ¬ (2 : Int) ≤ n := by omega
    have zz0 : decide (2 ≤ n) = false := decide_eq_false h0
    rw [zz0] at hT
    clear zz0
    rw [Bool.false_and] at hT
    have HT := hide hT
    clear hT
    unfold nodeV
    have q1 := Box3.new W (.int .i64 65) (.string nm) (.slice (a) n cap) 29
    have hB0 : Below W.heap.size W (W.alloc (.cells #[.int .i64 65, .string nm, .slice (a) n cap] 29)) := below_alloc1 _ _
    clear hk hl hn
    go_enter Tryz.func36, Tryz.ntmps36
    go_upto_region 1 with fail
    generalize W.alloc (.cells #[.int .i64 65, .string nm, .slice (a) n cap] 29) = W0 at *
    have qlt := q1.lt
    obtain ⟨-, d0, d1, d2, -, -, -⟩ := id q1
    go_wp2_with fail
    go_ret
    exact ⟨by rw [HT.out]; rfl, hB0⟩

set_option maxHeartbeats 1000000 in
set_option maxRecDepth 100000 in
theorem kid66 (nm : ByteArray) (a : Option Addr) (cap n : Nat) (L : List Kn) (W : World) (hl : L.length = n) (hn : n ≤ maxLen) (hk : Kids W W.heap.size a L) :
    Calls Tryz.prog 36 #[nodeV 66 nm a n cap] W fun e W' => e = .returned (.bool (decide (2 ≤ n) && (kd L (0) == 69 && (tK (kd L (1)) && (allB L (fun y => y == 61) 2 n))))) ∧ Below W.heap.size W W' := by
  obtain ⟨T, hT⟩ : ∃ T, T = (decide (2 ≤ n) && (kd L (0) == 69 && (tK (kd L (1)) && (allB L (fun y => y == 61) 2 n)))) := ⟨_, rfl⟩
  rw [← hT]
  have hmx : (n : Int) ≤ 9223372036854775807 := by simp only [maxLen] at hn; omega
  by_cases h0 : 2 ≤ n
  · have z0 : (2 : Int) ≤ n := by omega
    have zz0 : decide (2 ≤ n) = true := decide_eq_true h0
    rw [zz0] at hT
    clear zz0
    obtain ⟨g, o, rfl, hg, hr⟩ := id hk (by omega)
    obtain ⟨x0, hx0⟩ : ∃ x, L[0]? = some x := ⟨_, List.getElem?_eq_getElem (by omega)⟩
    have HX0 := hide (hr _ _ hx0)
    have hk0 : kd L (0) = x0.k := by unfold kd; rw [hx0]
    have hm0 : kn L (0) = x0.nm := by unfold kn; rw [hx0]
    obtain ⟨x1, hx1⟩ : ∃ x, L[1]? = some x := ⟨_, List.getElem?_eq_getElem (by omega)⟩
    have HX1 := hide (hr _ _ hx1)
    have hk1 : kd L (1) = x1.k := by unfold kd; rw [hx1]
    have hm1 : kn L (1) = x1.nm := by unfold kn; rw [hx1]
    have HA2 : Hid (∀ wx, Calls Tryz.prog 34 #[.int .i64 x1.k] wx fun e w' => e = .returned (.bool (tK x1.k)) ∧ w' = wx) := fun wx => mType x1.k wx
    have HA3 : Hid (∀ wx, Below W.heap.size W wx → Calls Tryz.prog 52 #[.agg #[.int .i64 66, .string nm, .slice (some ⟨g, o, none⟩) n cap], .int .i64 2, .int .i64 n, .int .u8 0, .int .i64 61] wx fun e W' => e = .returned (.bool (allB L (fun y => y == 61) 2 n)) ∧ Below wx.heap.size wx W') := fun wx hb => by
      have := mAllK 66 nm (some ⟨g, o, none⟩) cap n L (2) (n) 61 wx hl hn (by omega) (hk.at hb)
      exact this
    rw [hk0] at hT
    rw [hk1] at hT
    clear hr hx0 hk0 hm0 hx1 hk1 hm1
    rw [Bool.true_and] at hT
    by_cases h1 : x0.k = 69
    · have zz1 : (x0.k == 69) = true := by rw [h1]; rfl
      rw [zz1] at hT
      rw [Bool.true_and] at hT
      cases hX2 : tK x1.k with
      | false =>
        rw [hX2] at HA2 hT
        clear hX2
        rw [Bool.false_and] at hT
        have HT := hide hT
        clear hT
        unfold nodeV
        have q1 := Box3.new W (.int .i64 66) (.string nm) (.slice (some ⟨g, o, none⟩) n cap) 29
        have hB0 : Below W.heap.size W (W.alloc (.cells #[.int .i64 66, .string nm, .slice (some ⟨g, o, none⟩) n cap] 29)) := below_alloc1 _ _
        clear hk hl hn
        go_enter Tryz.func36, Tryz.ntmps36
        go_upto_region 1 with fail
        generalize W.alloc (.cells #[.int .i64 66, .string nm, .slice (some ⟨g, o, none⟩) n cap] 29) = W0 at *
        have qlt := q1.lt
        obtain ⟨-, d0, d1, d2, -, -, -⟩ := id q1
        obtain ⟨-, -, y00a, y00b, y00c, -⟩ := HX0.out.below hB0 hg (Nat.le_refl _)
        rw [Nat.zero_mul, Nat.add_zero] at y00a
        rw [Nat.zero_mul, Nat.add_zero] at y00b
        rw [Nat.zero_mul, Nat.add_zero] at y00c
        obtain ⟨-, -, y01a, y01b, y01c, -⟩ := HX1.out.below hB0 hg (Nat.le_refl _)
        rw [Nat.one_mul] at y01a
        rw [Nat.one_mul] at y01b
        rw [Nat.one_mul] at y01c
        go_wp2_with fail
        refine (HA2.out _).mono ?_
        rintro e w1 ⟨rfl, rfl⟩
        go_wp2_with fail
        go_ret
        exact ⟨by rw [HT.out]; rfl, hB0⟩
      | true =>
        rw [hX2] at HA2 hT
        clear hX2
        rw [Bool.true_and] at hT
        rw [← hT] at HA3
        have HTX : True := trivial
        clear HTX
        clear hT
        unfold nodeV
        have q1 := Box3.new W (.int .i64 66) (.string nm) (.slice (some ⟨g, o, none⟩) n cap) 29
        have hB0 : Below W.heap.size W (W.alloc (.cells #[.int .i64 66, .string nm, .slice (some ⟨g, o, none⟩) n cap] 29)) := below_alloc1 _ _
        clear hk hl hn
        go_enter Tryz.func36, Tryz.ntmps36
        go_upto_region 1 with fail
        generalize W.alloc (.cells #[.int .i64 66, .string nm, .slice (some ⟨g, o, none⟩) n cap] 29) = W0 at *
        have qlt := q1.lt
        obtain ⟨-, d0, d1, d2, -, -, -⟩ := id q1
        obtain ⟨-, -, y00a, y00b, y00c, -⟩ := HX0.out.below hB0 hg (Nat.le_refl _)
        rw [Nat.zero_mul, Nat.add_zero] at y00a
        rw [Nat.zero_mul, Nat.add_zero] at y00b
        rw [Nat.zero_mul, Nat.add_zero] at y00c
        obtain ⟨-, -, y01a, y01b, y01c, -⟩ := HX1.out.below hB0 hg (Nat.le_refl _)
        rw [Nat.one_mul] at y01a
        rw [Nat.one_mul] at y01b
        rw [Nat.one_mul] at y01c
        go_wp2_with fail
        refine (HA2.out _).mono ?_
        rintro e w1 ⟨rfl, rfl⟩
        go_wp2_with fail
        refine (HA3.out _ hB0).mono ?_
        rintro e w2 ⟨rfl, b2⟩
        have c2 := hB0.trans (b2.mono hB0.size)
        have q2' := q1.below b2 q1.lt
        obtain ⟨-, f20, f21, f22, -, -, -⟩ := id q2'
        obtain ⟨-, -, y20a, y20b, y20c, -⟩ := HX0.out.below c2 hg (Nat.le_refl _)
        rw [Nat.zero_mul, Nat.add_zero] at y20a
        rw [Nat.zero_mul, Nat.add_zero] at y20b
        rw [Nat.zero_mul, Nat.add_zero] at y20c
        obtain ⟨-, -, y21a, y21b, y21c, -⟩ := HX1.out.below c2 hg (Nat.le_refl _)
        rw [Nat.one_mul] at y21a
        rw [Nat.one_mul] at y21b
        rw [Nat.one_mul] at y21c
        go_wp2_with fail
        go_ret
        exact ⟨rfl, c2⟩
    · have zz1 : (x0.k == 69) = false := beq_eq_false_iff_ne.2 h1
      rw [zz1] at hT
      rw [Bool.false_and] at hT
      have HT := hide hT
      clear hT
      unfold nodeV
      have q1 := Box3.new W (.int .i64 66) (.string nm) (.slice (some ⟨g, o, none⟩) n cap) 29
      have hB0 : Below W.heap.size W (W.alloc (.cells #[.int .i64 66, .string nm, .slice (some ⟨g, o, none⟩) n cap] 29)) := below_alloc1 _ _
      clear hk hl hn
      go_enter Tryz.func36, Tryz.ntmps36
      go_upto_region 1 with fail
      generalize W.alloc (.cells #[.int .i64 66, .string nm, .slice (some ⟨g, o, none⟩) n cap] 29) = W0 at *
      have qlt := q1.lt
      obtain ⟨-, d0, d1, d2, -, -, -⟩ := id q1
      obtain ⟨-, -, y00a, y00b, y00c, -⟩ := HX0.out.below hB0 hg (Nat.le_refl _)
      rw [Nat.zero_mul, Nat.add_zero] at y00a
      rw [Nat.zero_mul, Nat.add_zero] at y00b
      rw [Nat.zero_mul, Nat.add_zero] at y00c
      obtain ⟨-, -, y01a, y01b, y01c, -⟩ := HX1.out.below hB0 hg (Nat.le_refl _)
      rw [Nat.one_mul] at y01a
      rw [Nat.one_mul] at y01b
      rw [Nat.one_mul] at y01c
      go_wp2_with fail
      go_ret
      exact ⟨by rw [HT.out]; rfl, hB0⟩
  · have z0 : ¬ (2 : Int) ≤ n := by omega
    have zz0 : decide (2 ≤ n) = false := decide_eq_false h0
    rw [zz0] at hT
    clear zz0
    rw [Bool.false_and] at hT
    have HT := hide hT
    clear hT
    unfold nodeV
    have q1 := Box3.new W (.int .i64 66) (.string nm) (.slice (a) n cap) 29
    have hB0 : Below W.heap.size W (W.alloc (.cells #[.int .i64 66, .string nm, .slice (a) n cap] 29)) := below_alloc1 _ _
    clear hk hl hn
    go_enter Tryz.func36, Tryz.ntmps36
    go_upto_region 1 with fail
    generalize W.alloc (.cells #[.int .i64 66, .string nm, .slice (a) n cap] 29) = W0 at *
    have qlt := q1.lt
    obtain ⟨-, d0, d1, d2, -, -, -⟩ := id q1
    go_wp2_with fail
    go_ret
    exact ⟨by rw [HT.out]; rfl, hB0⟩

set_option maxHeartbeats 1000000 in
set_option maxRecDepth 100000 in
theorem kid68 (nm : ByteArray) (a : Option Addr) (cap n : Nat) (L : List Kn) (W : World) (hl : L.length = n) (hn : n ≤ maxLen) (hk : Kids W W.heap.size a L) :
    Calls Tryz.prog 36 #[nodeV 68 nm a n cap] W fun e W' => e = .returned (.bool (modM L)) ∧ Below W.heap.size W W' := by
  obtain ⟨T, hT⟩ : ∃ T, T = (modM L) := ⟨_, rfl⟩
  rw [← hT]
  have hmx : (n : Int) ≤ 9223372036854775807 := by simp only [maxLen] at hn; omega
  have HA0 : Hid (∀ wx, Below W.heap.size W wx → Calls Tryz.prog 56 #[.agg #[.int .i64 68, .string nm, .slice (a) n cap]] wx fun e W' => e = .returned (.bool (modM L)) ∧ Below wx.heap.size wx W') := fun wx hb => mModule 68 nm (a) cap n L wx hl hn (hk.at hb)
  rw [← hT] at HA0
  have HTX : True := trivial
  clear HTX
  clear hT
  unfold nodeV
  have q1 := Box3.new W (.int .i64 68) (.string nm) (.slice (a) n cap) 29
  have hB0 : Below W.heap.size W (W.alloc (.cells #[.int .i64 68, .string nm, .slice (a) n cap] 29)) := below_alloc1 _ _
  clear hk hl hn
  go_enter Tryz.func36, Tryz.ntmps36
  go_upto_region 1 with fail
  generalize W.alloc (.cells #[.int .i64 68, .string nm, .slice (a) n cap] 29) = W0 at *
  have qlt := q1.lt
  obtain ⟨-, d0, d1, d2, -, -, -⟩ := id q1
  go_wp2_with fail
  refine (HA0.out _ hB0).mono ?_
  rintro e w1 ⟨rfl, b1⟩
  have c1 := hB0.trans (b1.mono hB0.size)
  have q1' := q1.below b1 q1.lt
  obtain ⟨-, f10, f11, f12, -, -, -⟩ := id q1'
  go_wp2_with fail
  go_ret
  exact ⟨rfl, c1⟩

set_option maxHeartbeats 1000000 in
set_option maxRecDepth 100000 in
theorem kid69 (nm : ByteArray) (a : Option Addr) (cap n : Nat) (L : List Kn) (W : World) (hl : L.length = n) (hn : n ≤ maxLen) (hk : Kids W W.heap.size a L) :
    Calls Tryz.prog 36 #[nodeV 69 nm a n cap] W fun e W' => e = .returned (.bool (L.all bndB)) ∧ Below W.heap.size W W' := by
  obtain ⟨T, hT⟩ : ∃ T, T = (L.all bndB) := ⟨_, rfl⟩
  rw [← hT]
  have hmx : (n : Int) ≤ 9223372036854775807 := by simp only [maxLen] at hn; omega
  have HA0 : Hid (∀ wx, Below W.heap.size W wx → Calls Tryz.prog 57 #[.agg #[.int .i64 69, .string nm, .slice (a) n cap]] wx fun e W' => e = .returned (.bool (L.all bndB)) ∧ Below wx.heap.size wx W') := fun wx hb => mContext 69 nm (a) cap n L wx hl hn (hk.at hb)
  rw [← hT] at HA0
  have HTX : True := trivial
  clear HTX
  clear hT
  unfold nodeV
  have q1 := Box3.new W (.int .i64 69) (.string nm) (.slice (a) n cap) 29
  have hB0 : Below W.heap.size W (W.alloc (.cells #[.int .i64 69, .string nm, .slice (a) n cap] 29)) := below_alloc1 _ _
  clear hk hl hn
  go_enter Tryz.func36, Tryz.ntmps36
  go_upto_region 1 with fail
  generalize W.alloc (.cells #[.int .i64 69, .string nm, .slice (a) n cap] 29) = W0 at *
  have qlt := q1.lt
  obtain ⟨-, d0, d1, d2, -, -, -⟩ := id q1
  go_wp2_with fail
  refine (HA0.out _ hB0).mono ?_
  rintro e w1 ⟨rfl, b1⟩
  have c1 := hB0.trans (b1.mono hB0.size)
  have q1' := q1.below b1 q1.lt
  obtain ⟨-, f10, f11, f12, -, -, -⟩ := id q1'
  go_wp2_with fail
  go_ret
  exact ⟨rfl, c1⟩

set_option maxHeartbeats 1000000 in
set_option maxRecDepth 100000 in
theorem kid71 (nm : ByteArray) (a : Option Addr) (cap n : Nat) (L : List Kn) (W : World) (hl : L.length = n) (hn : n ≤ maxLen) (_hk : Kids W W.heap.size a L) :
    Calls Tryz.prog 36 #[nodeV 71 nm a n cap] W fun e W' => e = .returned (.bool (n == 0)) ∧ Below W.heap.size W W' := by
  obtain ⟨T, hT⟩ : ∃ T, T = (n == 0) := ⟨_, rfl⟩
  rw [← hT]
  have hmx : (n : Int) ≤ 9223372036854775807 := by simp only [maxLen] at hn; omega
  by_cases h0 : n = 0
  · subst h0
    have HT := hide hT
    clear hT
    unfold nodeV
    have q1 := Box3.new W (.int .i64 71) (.string nm) (.slice (a) 0 cap) 29
    have hB0 : Below W.heap.size W (W.alloc (.cells #[.int .i64 71, .string nm, .slice (a) 0 cap] 29)) := below_alloc1 _ _
    clear hl hn
    go_enter Tryz.func36, Tryz.ntmps36
    go_upto_region 1 with fail
    generalize W.alloc (.cells #[.int .i64 71, .string nm, .slice (a) 0 cap] 29) = W0 at *
    have qlt := q1.lt
    obtain ⟨-, d0, d1, d2, -, -, -⟩ := id q1
    go_wp2_with fail
    go_ret
    exact ⟨by rw [HT.out]; rfl, hB0⟩
  · have z0 : ((n : Int) == 0) = false := beq_eq_false_iff_ne.2 (by omega)
    have zz0 : (n == 0) = false := beq_eq_false_iff_ne.2 h0
    rw [zz0] at hT
    clear zz0
    have HT := hide hT
    clear hT
    unfold nodeV
    have q1 := Box3.new W (.int .i64 71) (.string nm) (.slice (a) n cap) 29
    have hB0 : Below W.heap.size W (W.alloc (.cells #[.int .i64 71, .string nm, .slice (a) n cap] 29)) := below_alloc1 _ _
    clear hl hn
    go_enter Tryz.func36, Tryz.ntmps36
    go_upto_region 1 with fail
    generalize W.alloc (.cells #[.int .i64 71, .string nm, .slice (a) n cap] 29) = W0 at *
    have qlt := q1.lt
    obtain ⟨-, d0, d1, d2, -, -, -⟩ := id q1
    go_wp2_with fail
    go_ret
    exact ⟨by rw [HT.out]; rfl, hB0⟩

end Go.Proofs.YtjfoagmenehapaaGreatDoor.Tree

