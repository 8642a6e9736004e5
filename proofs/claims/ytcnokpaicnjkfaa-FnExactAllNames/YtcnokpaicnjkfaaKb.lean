import Derived.Test.YtcnokpaicnjkfaaKa
namespace Go.Proofs.Ytcnokpaicnjkfaa
open Go.RowKit Go.Joins

theorem wt_Uint32S : ∀ (n : Nat) (F : Fo), Fit E F (rep (E 0) n) → F.wt = 0
  | 0, F, h => by rw [fit_nil h]; rfl
  | n + 1, F, h => by
    obtain ⟨x, r, rfl, -, hr⟩ := fit_u h
    simp only [Fo.wt, textSize, wt_Uint32S n r hr]
set_option maxHeartbeats 2000000 in
set_option maxRecDepth 100000 in
theorem sz_R_Uint32S (m : Nat) : SzR Try.prog E 38 (E 0) m := by
  intro F n nb left W a cap hm hf hn h0 h1 hs
  have hmx : n ≤ 9223372036854775807 := by have h2 := hs.1; have h3 := hs.2.1; simp only [maxLen] at h3; omega
  have hw := wt_Uint32S n F hf
  by_cases hlt : left < n
  · go_enter Try.func38, Try.ntmps38
    go_wp2_with fail
    go_ret
    exact ⟨by rw [szV_lt (by omega)]; rfl, Below.refl _ _⟩
  · go_enter Try.func38, Try.ntmps38
    go_wp2_with fail
    go_ret
    exact ⟨by rw [szV_ge (by omega)]; exact ret_int (by omega), Below.refl _ _⟩
set_option maxHeartbeats 2000000 in
set_option maxRecDepth 100000 in
theorem sz_C_Big (m : Nat) : SzC Try.prog E 13 [.b, .s 0] m := by
  intro F nb left W hm hf hn h0 h1 hs
  obtain ⟨x0, F0, rfl, hf⟩ := fit_b hf
  obtain ⟨a1, n1, c1, k1, F1, rfl, hf1, hf⟩ := fit_s hf
  obtain rfl := fit_nil hf
  obtain ⟨hs1, -⟩ := hs
  simp only [Fo.size] at hm
  simp only [Fo.vals, Fo.wt, textSize]
  have bA := below_alloc1 W (.cells #[.bool x0, .slice a1 n1 c1] 24)
  have zA : (W.alloc (.cells #[.bool x0, .slice a1 n1 c1] 24)).heap.size = W.heap.size + 1 := by simp
  have HS1 : Hid (Fo.Sub W (fun c => c < nb) a1 n1 c1 k1) := hs1
  have Q0 := hide (Bx.new W [.bool x0, .slice a1 n1 c1] 24)
  clear hs1
  have HbA := hide bA
  have HzA := hide zA
  clear bA zA
  go_enter Try.func13, Try.ntmps13
  go_wp2_with fail
  have HC1 := sz_R_Uint32S m k1 n1 nb (left) (W.alloc (.cells #[.bool x0, .slice a1 n1 c1] 24)) a1 c1 (by omega) hf1 (by have := HbA.out.size; omega) (by omega) (by omega) (HS1.out.below HbA.out (fun c hc => by omega))
  refine HC1.mono ?_
  clear HC1
  rintro e w1 ⟨rfl, b1⟩
  have B1 := hide (HbA.out.trans (b1.mono HbA.out.size))
  have Q1 := hide (Q0.out.below b1)
  clear b1
  by_cases g1 : left < (((n1 + k1.wt) : Nat) : Int)
  · rw [szV_lt (by omega)]
    go_wp2_with fail
    go_ret
    exact ⟨by rw [szV_lt (by omega)]; rfl, B1.out⟩
  rw [szV_ge (by omega)]
  obtain ⟨L1, hL1⟩ : ∃ L : Int, left - (((n1 + k1.wt) : Nat) : Int) = L := ⟨_, rfl⟩
  rw [hL1]
  have HL1 := hide hL1
  have HN1 := hide g1
  have hp1 : 0 ≤ L1 ∧ L1 ≤ 1048576 := by omega
  clear hL1 g1
  go_wp2_with fail
  go_ret
  exact ⟨by rw [szV_ge (by have := HL1.out; have := HN1.out; omega)]; exact ret_int (by have := HL1.out; have := HN1.out; omega), B1.out⟩

set_option maxHeartbeats 2000000 in
set_option maxRecDepth 100000 in
theorem sz_R_StringS (m : Nat) : SzR Try.prog E 14 (E 1) m := by
  intro F n nb left W a cap hm hf hn h0 h1 hs
  have hmx : n ≤ 9223372036854775807 := by have h2 := hs.1; have h3 := hs.2.1; simp only [maxLen] at h3; omega
  by_cases hlt : left < n
  · go_enter Try.func14, Try.ntmps14
    go_wp2_with fail
    go_ret
    exact ⟨by rw [szV_lt (by omega)]; rfl, Below.refl _ _⟩
  · have HR := hide (Rd.start hf hs)
    have HM := hide hm
    clear hf hs hm
    go_enter Try.func14, Try.ntmps14
    go_wp2_with fail
    go_loopw [1, 5] (fun s1 s5 wr => ∃ (M : Int) (i : Nat) (r : Fo), s1 = .int .i64 M ∧ s5 = .int .i64 i ∧ 0 ≤ M ∧ M ≤ 1048576 ∧ i ≤ n ∧ Hid (r.size ≤ F.size) ∧ Hid (M + n + F.wt = left + r.wt) ∧ Hid (Rd E (E 1) n nb a i r wr) ∧ Hid (Below W.heap.size W wr)) (fun _ s5 _ => n - (intOf s5).toNat)
    case atStart => exact ⟨left - n, 0, F, rfl, rfl, by omega, by omega, Nat.zero_le _, Nat.le_refl _, (by show (_ : Int) = _; omega), HR, Below.refl _ _⟩
    case round =>
      obtain ⟨M, i, r, rfl, rfl, hM0, hM1, hin, hrs, hMe, hR, hB⟩ := hrel
      by_cases hi : i < n
      · obtain ⟨x, q, b, o, rfl, hx, rfl, hb, hc, hxs, hR1⟩ := hR.out.next hi (by decide)
        have HR1 := hide hR1
        have HE := hMe.out
        have HZ := hrs.out
        rw [Fo.app_size] at HZ
        rw [Fo.app_wt] at HE
        have hbz := hB.out.size
        have hii : (i : Int) < n := by omega
        clear hR hMe hrs hR1
        replace hx : Fit E x [.t] := hx
        obtain ⟨x0, F0, rfl, hx0, hx⟩ := fit_t hx
        obtain rfl := fit_nil hx
        have p0 : wr.cell? ⟨b, o + i * 1, none⟩ = some (.string x0) := hc 0 _ rfl
        rw [Nat.mul_one] at p0
        have hy0 : x0.size ≤ 9223372036854775807 := by simp only [maxLen] at hx0; omega
        simp only [Fo.wt, textSize] at HE
        simp only [Fo.size] at HZ
        have HE1 := hide HE
        have HZ1 := hide HZ
        have HBZ := hide hbz
        clear HE HZ hxs hc hbz
        by_cases g : M < (x0.size : Int)
        · go_wp2_with fail
          go_ret
          exact ⟨by rw [szV_lt (by have := HE1.out; omega)]; rfl, hB.out⟩
        · go_wp2_with fail
          go_roundw
          case rel => exact ⟨M - x0.size, i + 1, q, by go_num, by go_num, by omega, by omega, by omega, (by show _ ≤ _; have := HZ1.out; omega), (by show (_ : Int) = _; have := HE1.out; omega), HR1.out, hB.out⟩
          case measure => simp [intOf]; omega
      · obtain ⟨rfl, rfl⟩ := hR.out.done hi
        have HE := hMe.out
        simp only [Fo.wt] at HE
        have HE1 := hide HE
        clear HE hMe hR hrs
        go_wp2_with fail
        go_ret
        exact ⟨by rw [szV_ge (by have := HE1.out; omega)]; exact ret_int (by have := HE1.out; omega), hB.out⟩

set_option maxHeartbeats 2000000 in
set_option maxRecDepth 100000 in
theorem sz_C_CoreAlt (m : Nat) (hcCore : SzC Try.prog E 4 (E 3) m) : SzC Try.prog E 39 (E 2) m := by
  intro F nb left W hm hf hn h0 h1 hs
  replace hf : Fit E F [.t, .s 1, .i, .t, .b, .s 0, .s 1, .s 3, .s 2] := hf
  obtain ⟨x0, F0, rfl, hx0, hf⟩ := fit_t hf
  obtain ⟨a1, n1, c1, k1, F1, rfl, hf1, hf⟩ := fit_s hf
  obtain ⟨x2, F2, rfl, hx2, hf⟩ := fit_i hf
  obtain ⟨x3, F3, rfl, hx3, hf⟩ := fit_t hf
  obtain ⟨x4, F4, rfl, hf⟩ := fit_b hf
  obtain ⟨a5, n5, c5, k5, F5, rfl, hf5, hf⟩ := fit_s hf
  obtain ⟨a6, n6, c6, k6, F6, rfl, hf6, hf⟩ := fit_s hf
  obtain ⟨a7, n7, c7, k7, F7, rfl, hf7, hf⟩ := fit_s hf
  obtain ⟨a8, n8, c8, k8, F8, rfl, hf8, hf⟩ := fit_s hf
  obtain rfl := fit_nil hf
  obtain ⟨hs1, hs5, hs6, hs7, hs8, -⟩ := hs
  simp only [Fo.size] at hm
  simp only [Fo.vals, Fo.wt, textSize]
  have hy0 : x0.size ≤ 9223372036854775807 := by simp only [maxLen] at hx0; omega
  have hy3 : x3.size ≤ 9223372036854775807 := by simp only [maxLen] at hx3; omega
  have bA := below_alloc1 W (.cells #[.string x0, .slice a1 n1 c1, .int .i64 x2, .string x3, .bool x4, .slice a5 n5 c5, .slice a6 n6 c6, .slice a7 n7 c7, .slice a8 n8 c8] 75)
  have zA : (W.alloc (.cells #[.string x0, .slice a1 n1 c1, .int .i64 x2, .string x3, .bool x4, .slice a5 n5 c5, .slice a6 n6 c6, .slice a7 n7 c7, .slice a8 n8 c8] 75)).heap.size = W.heap.size + 1 := by simp
  have HS1 : Hid (Fo.Sub W (fun c => c < nb) a1 n1 c1 k1) := hs1
  have HS5 : Hid (Fo.Sub W (fun c => c < nb) a5 n5 c5 k5) := hs5
  have HS6 : Hid (Fo.Sub W (fun c => c < nb) a6 n6 c6 k6) := hs6
  have HS7 : Hid (Fo.Sub W (fun c => c < nb) a7 n7 c7 k7) := hs7
  have HS8 : Hid (Fo.Sub W (fun c => c < nb) a8 n8 c8 k8) := hs8
  have Q0 := hide (Bx.new W [.string x0, .slice a1 n1 c1, .int .i64 x2, .string x3, .bool x4, .slice a5 n5 c5, .slice a6 n6 c6, .slice a7 n7 c7, .slice a8 n8 c8] 75)
  clear hs1 hs5 hs6 hs7 hs8
  have HbA := hide bA
  have HzA := hide zA
  clear bA zA
  go_enter Try.func39, Try.ntmps39
  by_cases g0 : left < (x0.size : Int)
  · go_wp2_with fail
    go_ret
    exact ⟨by rw [szV_lt (by omega)]; rfl, HbA.out⟩
  go_wp2_with fail
  have HC1 := sz_R_StringS m k1 n1 nb (left - (x0.size : Int)) (W.alloc (.cells #[.string x0, .slice a1 n1 c1, .int .i64 x2, .string x3, .bool x4, .slice a5 n5 c5, .slice a6 n6 c6, .slice a7 n7 c7, .slice a8 n8 c8] 75)) a1 c1 (by omega) hf1 (by have := HbA.out.size; omega) (by omega) (by omega) (HS1.out.below HbA.out (fun c hc => by omega))
  refine HC1.mono ?_
  clear HC1
  rintro e w1 ⟨rfl, b1⟩
  have B1 := hide (HbA.out.trans (b1.mono HbA.out.size))
  have Q1 := hide (Q0.out.below b1)
  clear b1
  by_cases g1 : left - (x0.size : Int) < (((n1 + k1.wt) : Nat) : Int)
  · rw [szV_lt (by omega)]
    go_wp2_with fail
    go_ret
    exact ⟨by rw [szV_lt (by omega)]; rfl, B1.out⟩
  rw [szV_ge (by omega)]
  obtain ⟨L1, hL1⟩ : ∃ L : Int, left - (x0.size : Int) - (((n1 + k1.wt) : Nat) : Int) = L := ⟨_, rfl⟩
  rw [hL1]
  have HL1 := hide hL1
  have HN1 := hide g1
  have hp1 : 0 ≤ L1 ∧ L1 ≤ 1048576 := by omega
  clear hL1 g1
  have y12 : w1.cell? ⟨W.heap.size, 2, none⟩ = some (.int .i64 x2) := Q1.out.cel 2 _ rfl
  have y13 : w1.cell? ⟨W.heap.size, 3, none⟩ = some (.string x3) := Q1.out.cel 3 _ rfl
  have y14 : w1.cell? ⟨W.heap.size, 4, none⟩ = some (.bool x4) := Q1.out.cel 4 _ rfl
  have y15 : w1.cell? ⟨W.heap.size, 5, none⟩ = some (.slice a5 n5 c5) := Q1.out.cel 5 _ rfl
  have y16 : w1.cell? ⟨W.heap.size, 6, none⟩ = some (.slice a6 n6 c6) := Q1.out.cel 6 _ rfl
  have y17 : w1.cell? ⟨W.heap.size, 7, none⟩ = some (.slice a7 n7 c7) := Q1.out.cel 7 _ rfl
  have y18 : w1.cell? ⟨W.heap.size, 8, none⟩ = some (.slice a8 n8 c8) := Q1.out.cel 8 _ rfl
  go_wp2_with fail
  have HC2 := hcCore (.v (.int .i64 x2) (.v (.string x3) (.v (.bool x4) (.s a5 n5 c5 k5 (.s a6 n6 c6 k6 (.s a7 n7 c7 k7 (.s a8 n8 c8 k8 .nil))))))) nb (L1) w1 (by simp only [Fo.size]; omega) ⟨hx2, hx3, hf5, hf6, hf7, hf8, trivial⟩ (by have := B1.out.size; omega) (by have := HL1.out; have := HN1.out; omega) (by have := HL1.out; have := HN1.out; omega) ⟨(HS5.out.below B1.out (fun c hc => by omega)), (HS6.out.below B1.out (fun c hc => by omega)), (HS7.out.below B1.out (fun c hc => by omega)), (HS8.out.below B1.out (fun c hc => by omega)), trivial⟩
  simp only [Fo.vals, Fo.wt, textSize] at HC2
  refine HC2.mono ?_
  clear HC2
  rintro e w2 ⟨rfl, b2⟩
  have B2 := hide (B1.out.trans (b2.mono B1.out.size))
  have Q2 := hide (Q1.out.below b2)
  clear b2
  by_cases g2 : L1 < ((0 + (x3.size + (0 + (n5 + k5.wt + (n6 + k6.wt + (n7 + k7.wt + (n8 + k8.wt + (0))))))) : Nat) : Int)
  · rw [szV_lt (by have := HL1.out; have := HN1.out; omega)]
    go_wp2_with fail
    go_ret
    exact ⟨by rw [szV_lt (by have := HL1.out; have := HN1.out; omega)]; rfl, B2.out⟩
  rw [szV_ge (by have := HL1.out; have := HN1.out; omega)]
  obtain ⟨L2, hL2⟩ : ∃ L : Int, L1 - ((0 + (x3.size + (0 + (n5 + k5.wt + (n6 + k6.wt + (n7 + k7.wt + (n8 + k8.wt + (0))))))) : Nat) : Int) = L := ⟨_, rfl⟩
  rw [hL2]
  have HL2 := hide hL2
  have HN2 := hide g2
  have hp2 : 0 ≤ L2 ∧ L2 ≤ 1048576 := by have := HL1.out; have := HN1.out; omega
  clear hL2 g2
  go_wp2_with fail
  go_ret
  exact ⟨by rw [szV_ge (by have := HL1.out; have := HN1.out; have := HL2.out; have := HN2.out; omega)]; exact ret_int (by have := HL1.out; have := HN1.out; have := HL2.out; have := HN2.out; omega), B2.out⟩

set_option maxHeartbeats 2000000 in
set_option maxRecDepth 100000 in
theorem sz_R_CoreAltS_of (m : Nat) (h : SzC Try.prog E 39 (E 2) m) : SzR Try.prog E 16 (E 2) m := by
  intro F n nb left W a cap hm hf hn h0 h1 hs
  have hmx : n ≤ 9223372036854775807 := by have h2 := hs.1; have h3 := hs.2.1; simp only [maxLen] at h3; omega
  by_cases hlt : left < n
  · go_enter Try.func16, Try.ntmps16
    go_wp2_with fail
    go_ret
    exact ⟨by rw [szV_lt (by omega)]; rfl, Below.refl _ _⟩
  · have HR := hide (Rd.start hf hs)
    have HM := hide hm
    clear hf hs hm
    go_enter Try.func16, Try.ntmps16
    go_wp2_with fail
    go_loopw [1, 5] (fun s1 s5 wr => ∃ (M : Int) (i : Nat) (r : Fo), s1 = .int .i64 M ∧ s5 = .int .i64 i ∧ 0 ≤ M ∧ M ≤ 1048576 ∧ i ≤ n ∧ Hid (r.size ≤ F.size) ∧ Hid (M + n + F.wt = left + r.wt) ∧ Hid (Rd E (E 2) n nb a i r wr) ∧ Hid (Below W.heap.size W wr)) (fun _ s5 _ => n - (intOf s5).toNat)
    case atStart => exact ⟨left - n, 0, F, rfl, rfl, by omega, by omega, Nat.zero_le _, Nat.le_refl _, (by show (_ : Int) = _; omega), HR, Below.refl _ _⟩
    case round =>
      obtain ⟨M, i, r, rfl, rfl, hM0, hM1, hin, hrs, hMe, hR, hB⟩ := hrel
      by_cases hi : i < n
      · obtain ⟨x, q, b, o, rfl, hx, rfl, hb, hc, hxs, hR1⟩ := hR.out.next hi (by decide)
        have HR1 := hide hR1
        have HE := hMe.out
        have HZ := hrs.out
        rw [Fo.app_size] at HZ
        rw [Fo.app_wt] at HE
        have hbz := hB.out.size
        have hii : (i : Int) < n := by omega
        clear hR hMe hrs hR1
        have HC := hide (h x nb M wr (by have := HM.out; omega) hx (by omega) hM0 hM1 hxs)
        obtain ⟨wx, hwx⟩ : ∃ wx, x.wt = wx := ⟨_, rfl⟩
        rw [hwx] at HE HC
        have HE1 := hide HE
        have HZ1 := hide HZ
        have HBZ := hide hbz
        clear hwx HE HZ hxs hbz
        replace hx : Fit E x [.t, .s 1, .i, .t, .b, .s 0, .s 1, .s 3, .s 2] := hx
        obtain ⟨x0, F0, rfl, hx0, hx⟩ := fit_t hx
        obtain ⟨a1, n1, c1, k1, F1, rfl, hf1, hx⟩ := fit_s hx
        obtain ⟨x2, F2, rfl, hx2, hx⟩ := fit_i hx
        obtain ⟨x3, F3, rfl, hx3, hx⟩ := fit_t hx
        obtain ⟨x4, F4, rfl, hx⟩ := fit_b hx
        obtain ⟨a5, n5, c5, k5, F5, rfl, hf5, hx⟩ := fit_s hx
        obtain ⟨a6, n6, c6, k6, F6, rfl, hf6, hx⟩ := fit_s hx
        obtain ⟨a7, n7, c7, k7, F7, rfl, hf7, hx⟩ := fit_s hx
        obtain ⟨a8, n8, c8, k8, F8, rfl, hf8, hx⟩ := fit_s hx
        obtain rfl := fit_nil hx
        simp only [Fo.vals] at HC hc
        have p0 : wr.cell? ⟨b, o + i * 9, none⟩ = some (.string x0) := hc 0 _ rfl
        have p1 : wr.cell? ⟨b, o + i * 9 + 1, none⟩ = some (.slice a1 n1 c1) := hc 1 _ rfl
        have p2 : wr.cell? ⟨b, o + i * 9 + 2, none⟩ = some (.int .i64 x2) := hc 2 _ rfl
        have p3 : wr.cell? ⟨b, o + i * 9 + 3, none⟩ = some (.string x3) := hc 3 _ rfl
        have p4 : wr.cell? ⟨b, o + i * 9 + 4, none⟩ = some (.bool x4) := hc 4 _ rfl
        have p5 : wr.cell? ⟨b, o + i * 9 + 5, none⟩ = some (.slice a5 n5 c5) := hc 5 _ rfl
        have p6 : wr.cell? ⟨b, o + i * 9 + 6, none⟩ = some (.slice a6 n6 c6) := hc 6 _ rfl
        have p7 : wr.cell? ⟨b, o + i * 9 + 7, none⟩ = some (.slice a7 n7 c7) := hc 7 _ rfl
        have p8 : wr.cell? ⟨b, o + i * 9 + 8, none⟩ = some (.slice a8 n8 c8) := hc 8 _ rfl
        clear hc
        by_cases g : M < (wx : Int)
        · go_wp2_with fail
          refine HC.out.mono ?_
          rintro e w1 ⟨rfl, b1⟩
          rw [szV_lt (by omega)]
          go_wp2_with fail
          go_ret
          exact ⟨by rw [szV_lt (by have := HE1.out; omega)]; rfl, hB.out.trans (b1.mono HBZ.out)⟩
        · go_wp2_with fail
          refine HC.out.mono ?_
          rintro e w1 ⟨rfl, b1⟩
          rw [szV_ge (by omega)]
          have HB1 := hide b1
          clear b1
          go_wp2_with fail
          go_roundw
          case rel => exact ⟨M - wx, i + 1, q, by go_num, by go_num, by omega, by omega, by omega, (by show _ ≤ _; have := HZ1.out; simp only [Fo.size] at this ⊢; omega), (by show (_ : Int) = _; have := HE1.out; omega), HR1.out.below HB1.out (by have := HBZ.out; omega), hB.out.trans (HB1.out.mono HBZ.out)⟩
          case measure => simp [intOf]; omega
      · obtain ⟨rfl, rfl⟩ := hR.out.done hi
        have HE := hMe.out
        simp only [Fo.wt] at HE
        have HE1 := hide HE
        clear HE hMe hR hrs
        go_wp2_with fail
        go_ret
        exact ⟨by rw [szV_ge (by have := HE1.out; omega)]; exact ret_int (by have := HE1.out; omega), hB.out⟩

set_option maxHeartbeats 2000000 in
set_option maxRecDepth 100000 in
theorem sz_C_Core (m : Nat) (hCore : SzR Try.prog E 15 (E 3) m) (hCoreAlt : SzR Try.prog E 16 (E 2) m) : SzC Try.prog E 4 (E 3) (m + 1) := by
  intro F nb left W hm hf hn h0 h1 hs
  replace hf : Fit E F [.i, .t, .b, .s 0, .s 1, .s 3, .s 2] := hf
  obtain ⟨x0, F0, rfl, hx0, hf⟩ := fit_i hf
  obtain ⟨x1, F1, rfl, hx1, hf⟩ := fit_t hf
  obtain ⟨x2, F2, rfl, hf⟩ := fit_b hf
  obtain ⟨a3, n3, c3, k3, F3, rfl, hf3, hf⟩ := fit_s hf
  obtain ⟨a4, n4, c4, k4, F4, rfl, hf4, hf⟩ := fit_s hf
  obtain ⟨a5, n5, c5, k5, F5, rfl, hf5, hf⟩ := fit_s hf
  obtain ⟨a6, n6, c6, k6, F6, rfl, hf6, hf⟩ := fit_s hf
  obtain rfl := fit_nil hf
  obtain ⟨hs3, hs4, hs5, hs6, -⟩ := hs
  simp only [Fo.size] at hm
  simp only [Fo.vals, Fo.wt, textSize]
  have hy1 : x1.size ≤ 9223372036854775807 := by simp only [maxLen] at hx1; omega
  have bA := below_alloc1 W (.cells #[.int .i64 x0, .string x1, .bool x2, .slice a3 n3 c3, .slice a4 n4 c4, .slice a5 n5 c5, .slice a6 n6 c6] 29)
  have zA : (W.alloc (.cells #[.int .i64 x0, .string x1, .bool x2, .slice a3 n3 c3, .slice a4 n4 c4, .slice a5 n5 c5, .slice a6 n6 c6] 29)).heap.size = W.heap.size + 1 := by simp
  have HS3 : Hid (Fo.Sub W (fun c => c < nb) a3 n3 c3 k3) := hs3
  have HS4 : Hid (Fo.Sub W (fun c => c < nb) a4 n4 c4 k4) := hs4
  have HS5 : Hid (Fo.Sub W (fun c => c < nb) a5 n5 c5 k5) := hs5
  have HS6 : Hid (Fo.Sub W (fun c => c < nb) a6 n6 c6 k6) := hs6
  have Q0 := hide (Bx.new W [.int .i64 x0, .string x1, .bool x2, .slice a3 n3 c3, .slice a4 n4 c4, .slice a5 n5 c5, .slice a6 n6 c6] 29)
  clear hs3 hs4 hs5 hs6
  have HbA := hide bA
  have HzA := hide zA
  clear bA zA
  go_enter Try.func4, Try.ntmps4
  by_cases g1 : left < (x1.size : Int)
  · go_wp2_with fail
    go_ret
    exact ⟨by rw [szV_lt (by omega)]; rfl, HbA.out⟩
  go_wp2_with fail
  have HC1 := sz_C_Big m (.v (.bool x2) (.s a3 n3 c3 k3 .nil)) nb (left - (x1.size : Int)) (W.alloc (.cells #[.int .i64 x0, .string x1, .bool x2, .slice a3 n3 c3, .slice a4 n4 c4, .slice a5 n5 c5, .slice a6 n6 c6] 29)) (by simp only [Fo.size]; omega) ⟨hf3, trivial⟩ (by have := HbA.out.size; omega) (by omega) (by omega) ⟨(HS3.out.below HbA.out (fun c hc => by omega)), trivial⟩
  simp only [Fo.vals, Fo.wt, textSize] at HC1
  refine HC1.mono ?_
  clear HC1
  rintro e w1 ⟨rfl, b1⟩
  have B1 := hide (HbA.out.trans (b1.mono HbA.out.size))
  have Q1 := hide (Q0.out.below b1)
  clear b1
  by_cases g2 : left - (x1.size : Int) < ((0 + (n3 + k3.wt + (0)) : Nat) : Int)
  · rw [szV_lt (by omega)]
    go_wp2_with fail
    go_ret
    exact ⟨by rw [szV_lt (by omega)]; rfl, B1.out⟩
  rw [szV_ge (by omega)]
  obtain ⟨L1, hL1⟩ : ∃ L : Int, left - (x1.size : Int) - ((0 + (n3 + k3.wt + (0)) : Nat) : Int) = L := ⟨_, rfl⟩
  rw [hL1]
  have HL1 := hide hL1
  have HN1 := hide g2
  have hp1 : 0 ≤ L1 ∧ L1 ≤ 1048576 := by omega
  clear hL1 g2
  have y14 : w1.cell? ⟨W.heap.size, 4, none⟩ = some (.slice a4 n4 c4) := Q1.out.cel 4 _ rfl
  have y15 : w1.cell? ⟨W.heap.size, 5, none⟩ = some (.slice a5 n5 c5) := Q1.out.cel 5 _ rfl
  have y16 : w1.cell? ⟨W.heap.size, 6, none⟩ = some (.slice a6 n6 c6) := Q1.out.cel 6 _ rfl
  go_wp2_with fail
  have HC2 := sz_R_StringS m k4 n4 nb (L1) w1 a4 c4 (by omega) hf4 (by have := B1.out.size; omega) (by have := HL1.out; have := HN1.out; omega) (by have := HL1.out; have := HN1.out; omega) (HS4.out.below B1.out (fun c hc => by omega))
  refine HC2.mono ?_
  clear HC2
  rintro e w2 ⟨rfl, b2⟩
  have B2 := hide (B1.out.trans (b2.mono B1.out.size))
  have Q2 := hide (Q1.out.below b2)
  clear b2
  by_cases g4 : L1 < (((n4 + k4.wt) : Nat) : Int)
  · rw [szV_lt (by have := HL1.out; have := HN1.out; omega)]
    go_wp2_with fail
    go_ret
    exact ⟨by rw [szV_lt (by have := HL1.out; have := HN1.out; omega)]; rfl, B2.out⟩
  rw [szV_ge (by have := HL1.out; have := HN1.out; omega)]
  obtain ⟨L2, hL2⟩ : ∃ L : Int, L1 - (((n4 + k4.wt) : Nat) : Int) = L := ⟨_, rfl⟩
  rw [hL2]
  have HL2 := hide hL2
  have HN2 := hide g4
  have hp2 : 0 ≤ L2 ∧ L2 ≤ 1048576 := by have := HL1.out; have := HN1.out; omega
  clear hL2 g4
  have y25 : w2.cell? ⟨W.heap.size, 5, none⟩ = some (.slice a5 n5 c5) := Q2.out.cel 5 _ rfl
  have y26 : w2.cell? ⟨W.heap.size, 6, none⟩ = some (.slice a6 n6 c6) := Q2.out.cel 6 _ rfl
  go_wp2_with fail
  have HC3 := hCore k5 n5 nb (L2) w2 a5 c5 (by omega) hf5 (by have := B2.out.size; omega) (by have := HL1.out; have := HN1.out; have := HL2.out; have := HN2.out; omega) (by have := HL1.out; have := HN1.out; have := HL2.out; have := HN2.out; omega) (HS5.out.below B2.out (fun c hc => by omega))
  refine HC3.mono ?_
  clear HC3
  rintro e w3 ⟨rfl, b3⟩
  have B3 := hide (B2.out.trans (b3.mono B2.out.size))
  have Q3 := hide (Q2.out.below b3)
  clear b3
  by_cases g5 : L2 < (((n5 + k5.wt) : Nat) : Int)
  · rw [szV_lt (by have := HL1.out; have := HN1.out; have := HL2.out; have := HN2.out; omega)]
    go_wp2_with fail
    go_ret
    exact ⟨by rw [szV_lt (by have := HL1.out; have := HN1.out; have := HL2.out; have := HN2.out; omega)]; rfl, B3.out⟩
  rw [szV_ge (by have := HL1.out; have := HN1.out; have := HL2.out; have := HN2.out; omega)]
  obtain ⟨L3, hL3⟩ : ∃ L : Int, L2 - (((n5 + k5.wt) : Nat) : Int) = L := ⟨_, rfl⟩
  rw [hL3]
  have HL3 := hide hL3
  have HN3 := hide g5
  have hp3 : 0 ≤ L3 ∧ L3 ≤ 1048576 := by have := HL1.out; have := HN1.out; have := HL2.out; have := HN2.out; omega
  clear hL3 g5
  have y36 : w3.cell? ⟨W.heap.size, 6, none⟩ = some (.slice a6 n6 c6) := Q3.out.cel 6 _ rfl
  go_wp2_with fail
  have HC4 := hCoreAlt k6 n6 nb (L3) w3 a6 c6 (by omega) hf6 (by have := B3.out.size; omega) (by have := HL1.out; have := HN1.out; have := HL2.out; have := HN2.out; have := HL3.out; have := HN3.out; omega) (by have := HL1.out; have := HN1.out; have := HL2.out; have := HN2.out; have := HL3.out; have := HN3.out; omega) (HS6.out.below B3.out (fun c hc => by omega))
  refine HC4.mono ?_
  clear HC4
  rintro e w4 ⟨rfl, b4⟩
  have B4 := hide (B3.out.trans (b4.mono B3.out.size))
  have Q4 := hide (Q3.out.below b4)
  clear b4
  by_cases g6 : L3 < (((n6 + k6.wt) : Nat) : Int)
  · rw [szV_lt (by have := HL1.out; have := HN1.out; have := HL2.out; have := HN2.out; have := HL3.out; have := HN3.out; omega)]
    go_wp2_with fail
    go_ret
    exact ⟨by rw [szV_lt (by have := HL1.out; have := HN1.out; have := HL2.out; have := HN2.out; have := HL3.out; have := HN3.out; omega)]; rfl, B4.out⟩
  rw [szV_ge (by have := HL1.out; have := HN1.out; have := HL2.out; have := HN2.out; have := HL3.out; have := HN3.out; omega)]
  obtain ⟨L4, hL4⟩ : ∃ L : Int, L3 - (((n6 + k6.wt) : Nat) : Int) = L := ⟨_, rfl⟩
  rw [hL4]
  have HL4 := hide hL4
  have HN4 := hide g6
  have hp4 : 0 ≤ L4 ∧ L4 ≤ 1048576 := by have := HL1.out; have := HN1.out; have := HL2.out; have := HN2.out; have := HL3.out; have := HN3.out; omega
  clear hL4 g6
  go_wp2_with fail
  go_ret
  exact ⟨by rw [szV_ge (by have := HL1.out; have := HN1.out; have := HL2.out; have := HN2.out; have := HL3.out; have := HN3.out; have := HL4.out; have := HN4.out; omega)]; exact ret_int (by have := HL1.out; have := HN1.out; have := HL2.out; have := HN2.out; have := HL3.out; have := HN3.out; have := HL4.out; have := HN4.out; omega), B4.out⟩

set_option maxHeartbeats 2000000 in
set_option maxRecDepth 100000 in
theorem sz_R_CoreS_of (m : Nat) (h : SzC Try.prog E 4 (E 3) m) : SzR Try.prog E 15 (E 3) m := by
  intro F n nb left W a cap hm hf hn h0 h1 hs
  have hmx : n ≤ 9223372036854775807 := by have h2 := hs.1; have h3 := hs.2.1; simp only [maxLen] at h3; omega
  by_cases hlt : left < n
  · go_enter Try.func15, Try.ntmps15
    go_wp2_with fail
    go_ret
    exact ⟨by rw [szV_lt (by omega)]; rfl, Below.refl _ _⟩
  · have HR := hide (Rd.start hf hs)
    have HM := hide hm
    clear hf hs hm
    go_enter Try.func15, Try.ntmps15
    go_wp2_with fail
    go_loopw [1, 5] (fun s1 s5 wr => ∃ (M : Int) (i : Nat) (r : Fo), s1 = .int .i64 M ∧ s5 = .int .i64 i ∧ 0 ≤ M ∧ M ≤ 1048576 ∧ i ≤ n ∧ Hid (r.size ≤ F.size) ∧ Hid (M + n + F.wt = left + r.wt) ∧ Hid (Rd E (E 3) n nb a i r wr) ∧ Hid (Below W.heap.size W wr)) (fun _ s5 _ => n - (intOf s5).toNat)
    case atStart => exact ⟨left - n, 0, F, rfl, rfl, by omega, by omega, Nat.zero_le _, Nat.le_refl _, (by show (_ : Int) = _; omega), HR, Below.refl _ _⟩
    case round =>
      obtain ⟨M, i, r, rfl, rfl, hM0, hM1, hin, hrs, hMe, hR, hB⟩ := hrel
      by_cases hi : i < n
      · obtain ⟨x, q, b, o, rfl, hx, rfl, hb, hc, hxs, hR1⟩ := hR.out.next hi (by decide)
        have HR1 := hide hR1
        have HE := hMe.out
        have HZ := hrs.out
        rw [Fo.app_size] at HZ
        rw [Fo.app_wt] at HE
        have hbz := hB.out.size
        have hii : (i : Int) < n := by omega
        clear hR hMe hrs hR1
        have HC := hide (h x nb M wr (by have := HM.out; omega) hx (by omega) hM0 hM1 hxs)
        obtain ⟨wx, hwx⟩ : ∃ wx, x.wt = wx := ⟨_, rfl⟩
        rw [hwx] at HE HC
        have HE1 := hide HE
        have HZ1 := hide HZ
        have HBZ := hide hbz
        clear hwx HE HZ hxs hbz
        replace hx : Fit E x [.i, .t, .b, .s 0, .s 1, .s 3, .s 2] := hx
        obtain ⟨x0, F0, rfl, hx0, hx⟩ := fit_i hx
        obtain ⟨x1, F1, rfl, hx1, hx⟩ := fit_t hx
        obtain ⟨x2, F2, rfl, hx⟩ := fit_b hx
        obtain ⟨a3, n3, c3, k3, F3, rfl, hf3, hx⟩ := fit_s hx
        obtain ⟨a4, n4, c4, k4, F4, rfl, hf4, hx⟩ := fit_s hx
        obtain ⟨a5, n5, c5, k5, F5, rfl, hf5, hx⟩ := fit_s hx
        obtain ⟨a6, n6, c6, k6, F6, rfl, hf6, hx⟩ := fit_s hx
        obtain rfl := fit_nil hx
        simp only [Fo.vals] at HC hc
        have p0 : wr.cell? ⟨b, o + i * 7, none⟩ = some (.int .i64 x0) := hc 0 _ rfl
        have p1 : wr.cell? ⟨b, o + i * 7 + 1, none⟩ = some (.string x1) := hc 1 _ rfl
        have p2 : wr.cell? ⟨b, o + i * 7 + 2, none⟩ = some (.bool x2) := hc 2 _ rfl
        have p3 : wr.cell? ⟨b, o + i * 7 + 3, none⟩ = some (.slice a3 n3 c3) := hc 3 _ rfl
        have p4 : wr.cell? ⟨b, o + i * 7 + 4, none⟩ = some (.slice a4 n4 c4) := hc 4 _ rfl
        have p5 : wr.cell? ⟨b, o + i * 7 + 5, none⟩ = some (.slice a5 n5 c5) := hc 5 _ rfl
        have p6 : wr.cell? ⟨b, o + i * 7 + 6, none⟩ = some (.slice a6 n6 c6) := hc 6 _ rfl
        clear hc
        by_cases g : M < (wx : Int)
        · go_wp2_with fail
          refine HC.out.mono ?_
          rintro e w1 ⟨rfl, b1⟩
          rw [szV_lt (by omega)]
          go_wp2_with fail
          go_ret
          exact ⟨by rw [szV_lt (by have := HE1.out; omega)]; rfl, hB.out.trans (b1.mono HBZ.out)⟩
        · go_wp2_with fail
          refine HC.out.mono ?_
          rintro e w1 ⟨rfl, b1⟩
          rw [szV_ge (by omega)]
          have HB1 := hide b1
          clear b1
          go_wp2_with fail
          go_roundw
          case rel => exact ⟨M - wx, i + 1, q, by go_num, by go_num, by omega, by omega, by omega, (by show _ ≤ _; have := HZ1.out; simp only [Fo.size] at this ⊢; omega), (by show (_ : Int) = _; have := HE1.out; omega), HR1.out.below HB1.out (by have := HBZ.out; omega), hB.out.trans (HB1.out.mono HBZ.out)⟩
          case measure => simp [intOf]; omega
      · obtain ⟨rfl, rfl⟩ := hR.out.done hi
        have HE := hMe.out
        simp only [Fo.wt] at HE
        have HE1 := hide HE
        clear HE hMe hR hrs
        go_wp2_with fail
        go_ret
        exact ⟨by rw [szV_ge (by have := HE1.out; omega)]; exact ret_int (by have := HE1.out; omega), hB.out⟩

theorem sz_group_CoreAlt : ∀ m : Nat, (SzC Try.prog E 39 (E 2) m ∧ SzR Try.prog E 16 (E 2) m) ∧ (SzC Try.prog E 4 (E 3) m ∧ SzR Try.prog E 15 (E 3) m)
  | 0 => by
    have cCoreAlt : SzC Try.prog E 39 (E 2) 0 := (fun F _ _ _ hm hf => absurd (Fit.len hf) (by have := F.len_le; show ¬ F.len = 9; omega))
    have rCoreAlt := sz_R_CoreAltS_of 0 cCoreAlt
    have cCore : SzC Try.prog E 4 (E 3) 0 := (fun F _ _ _ hm hf => absurd (Fit.len hf) (by have := F.len_le; show ¬ F.len = 7; omega))
    have rCore := sz_R_CoreS_of 0 cCore
    exact ⟨⟨cCoreAlt, rCoreAlt⟩, ⟨cCore, rCore⟩⟩
  | m + 1 => by
    have ih := sz_group_CoreAlt m
    have cCore := sz_C_Core m ih.2.2 ih.1.2 
    have rCore := sz_R_CoreS_of (m + 1) cCore
    have cCoreAlt := sz_C_CoreAlt (m + 1) cCore
    have rCoreAlt := sz_R_CoreAltS_of (m + 1) cCoreAlt
    exact ⟨⟨cCoreAlt, rCoreAlt⟩, ⟨cCore, rCore⟩⟩
theorem sz_R_CoreAltS (m : Nat) : SzR Try.prog E 16 (E 2) m := (sz_group_CoreAlt m).1.2
theorem sz_C_CoreAlt_all (m : Nat) : SzC Try.prog E 39 (E 2) m := (sz_group_CoreAlt m).1.1
theorem sz_R_CoreS (m : Nat) : SzR Try.prog E 15 (E 3) m := (sz_group_CoreAlt m).2.2
theorem sz_C_Core_all (m : Nat) : SzC Try.prog E 4 (E 3) m := (sz_group_CoreAlt m).2.1
end Go.Proofs.Ytcnokpaicnjkfaa
