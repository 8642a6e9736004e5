import Derived.Test.YtjlefdalobgdfaaKa
namespace Go.Proofs.Ytjlefdalobgdfaa.U
open Go.RowKit Go.Joins

set_option maxHeartbeats 2000000 in
set_option maxRecDepth 100000 in
theorem sz_C_Type (m : Nat) (h : SzR Try.prog E 43 (E 0) m) : SzC Try.prog E 9 (E 0) (m + 1) := by
  intro F nb left W hm hf hn h0 h1 hs
  replace hf : Fit E F [.i, .i, .t, .s 0] := hf
  obtain ⟨x0, F0, rfl, hx0, hf⟩ := fit_i hf
  obtain ⟨x1, F1, rfl, hx1, hf⟩ := fit_i hf
  obtain ⟨x2, F2, rfl, hx2, hf⟩ := fit_t hf
  obtain ⟨a3, n3, c3, k3, F3, rfl, hf3, hf⟩ := fit_s hf
  obtain rfl := fit_nil hf
  obtain ⟨hs3, -⟩ := hs
  simp only [Fo.size] at hm
  simp only [Fo.vals, Fo.wt, textSize]
  have hy2 : x2.size ≤ 9223372036854775807 := by simp only [maxLen] at hx2; omega
  have bA := below_alloc1 W (.cells #[.int .i64 x0, .int .i64 x1, .string x2, .slice a3 n3 c3] 24)
  have zA : (W.alloc (.cells #[.int .i64 x0, .int .i64 x1, .string x2, .slice a3 n3 c3] 24)).heap.size = W.heap.size + 1 := by simp
  have HS3 : Hid (Fo.Sub W (fun c => c < nb) a3 n3 c3 k3) := hs3
  have Q0 := hide (Bx.new W [.int .i64 x0, .int .i64 x1, .string x2, .slice a3 n3 c3] 24)
  clear hs3
  have HbA := hide bA
  have HzA := hide zA
  clear bA zA
  go_enter Try.func9, Try.ntmps9
  by_cases g2 : left < (x2.size : Int)
  · go_wp2_with fail
    go_ret
    exact ⟨by rw [szV_lt (by omega)]; rfl, HbA.out⟩
  go_wp2_with fail
  have HC1 := h k3 n3 nb (left - (x2.size : Int)) (W.alloc (.cells #[.int .i64 x0, .int .i64 x1, .string x2, .slice a3 n3 c3] 24)) a3 c3 (by omega) hf3 (by have := HbA.out.size; omega) (by omega) (by omega) (HS3.out.below HbA.out (fun c hc => by omega))
  refine HC1.mono ?_
  clear HC1
  rintro e w1 ⟨rfl, b1⟩
  have B1 := hide (HbA.out.trans (b1.mono HbA.out.size))
  have Q1 := hide (Q0.out.below b1)
  clear b1
  by_cases g3 : left - (x2.size : Int) < (((n3 + k3.wt) : Nat) : Int)
  · rw [szV_lt (by omega)]
    go_wp2_with fail
    go_ret
    exact ⟨by rw [szV_lt (by omega)]; rfl, B1.out⟩
  rw [szV_ge (by omega)]
  go_wp2_with fail
  go_ret
  exact ⟨by rw [szV_ge (by omega)]; exact ret_int (by omega), B1.out⟩

set_option maxHeartbeats 2000000 in
set_option maxRecDepth 100000 in
theorem sz_R_TypeS_of (m : Nat) (h : SzC Try.prog E 9 (E 0) m) : SzR Try.prog E 43 (E 0) m := by
  intro F n nb left W a cap hm hf hn h0 h1 hs
  have hmx : n ≤ 9223372036854775807 := by have h2 := hs.1; have h3 := hs.2.1; simp only [maxLen] at h3; omega
  by_cases hlt : left < n
  · go_enter Try.func43, Try.ntmps43
    go_wp2_with fail
    go_ret
    exact ⟨by rw [szV_lt (by omega)]; rfl, Below.refl _ _⟩
  · have HR := hide (Rd.start hf hs)
    have HM := hide hm
    clear hf hs hm
    go_enter Try.func43, Try.ntmps43
    go_wp2_with fail
    go_loopw [1, 5] (fun s1 s5 wr => ∃ (M : Int) (i : Nat) (r : Fo), s1 = .int .i64 M ∧ s5 = .int .i64 i ∧ 0 ≤ M ∧ M ≤ 1048576 ∧ i ≤ n ∧ Hid (r.size ≤ F.size) ∧ Hid (M + n + F.wt = left + r.wt) ∧ Hid (Rd E (E 0) n nb a i r wr) ∧ Hid (Below W.heap.size W wr)) (fun _ s5 _ => n - (intOf s5).toNat)
    case atStart => exact ⟨left - n, 0, F, rfl, rfl, by omega, by omega, Nat.zero_le _, Nat.le_refl _, (by show (_ : Int) = _; omega), HR, Below.refl _ _⟩
    case round =>
      obtain ⟨M, i, r, rfl, rfl, hM0, hM1, hin, hrs, hMe, hR, hB⟩ := hrel
      by_cases hi : i < n
      · obtain ⟨x, q, b, o, rfl, hx, rfl, hb, hc, hxs, hR1⟩ := hR.out.next hi (by decide)
        have HR1 := hide hR1
        have HE := hMe.out
        have HZ := hrs.out
        rw [Fo.app_size] at HZ
        rw [Fo.app_wt] at HE
        have hbz := hB.out.size
        have hii : (i : Int) < n := by omega
        clear hR hMe hrs hR1
        have HC := hide (h x nb M wr (by have := HM.out; omega) hx (by omega) hM0 hM1 hxs)
        obtain ⟨wx, hwx⟩ : ∃ wx, x.wt = wx := ⟨_, rfl⟩
        rw [hwx] at HE HC
        have HE1 := hide HE
        have HZ1 := hide HZ
        have HBZ := hide hbz
        clear hwx HE HZ hxs hbz
        replace hx : Fit E x [.i, .i, .t, .s 0] := hx
        obtain ⟨x0, F0, rfl, hx0, hx⟩ := fit_i hx
        obtain ⟨x1, F1, rfl, hx1, hx⟩ := fit_i hx
        obtain ⟨x2, F2, rfl, hx2, hx⟩ := fit_t hx
        obtain ⟨a3, n3, c3, k3, F3, rfl, hf3, hx⟩ := fit_s hx
        obtain rfl := fit_nil hx
        simp only [Fo.vals] at HC hc
        have p0 : wr.cell? ⟨b, o + i * 4, none⟩ = some (.int .i64 x0) := hc 0 _ rfl
        have p1 : wr.cell? ⟨b, o + i * 4 + 1, none⟩ = some (.int .i64 x1) := hc 1 _ rfl
        have p2 : wr.cell? ⟨b, o + i * 4 + 2, none⟩ = some (.string x2) := hc 2 _ rfl
        have p3 : wr.cell? ⟨b, o + i * 4 + 3, none⟩ = some (.slice a3 n3 c3) := hc 3 _ rfl
        clear hc
        by_cases g : M < (wx : Int)
        · go_wp2_with fail
          refine HC.out.mono ?_
          rintro e w1 ⟨rfl, b1⟩
          rw [szV_lt (by omega)]
          go_wp2_with fail
          go_ret
          exact ⟨by rw [szV_lt (by have := HE1.out; omega)]; rfl, hB.out.trans (b1.mono HBZ.out)⟩
        · go_wp2_with fail
          refine HC.out.mono ?_
          rintro e w1 ⟨rfl, b1⟩
          rw [szV_ge (by omega)]
          have HB1 := hide b1
          clear b1
          go_wp2_with fail
          go_roundw
          case rel => exact ⟨M - wx, i + 1, q, by go_num, by go_num, by omega, by omega, by omega, (by show _ ≤ _; have := HZ1.out; simp only [Fo.size] at this ⊢; omega), (by show (_ : Int) = _; have := HE1.out; omega), HR1.out.below HB1.out (by have := HBZ.out; omega), hB.out.trans (HB1.out.mono HBZ.out)⟩
          case measure => simp [intOf]; omega
      · obtain ⟨rfl, rfl⟩ := hR.out.done hi
        have HE := hMe.out
        simp only [Fo.wt] at HE
        have HE1 := hide HE
        clear HE hMe hR hrs
        go_wp2_with fail
        go_ret
        exact ⟨by rw [szV_ge (by have := HE1.out; omega)]; exact ret_int (by have := HE1.out; omega), hB.out⟩

theorem sz_both_Type : ∀ m, SzC Try.prog E 9 (E 0) m ∧ SzR Try.prog E 43 (E 0) m
  | 0 => have c : SzC Try.prog E 9 (E 0) 0 := (fun F _ _ _ hm hf => absurd (Fit.len hf) (by have := F.len_le; show ¬ F.len = 4; omega)); ⟨c, sz_R_TypeS_of 0 c⟩
  | m + 1 => have c := sz_C_Type m (sz_both_Type m).2; ⟨c, sz_R_TypeS_of (m + 1) c⟩
theorem sz_R_TypeS (m : Nat) : SzR Try.prog E 43 (E 0) m := (sz_both_Type m).2
theorem sz_C_Type_all (m : Nat) : SzC Try.prog E 9 (E 0) m := (sz_both_Type m).1
set_option maxHeartbeats 2000000 in
set_option maxRecDepth 100000 in
theorem sz_C_Bind (m : Nat) : SzC Try.prog E 52 (E 1) m := by
  intro F nb left W hm hf hn h0 h1 hs
  replace hf : Fit E F [.i, .i, .i, .t, .s 0] := hf
  obtain ⟨x0, F0, rfl, hx0, hf⟩ := fit_i hf
  obtain ⟨x1, F1, rfl, hx1, hf⟩ := fit_i hf
  obtain ⟨x2, F2, rfl, hx2, hf⟩ := fit_i hf
  obtain ⟨x3, F3, rfl, hx3, hf⟩ := fit_t hf
  obtain ⟨a4, n4, c4, k4, F4, rfl, hf4, hf⟩ := fit_s hf
  obtain rfl := fit_nil hf
  obtain ⟨hs4, -⟩ := hs
  simp only [Fo.size] at hm
  simp only [Fo.vals, Fo.wt, textSize]
  have hy3 : x3.size ≤ 9223372036854775807 := by simp only [maxLen] at hx3; omega
  have bA := below_alloc1 W (.cells #[.int .i64 x0, .int .i64 x1, .int .i64 x2, .string x3, .slice a4 n4 c4] 88)
  have zA : (W.alloc (.cells #[.int .i64 x0, .int .i64 x1, .int .i64 x2, .string x3, .slice a4 n4 c4] 88)).heap.size = W.heap.size + 1 := by simp
  have HS4 : Hid (Fo.Sub W (fun c => c < nb) a4 n4 c4 k4) := hs4
  have Q0 := hide (Bx.new W [.int .i64 x0, .int .i64 x1, .int .i64 x2, .string x3, .slice a4 n4 c4] 88)
  clear hs4
  have HbA := hide bA
  have HzA := hide zA
  clear bA zA
  go_enter Try.func52, Try.ntmps52
  go_wp2_with fail
  have HC1 := sz_C_Type_all m (.v (.int .i64 x1) (.v (.int .i64 x2) (.v (.string x3) (.s a4 n4 c4 k4 .nil)))) nb (left) (W.alloc (.cells #[.int .i64 x0, .int .i64 x1, .int .i64 x2, .string x3, .slice a4 n4 c4] 88)) (by simp only [Fo.size]; omega) ⟨hx1, hx2, hx3, hf4, trivial⟩ (by have := HbA.out.size; omega) (by omega) (by omega) ⟨(HS4.out.below HbA.out (fun c hc => by omega)), trivial⟩
  simp only [Fo.vals, Fo.wt, textSize] at HC1
  refine HC1.mono ?_
  clear HC1
  rintro e w1 ⟨rfl, b1⟩
  have B1 := hide (HbA.out.trans (b1.mono HbA.out.size))
  have Q1 := hide (Q0.out.below b1)
  clear b1
  by_cases g1 : left < ((0 + (0 + (x3.size + (n4 + k4.wt + (0)))) : Nat) : Int)
  · rw [szV_lt (by omega)]
    go_wp2_with fail
    go_ret
    exact ⟨by rw [szV_lt (by omega)]; rfl, B1.out⟩
  rw [szV_ge (by omega)]
  go_wp2_with fail
  go_ret
  exact ⟨by rw [szV_ge (by omega)]; exact ret_int (by omega), B1.out⟩

set_option maxHeartbeats 2000000 in
set_option maxRecDepth 100000 in
theorem sz_R_BindS_of (m : Nat) (h : SzC Try.prog E 52 (E 1) m) : SzR Try.prog E 22 (E 1) m := by
  intro F n nb left W a cap hm hf hn h0 h1 hs
  have hmx : n ≤ 9223372036854775807 := by have h2 := hs.1; have h3 := hs.2.1; simp only [maxLen] at h3; omega
  by_cases hlt : left < n
  · go_enter Try.func22, Try.ntmps22
    go_wp2_with fail
    go_ret
    exact ⟨by rw [szV_lt (by omega)]; rfl, Below.refl _ _⟩
  · have HR := hide (Rd.start hf hs)
    have HM := hide hm
    clear hf hs hm
    go_enter Try.func22, Try.ntmps22
    go_wp2_with fail
    go_loopw [1, 5] (fun s1 s5 wr => ∃ (M : Int) (i : Nat) (r : Fo), s1 = .int .i64 M ∧ s5 = .int .i64 i ∧ 0 ≤ M ∧ M ≤ 1048576 ∧ i ≤ n ∧ Hid (r.size ≤ F.size) ∧ Hid (M + n + F.wt = left + r.wt) ∧ Hid (Rd E (E 1) n nb a i r wr) ∧ Hid (Below W.heap.size W wr)) (fun _ s5 _ => n - (intOf s5).toNat)
    case atStart => exact ⟨left - n, 0, F, rfl, rfl, by omega, by omega, Nat.zero_le _, Nat.le_refl _, (by show (_ : Int) = _; omega), HR, Below.refl _ _⟩
    case round =>
      obtain ⟨M, i, r, rfl, rfl, hM0, hM1, hin, hrs, hMe, hR, hB⟩ := hrel
      by_cases hi : i < n
      · obtain ⟨x, q, b, o, rfl, hx, rfl, hb, hc, hxs, hR1⟩ := hR.out.next hi (by decide)
        have HR1 := hide hR1
        have HE := hMe.out
        have HZ := hrs.out
        rw [Fo.app_size] at HZ
        rw [Fo.app_wt] at HE
        have hbz := hB.out.size
        have hii : (i : Int) < n := by omega
        clear hR hMe hrs hR1
        have HC := hide (h x nb M wr (by have := HM.out; omega) hx (by omega) hM0 hM1 hxs)
        obtain ⟨wx, hwx⟩ : ∃ wx, x.wt = wx := ⟨_, rfl⟩
        rw [hwx] at HE HC
        have HE1 := hide HE
        have HZ1 := hide HZ
        have HBZ := hide hbz
        clear hwx HE HZ hxs hbz
        replace hx : Fit E x [.i, .i, .i, .t, .s 0] := hx
        obtain ⟨x0, F0, rfl, hx0, hx⟩ := fit_i hx
        obtain ⟨x1, F1, rfl, hx1, hx⟩ := fit_i hx
        obtain ⟨x2, F2, rfl, hx2, hx⟩ := fit_i hx
        obtain ⟨x3, F3, rfl, hx3, hx⟩ := fit_t hx
        obtain ⟨a4, n4, c4, k4, F4, rfl, hf4, hx⟩ := fit_s hx
        obtain rfl := fit_nil hx
        simp only [Fo.vals] at HC hc
        have p0 : wr.cell? ⟨b, o + i * 5, none⟩ = some (.int .i64 x0) := hc 0 _ rfl
        have p1 : wr.cell? ⟨b, o + i * 5 + 1, none⟩ = some (.int .i64 x1) := hc 1 _ rfl
        have p2 : wr.cell? ⟨b, o + i * 5 + 2, none⟩ = some (.int .i64 x2) := hc 2 _ rfl
        have p3 : wr.cell? ⟨b, o + i * 5 + 3, none⟩ = some (.string x3) := hc 3 _ rfl
        have p4 : wr.cell? ⟨b, o + i * 5 + 4, none⟩ = some (.slice a4 n4 c4) := hc 4 _ rfl
        clear hc
        by_cases g : M < (wx : Int)
        · go_wp2_with fail
          refine HC.out.mono ?_
          rintro e w1 ⟨rfl, b1⟩
          rw [szV_lt (by omega)]
          go_wp2_with fail
          go_ret
          exact ⟨by rw [szV_lt (by have := HE1.out; omega)]; rfl, hB.out.trans (b1.mono HBZ.out)⟩
        · go_wp2_with fail
          refine HC.out.mono ?_
          rintro e w1 ⟨rfl, b1⟩
          rw [szV_ge (by omega)]
          have HB1 := hide b1
          clear b1
          go_wp2_with fail
          go_roundw
          case rel => exact ⟨M - wx, i + 1, q, by go_num, by go_num, by omega, by omega, by omega, (by show _ ≤ _; have := HZ1.out; simp only [Fo.size] at this ⊢; omega), (by show (_ : Int) = _; have := HE1.out; omega), HR1.out.below HB1.out (by have := HBZ.out; omega), hB.out.trans (HB1.out.mono HBZ.out)⟩
          case measure => simp [intOf]; omega
      · obtain ⟨rfl, rfl⟩ := hR.out.done hi
        have HE := hMe.out
        simp only [Fo.wt] at HE
        have HE1 := hide HE
        clear HE hMe hR hrs
        go_wp2_with fail
        go_ret
        exact ⟨by rw [szV_ge (by have := HE1.out; omega)]; exact ret_int (by have := HE1.out; omega), hB.out⟩

theorem sz_R_BindS (m : Nat) : SzR Try.prog E 22 (E 1) m := sz_R_BindS_of m (sz_C_Bind m)
set_option maxHeartbeats 2000000 in
set_option maxRecDepth 100000 in
theorem sz_C_Pred (m : Nat) : SzC Try.prog E 63 (E 2) m := by
  intro F nb left W hm hf hn h0 h1 hs
  replace hf : Fit E F [.t, .i] := hf
  obtain ⟨x0, F0, rfl, hx0, hf⟩ := fit_t hf
  obtain ⟨x1, F1, rfl, hx1, hf⟩ := fit_i hf
  obtain rfl := fit_nil hf
  clear hs
  simp only [Fo.size] at hm
  simp only [Fo.vals, Fo.wt, textSize]
  have hy0 : x0.size ≤ 9223372036854775807 := by simp only [maxLen] at hx0; omega
  have bA := below_alloc1 W (.cells #[.string x0, .int .i64 x1] 112)
  have zA : (W.alloc (.cells #[.string x0, .int .i64 x1] 112)).heap.size = W.heap.size + 1 := by simp
  have Q0 := hide (Bx.new W [.string x0, .int .i64 x1] 112)
  have HbA := hide bA
  have HzA := hide zA
  clear bA zA
  go_enter Try.func63, Try.ntmps63
  by_cases g0 : left < (x0.size : Int)
  · go_wp2_with fail
    go_ret
    exact ⟨by rw [szV_lt (by omega)]; rfl, HbA.out⟩
  go_wp2_with fail
  go_ret
  exact ⟨by rw [szV_ge (by omega)]; exact ret_int (by omega), HbA.out⟩

set_option maxHeartbeats 2000000 in
set_option maxRecDepth 100000 in
theorem sz_R_PredS_of (m : Nat) (h : SzC Try.prog E 63 (E 2) m) : SzR Try.prog E 29 (E 2) m := by
  intro F n nb left W a cap hm hf hn h0 h1 hs
  have hmx : n ≤ 9223372036854775807 := by have h2 := hs.1; have h3 := hs.2.1; simp only [maxLen] at h3; omega
  by_cases hlt : left < n
  · go_enter Try.func29, Try.ntmps29
    go_wp2_with fail
    go_ret
    exact ⟨by rw [szV_lt (by omega)]; rfl, Below.refl _ _⟩
  · have HR := hide (Rd.start hf hs)
    have HM := hide hm
    clear hf hs hm
    go_enter Try.func29, Try.ntmps29
    go_wp2_with fail
    go_loopw [1, 5] (fun s1 s5 wr => ∃ (M : Int) (i : Nat) (r : Fo), s1 = .int .i64 M ∧ s5 = .int .i64 i ∧ 0 ≤ M ∧ M ≤ 1048576 ∧ i ≤ n ∧ Hid (r.size ≤ F.size) ∧ Hid (M + n + F.wt = left + r.wt) ∧ Hid (Rd E (E 2) n nb a i r wr) ∧ Hid (Below W.heap.size W wr)) (fun _ s5 _ => n - (intOf s5).toNat)
    case atStart => exact ⟨left - n, 0, F, rfl, rfl, by omega, by omega, Nat.zero_le _, Nat.le_refl _, (by show (_ : Int) = _; omega), HR, Below.refl _ _⟩
    case round =>
      obtain ⟨M, i, r, rfl, rfl, hM0, hM1, hin, hrs, hMe, hR, hB⟩ := hrel
      by_cases hi : i < n
      · obtain ⟨x, q, b, o, rfl, hx, rfl, hb, hc, hxs, hR1⟩ := hR.out.next hi (by decide)
        have HR1 := hide hR1
        have HE := hMe.out
        have HZ := hrs.out
        rw [Fo.app_size] at HZ
        rw [Fo.app_wt] at HE
        have hbz := hB.out.size
        have hii : (i : Int) < n := by omega
        clear hR hMe hrs hR1
        have HC := hide (h x nb M wr (by have := HM.out; omega) hx (by omega) hM0 hM1 hxs)
        obtain ⟨wx, hwx⟩ : ∃ wx, x.wt = wx := ⟨_, rfl⟩
        rw [hwx] at HE HC
        have HE1 := hide HE
        have HZ1 := hide HZ
        have HBZ := hide hbz
        clear hwx HE HZ hxs hbz
        replace hx : Fit E x [.t, .i] := hx
        obtain ⟨x0, F0, rfl, hx0, hx⟩ := fit_t hx
        obtain ⟨x1, F1, rfl, hx1, hx⟩ := fit_i hx
        obtain rfl := fit_nil hx
        simp only [Fo.vals] at HC hc
        have p0 : wr.cell? ⟨b, o + i * 2, none⟩ = some (.string x0) := hc 0 _ rfl
        have p1 : wr.cell? ⟨b, o + i * 2 + 1, none⟩ = some (.int .i64 x1) := hc 1 _ rfl
        clear hc
        by_cases g : M < (wx : Int)
        · go_wp2_with fail
          refine HC.out.mono ?_
          rintro e w1 ⟨rfl, b1⟩
          rw [szV_lt (by omega)]
          go_wp2_with fail
          go_ret
          exact ⟨by rw [szV_lt (by have := HE1.out; omega)]; rfl, hB.out.trans (b1.mono HBZ.out)⟩
        · go_wp2_with fail
          refine HC.out.mono ?_
          rintro e w1 ⟨rfl, b1⟩
          rw [szV_ge (by omega)]
          have HB1 := hide b1
          clear b1
          go_wp2_with fail
          go_roundw
          case rel => exact ⟨M - wx, i + 1, q, by go_num, by go_num, by omega, by omega, by omega, (by show _ ≤ _; have := HZ1.out; simp only [Fo.size] at this ⊢; omega), (by show (_ : Int) = _; have := HE1.out; omega), HR1.out.below HB1.out (by have := HBZ.out; omega), hB.out.trans (HB1.out.mono HBZ.out)⟩
          case measure => simp [intOf]; omega
      · obtain ⟨rfl, rfl⟩ := hR.out.done hi
        have HE := hMe.out
        simp only [Fo.wt] at HE
        have HE1 := hide HE
        clear HE hMe hR hrs
        go_wp2_with fail
        go_ret
        exact ⟨by rw [szV_ge (by have := HE1.out; omega)]; exact ret_int (by have := HE1.out; omega), hB.out⟩

theorem sz_R_PredS (m : Nat) : SzR Try.prog E 29 (E 2) m := sz_R_PredS_of m (sz_C_Pred m)
set_option maxHeartbeats 2000000 in
set_option maxRecDepth 100000 in
theorem sz_C_Scheme (m : Nat) : SzC Try.prog E 39 [.i, .s 2, .i, .i, .t, .s 0] m := by
  intro F nb left W hm hf hn h0 h1 hs
  obtain ⟨x0, F0, rfl, hx0, hf⟩ := fit_i hf
  obtain ⟨a1, n1, c1, k1, F1, rfl, hf1, hf⟩ := fit_s hf
  obtain ⟨x2, F2, rfl, hx2, hf⟩ := fit_i hf
  obtain ⟨x3, F3, rfl, hx3, hf⟩ := fit_i hf
  obtain ⟨x4, F4, rfl, hx4, hf⟩ := fit_t hf
  obtain ⟨a5, n5, c5, k5, F5, rfl, hf5, hf⟩ := fit_s hf
  obtain rfl := fit_nil hf
  obtain ⟨hs1, hs5, -⟩ := hs
  simp only [Fo.size] at hm
  simp only [Fo.vals, Fo.wt, textSize]
  have hy4 : x4.size ≤ 9223372036854775807 := by simp only [maxLen] at hx4; omega
  have bA := below_alloc1 W (.cells #[.int .i64 x0, .slice a1 n1 c1, .int .i64 x2, .int .i64 x3, .string x4, .slice a5 n5 c5] 61)
  have zA : (W.alloc (.cells #[.int .i64 x0, .slice a1 n1 c1, .int .i64 x2, .int .i64 x3, .string x4, .slice a5 n5 c5] 61)).heap.size = W.heap.size + 1 := by simp
  have HS1 : Hid (Fo.Sub W (fun c => c < nb) a1 n1 c1 k1) := hs1
  have HS5 : Hid (Fo.Sub W (fun c => c < nb) a5 n5 c5 k5) := hs5
  have Q0 := hide (Bx.new W [.int .i64 x0, .slice a1 n1 c1, .int .i64 x2, .int .i64 x3, .string x4, .slice a5 n5 c5] 61)
  clear hs1 hs5
  have HbA := hide bA
  have HzA := hide zA
  clear bA zA
  go_enter Try.func39, Try.ntmps39
  go_wp2_with fail
  have HC1 := sz_R_PredS m k1 n1 nb (left) (W.alloc (.cells #[.int .i64 x0, .slice a1 n1 c1, .int .i64 x2, .int .i64 x3, .string x4, .slice a5 n5 c5] 61)) a1 c1 (by omega) hf1 (by have := HbA.out.size; omega) (by omega) (by omega) (HS1.out.below HbA.out (fun c hc => by omega))
  refine HC1.mono ?_
  clear HC1
  rintro e w1 ⟨rfl, b1⟩
  have B1 := hide (HbA.out.trans (b1.mono HbA.out.size))
  have Q1 := hide (Q0.out.below b1)
  clear b1
  by_cases g1 : left < (((n1 + k1.wt) : Nat) : Int)
  · rw [szV_lt (by omega)]
    go_wp2_with fail
    go_ret
    exact ⟨by rw [szV_lt (by omega)]; rfl, B1.out⟩
  rw [szV_ge (by omega)]
  have y12 : w1.cell? ⟨W.heap.size, 2, none⟩ = some (.int .i64 x2) := Q1.out.cel 2 _ rfl
  have y13 : w1.cell? ⟨W.heap.size, 3, none⟩ = some (.int .i64 x3) := Q1.out.cel 3 _ rfl
  have y14 : w1.cell? ⟨W.heap.size, 4, none⟩ = some (.string x4) := Q1.out.cel 4 _ rfl
  have y15 : w1.cell? ⟨W.heap.size, 5, none⟩ = some (.slice a5 n5 c5) := Q1.out.cel 5 _ rfl
  go_wp2_with fail
  have HC2 := sz_C_Type_all m (.v (.int .i64 x2) (.v (.int .i64 x3) (.v (.string x4) (.s a5 n5 c5 k5 .nil)))) nb (left - (((n1 + k1.wt) : Nat) : Int)) w1 (by simp only [Fo.size]; omega) ⟨hx2, hx3, hx4, hf5, trivial⟩ (by have := B1.out.size; omega) (by omega) (by omega) ⟨(HS5.out.below B1.out (fun c hc => by omega)), trivial⟩
  simp only [Fo.vals, Fo.wt, textSize] at HC2
  refine HC2.mono ?_
  clear HC2
  rintro e w2 ⟨rfl, b2⟩
  have B2 := hide (B1.out.trans (b2.mono B1.out.size))
  have Q2 := hide (Q1.out.below b2)
  clear b2
  by_cases g2 : left - (((n1 + k1.wt) : Nat) : Int) < ((0 + (0 + (x4.size + (n5 + k5.wt + (0)))) : Nat) : Int)
  · rw [szV_lt (by omega)]
    go_wp2_with fail
    go_ret
    exact ⟨by rw [szV_lt (by omega)]; rfl, B2.out⟩
  rw [szV_ge (by omega)]
  go_wp2_with fail
  go_ret
  exact ⟨by rw [szV_ge (by omega)]; exact ret_int (by omega), B2.out⟩

end Go.Proofs.Ytjlefdalobgdfaa.U
