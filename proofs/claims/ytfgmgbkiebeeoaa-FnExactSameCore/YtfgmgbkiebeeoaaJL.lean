import Derived.Test.YtfgmgbkiebeeoaaKe
namespace Go.Proofs.Ytfgmgbkiebeeoaa
open Go.RowKit Go.Joins

set_option maxHeartbeats 2000000 in
set_option maxRecDepth 100000 in
theorem eq_R_StringS (m : Nat) : EqR Try.prog E 25 (E 1) m := by
  intro F G n nb W a b cap dap hm hf hn hsim hs ht
  have hmx : n ≤ 9223372036854775807 := by have h2 := hs.1; have h3 := hs.2.1; simp only [maxLen] at h3; omega
  have HR := hide (Rd.start hf hs)
  have HR' := hide (Rd.start (hsim.fit hf) ht)
  have HM := hide hm
  have HSI := hide hsim
  clear hf hs hm ht hsim
  go_enter Try.func25, Try.ntmps25
  go_wp2_with fail
  go_loopw [5] (fun s5 wr => ∃ (i : Nat) (r q : Fo), s5 = .int .i64 i ∧ i ≤ n ∧ Hid (r.size ≤ F.size) ∧ Hid (q.sim r) ∧ Hid (Rd E (E 1) n nb a i r wr) ∧ Hid (Rd E (E 1) n nb b i q wr) ∧ Hid (Below W.heap.size W wr)) (fun s5 _ => n - (intOf s5).toNat)
  case atStart => exact ⟨0, F, G, rfl, Nat.zero_le _, Nat.le_refl _, HSI, HR, HR', Below.refl _ _⟩
  case round =>
    obtain ⟨i, r, q, rfl, hin, hrs, hrq, hR, hR', hB⟩ := hrel
    by_cases hi : i < n
    · obtain ⟨x, rr, g, o, rfl, hx, rfl, hg, hc, hxs, hR1⟩ := hR.out.next hi (by decide)
      obtain ⟨y, qq, g', o', rfl, hy, rfl, hg', hc', hys, hR1'⟩ := hR'.out.next hi (by decide)
      have HR1 := hide hR1
      have HR1' := hide hR1'
      obtain ⟨hxy, hqr⟩ := Fo.sim.split (x := x) (y := y) (by rw [Fit.len hx, Fit.len hy]) hrq.out
      have HQ := hide hqr
      have HZ := hrs.out
      rw [Fo.app_size] at HZ
      have hbz := hB.out.size
      have hii : (i : Int) < n := by omega
      clear hR hR' hR1 hR1' hrs hrq hqr hy
      replace hx : Fit E x [.t] := hx
      obtain ⟨x0, F0, rfl, hx0, hx⟩ := fit_t hx
      obtain rfl := fit_nil hx
      obtain ⟨u0, rfl, s_1⟩ := Fo.sim_v hxy
      obtain rfl := Fo.sim_nil s_1
      have p0 : wr.cell? ⟨g, o + i * 1, none⟩ = some (.string x0) := hc 0 _ rfl
      have p1 : wr.cell? ⟨g', o' + i * 1, none⟩ = some (.string x0) := hc' 0 _ rfl
      rw [Nat.mul_one] at p0 p1
      have HZ1 := hide HZ
      have HBZ := hide hbz
      have hd0 : Hid (Below wr.heap.size wr wr.drew) := (Below.refl _ wr).drew
      clear hc hc' hxs hys HZ hbz hxy s_1
      go_wp2_with fail
      go_region
      all_goals
        go_wp2_with fail
        go_roundw
        case rel => exact ⟨i + 1, rr, qq, by go_num, by omega, (by show _ ≤ _; have := HZ1.out; omega), HQ, HR1.out.below hd0.out (by have := HBZ.out; omega), HR1'.out.below hd0.out (by have := HBZ.out; omega), hB.out.trans (hd0.out.mono HBZ.out)⟩
        case measure => simp [intOf]; omega
    · obtain ⟨-, rfl⟩ := hR.out.done hi
      clear hR hR' hrs hrq
      go_wp2_with fail
      go_ret
      exact ⟨rfl, hB.out⟩

end Go.Proofs.Ytfgmgbkiebeeoaa

namespace Go.Proofs.Ytfgmgbkiebeeoaa
open Go.RowKit Go.Joins

set_option maxHeartbeats 2000000 in
set_option maxRecDepth 100000 in
theorem eq_R_Uint32S (m : Nat) : EqR Try.prog E 47 (E 0) m := by
  intro F G n nb W a b cap dap hm hf hn hsim hs ht
  have hmx : n ≤ 9223372036854775807 := by have h2 := hs.1; have h3 := hs.2.1; simp only [maxLen] at h3; omega
  have HR := hide (Rd.start hf hs)
  have HR' := hide (Rd.start (hsim.fit hf) ht)
  have HM := hide hm
  have HSI := hide hsim
  clear hf hs hm ht hsim
  go_enter Try.func47, Try.ntmps47
  go_wp2_with fail
  go_loopw [5] (fun s5 wr => ∃ (i : Nat) (r q : Fo), s5 = .int .i64 i ∧ i ≤ n ∧ Hid (r.size ≤ F.size) ∧ Hid (q.sim r) ∧ Hid (Rd E (E 0) n nb a i r wr) ∧ Hid (Rd E (E 0) n nb b i q wr) ∧ Hid (Below W.heap.size W wr)) (fun s5 _ => n - (intOf s5).toNat)
  case atStart => exact ⟨0, F, G, rfl, Nat.zero_le _, Nat.le_refl _, HSI, HR, HR', Below.refl _ _⟩
  case round =>
    obtain ⟨i, r, q, rfl, hin, hrs, hrq, hR, hR', hB⟩ := hrel
    by_cases hi : i < n
    · obtain ⟨x, rr, g, o, rfl, hx, rfl, hg, hc, hxs, hR1⟩ := hR.out.next hi (by decide)
      obtain ⟨y, qq, g', o', rfl, hy, rfl, hg', hc', hys, hR1'⟩ := hR'.out.next hi (by decide)
      have HR1 := hide hR1
      have HR1' := hide hR1'
      obtain ⟨hxy, hqr⟩ := Fo.sim.split (x := x) (y := y) (by rw [Fit.len hx, Fit.len hy]) hrq.out
      have HQ := hide hqr
      have HZ := hrs.out
      rw [Fo.app_size] at HZ
      have hbz := hB.out.size
      have hii : (i : Int) < n := by omega
      clear hR hR' hR1 hR1' hrs hrq hqr hy
      replace hx : Fit E x [.u] := hx
      obtain ⟨x0, F0, rfl, hx0, hx⟩ := fit_u hx
      obtain rfl := fit_nil hx
      obtain ⟨u0, rfl, s_1⟩ := Fo.sim_v hxy
      obtain rfl := Fo.sim_nil s_1
      have p0 : wr.cell? ⟨g, o + i * 1, none⟩ = some (.int .u32 x0) := hc 0 _ rfl
      have p1 : wr.cell? ⟨g', o' + i * 1, none⟩ = some (.int .u32 x0) := hc' 0 _ rfl
      rw [Nat.mul_one] at p0 p1
      have HZ1 := hide HZ
      have HBZ := hide hbz
      have hd0 : Hid (Below wr.heap.size wr wr.drew) := (Below.refl _ wr).drew
      clear hc hc' hxs hys HZ hbz hxy s_1
      go_wp2_with fail
      go_region
      all_goals
        go_wp2_with fail
        go_roundw
        case rel => exact ⟨i + 1, rr, qq, by go_num, by omega, (by show _ ≤ _; have := HZ1.out; omega), HQ, HR1.out.below hd0.out (by have := HBZ.out; omega), HR1'.out.below hd0.out (by have := HBZ.out; omega), hB.out.trans (hd0.out.mono HBZ.out)⟩
        case measure => simp [intOf]; omega
    · obtain ⟨-, rfl⟩ := hR.out.done hi
      clear hR hR' hrs hrq
      go_wp2_with fail
      go_ret
      exact ⟨rfl, hB.out⟩

end Go.Proofs.Ytfgmgbkiebeeoaa

namespace Go.Proofs.Ytfgmgbkiebeeoaa
open Go.RowKit Go.Joins

set_option maxHeartbeats 2000000 in
set_option maxRecDepth 100000 in
theorem eq_C_Big (m : Nat) : EqC Try.prog E 24 [.b, .s 0] m := by
  intro F G nb W hm hf hn hsim hs ht
  obtain ⟨x0, F0, rfl, hf⟩ := fit_b hf
  obtain ⟨a1, n1, c1, k1, F1, rfl, hf1, hf⟩ := fit_s hf
  obtain rfl := fit_nil hf
  obtain ⟨u0, rfl, s_1⟩ := Fo.sim_v hsim
  obtain ⟨d1, e1, t1, u1, rfl, r1, s_2⟩ := Fo.sim_s s_1
  obtain rfl := Fo.sim_nil s_2
  clear hsim s_1 s_2
  obtain ⟨hs1, -⟩ := hs
  obtain ⟨ht1, -⟩ := ht
  simp only [Fo.size] at hm
  simp only [Fo.vals]
  have HS1 : Hid (Fo.Sub W (fun c => c < nb) a1 n1 c1 k1) := hs1
  have HT1 : Hid (Fo.Sub W (fun c => c < nb) d1 n1 e1 t1) := ht1
  clear hs1 ht1
  obtain ⟨w0, hV0⟩ : ∃ V0, (W.alloc (.cells #[.bool x0, .slice a1 n1 c1] 32)).alloc (.cells #[.bool x0, .slice d1 n1 e1] 32) = V0 := ⟨_, rfl⟩
  have HB0 : Hid (Below W.heap.size W w0) := by rw [← hV0]; exact below_alloc2 _ _ _
  have Q0 : Hid (Bx w0 W.heap.size [.bool x0, .slice a1 n1 c1]) := by
    rw [← hV0]
    exact (Bx.new _ _ _).kept (Kept.alloc (fun _ => True) _ _) trivial
  have R0 : Hid (Bx w0 (W.heap.size + 1) [.bool x0, .slice d1 n1 e1]) := by
    rw [← hV0]
    have := Bx.new (W.alloc (.cells #[.bool x0, .slice a1 n1 c1] 32)) [.bool x0, .slice d1 n1 e1] 32
    rwa [World.size_alloc] at this
  have HV0 := hide hV0
  clear hV0
  go_enter Try.func24, Try.ntmps24
  go_wp2_with fail
  rw [HV0.out]
  clear HV0
  have HC1 := eq_R_Uint32S m k1 t1 n1 nb w0 a1 d1 c1 e1 (by omega) hf1 (by have := HB0.out.size; omega) r1 (HS1.out.below HB0.out (fun c hc => by omega)) (HT1.out.below HB0.out (fun c hc => by omega))
  refine HC1.mono ?_
  clear HC1
  rintro e w1 ⟨rfl, b1⟩
  have HB1 := hide (HB0.out.trans (b1.mono HB0.out.size))
  have Q1 := hide (Q0.out.below b1)
  have R1 := hide (R0.out.below b1)
  clear b1
  go_wp2_with fail
  go_ret
  exact ⟨rfl, HB1.out⟩

end Go.Proofs.Ytfgmgbkiebeeoaa

namespace Go.Proofs.Ytfgmgbkiebeeoaa
open Go.RowKit Go.Joins

set_option maxHeartbeats 2000000 in
set_option maxRecDepth 100000 in
theorem eq_C_CoreAlt (m : Nat) (hcCore : EqC Try.prog E 9 (E 3) m) : EqC Try.prog E 48 (E 2) m := by
  intro F G nb W hm hf hn hsim hs ht
  replace hf : Fit E F [.t, .s 1, .i, .t, .b, .s 0, .s 1, .s 3, .s 2] := hf
  obtain ⟨x0, F0, rfl, hx0, hf⟩ := fit_t hf
  obtain ⟨a1, n1, c1, k1, F1, rfl, hf1, hf⟩ := fit_s hf
  obtain ⟨x2, F2, rfl, hx2, hf⟩ := fit_i hf
  obtain ⟨x3, F3, rfl, hx3, hf⟩ := fit_t hf
  obtain ⟨x4, F4, rfl, hf⟩ := fit_b hf
  obtain ⟨a5, n5, c5, k5, F5, rfl, hf5, hf⟩ := fit_s hf
  obtain ⟨a6, n6, c6, k6, F6, rfl, hf6, hf⟩ := fit_s hf
  obtain ⟨a7, n7, c7, k7, F7, rfl, hf7, hf⟩ := fit_s hf
  obtain ⟨a8, n8, c8, k8, F8, rfl, hf8, hf⟩ := fit_s hf
  obtain rfl := fit_nil hf
  obtain ⟨u0, rfl, s_1⟩ := Fo.sim_v hsim
  obtain ⟨d1, e1, t1, u1, rfl, r1, s_2⟩ := Fo.sim_s s_1
  obtain ⟨u2, rfl, s_3⟩ := Fo.sim_v s_2
  obtain ⟨u3, rfl, s_4⟩ := Fo.sim_v s_3
  obtain ⟨u4, rfl, s_5⟩ := Fo.sim_v s_4
  obtain ⟨d5, e5, t5, u5, rfl, r5, s_6⟩ := Fo.sim_s s_5
  obtain ⟨d6, e6, t6, u6, rfl, r6, s_7⟩ := Fo.sim_s s_6
  obtain ⟨d7, e7, t7, u7, rfl, r7, s_8⟩ := Fo.sim_s s_7
  obtain ⟨d8, e8, t8, u8, rfl, r8, s_9⟩ := Fo.sim_s s_8
  obtain rfl := Fo.sim_nil s_9
  clear hsim s_1 s_2 s_3 s_4 s_5 s_6 s_7 s_8 s_9
  obtain ⟨hs1, hs5, hs6, hs7, hs8, -⟩ := hs
  obtain ⟨ht1, ht5, ht6, ht7, ht8, -⟩ := ht
  simp only [Fo.size] at hm
  simp only [Fo.vals]
  have HS1 : Hid (Fo.Sub W (fun c => c < nb) a1 n1 c1 k1) := hs1
  have HT1 : Hid (Fo.Sub W (fun c => c < nb) d1 n1 e1 t1) := ht1
  have HS5 : Hid (Fo.Sub W (fun c => c < nb) a5 n5 c5 k5) := hs5
  have HT5 : Hid (Fo.Sub W (fun c => c < nb) d5 n5 e5 t5) := ht5
  have HS6 : Hid (Fo.Sub W (fun c => c < nb) a6 n6 c6 k6) := hs6
  have HT6 : Hid (Fo.Sub W (fun c => c < nb) d6 n6 e6 t6) := ht6
  have HS7 : Hid (Fo.Sub W (fun c => c < nb) a7 n7 c7 k7) := hs7
  have HT7 : Hid (Fo.Sub W (fun c => c < nb) d7 n7 e7 t7) := ht7
  have HS8 : Hid (Fo.Sub W (fun c => c < nb) a8 n8 c8 k8) := hs8
  have HT8 : Hid (Fo.Sub W (fun c => c < nb) d8 n8 e8 t8) := ht8
  clear hs1 ht1 hs5 ht5 hs6 ht6 hs7 ht7 hs8 ht8
  obtain ⟨w0, hV0⟩ : ∃ V0, (W.alloc (.cells #[.string x0, .slice a1 n1 c1, .int .i64 x2, .string x3, .bool x4, .slice a5 n5 c5, .slice a6 n6 c6, .slice a7 n7 c7, .slice a8 n8 c8] 46)).alloc (.cells #[.string x0, .slice d1 n1 e1, .int .i64 x2, .string x3, .bool x4, .slice d5 n5 e5, .slice d6 n6 e6, .slice d7 n7 e7, .slice d8 n8 e8] 46) = V0 := ⟨_, rfl⟩
  have HB0 : Hid (Below W.heap.size W w0) := by rw [← hV0]; exact below_alloc2 _ _ _
  have Q0 : Hid (Bx w0 W.heap.size [.string x0, .slice a1 n1 c1, .int .i64 x2, .string x3, .bool x4, .slice a5 n5 c5, .slice a6 n6 c6, .slice a7 n7 c7, .slice a8 n8 c8]) := by
    rw [← hV0]
    exact (Bx.new _ _ _).kept (Kept.alloc (fun _ => True) _ _) trivial
  have R0 : Hid (Bx w0 (W.heap.size + 1) [.string x0, .slice d1 n1 e1, .int .i64 x2, .string x3, .bool x4, .slice d5 n5 e5, .slice d6 n6 e6, .slice d7 n7 e7, .slice d8 n8 e8]) := by
    rw [← hV0]
    have := Bx.new (W.alloc (.cells #[.string x0, .slice a1 n1 c1, .int .i64 x2, .string x3, .bool x4, .slice a5 n5 c5, .slice a6 n6 c6, .slice a7 n7 c7, .slice a8 n8 c8] 46)) [.string x0, .slice d1 n1 e1, .int .i64 x2, .string x3, .bool x4, .slice d5 n5 e5, .slice d6 n6 e6, .slice d7 n7 e7, .slice d8 n8 e8] 46
    rwa [World.size_alloc] at this
  have HV0 := hide hV0
  clear hV0
  go_enter Try.func48, Try.ntmps48
  go_wp2_with fail
  rw [HV0.out]
  clear HV0
  have HC1 := eq_R_StringS m k1 t1 n1 nb w0 a1 d1 c1 e1 (by omega) hf1 (by have := HB0.out.size; omega) r1 (HS1.out.below HB0.out (fun c hc => by omega)) (HT1.out.below HB0.out (fun c hc => by omega))
  refine HC1.mono ?_
  clear HC1
  rintro e w1 ⟨rfl, b1⟩
  have HB1 := hide (HB0.out.trans (b1.mono HB0.out.size))
  have Q1 := hide (Q0.out.below b1)
  have R1 := hide (R0.out.below b1)
  clear b1
  have y12 : w1.cell? ⟨W.heap.size, 2, none⟩ = some (.int .i64 x2) := Q1.out.cel 2 _ rfl
  have Y12 : w1.cell? ⟨W.heap.size + 1, 2, none⟩ = some (.int .i64 x2) := R1.out.cel 2 _ rfl
  have y13 : w1.cell? ⟨W.heap.size, 3, none⟩ = some (.string x3) := Q1.out.cel 3 _ rfl
  have Y13 : w1.cell? ⟨W.heap.size + 1, 3, none⟩ = some (.string x3) := R1.out.cel 3 _ rfl
  have y14 : w1.cell? ⟨W.heap.size, 4, none⟩ = some (.bool x4) := Q1.out.cel 4 _ rfl
  have Y14 : w1.cell? ⟨W.heap.size + 1, 4, none⟩ = some (.bool x4) := R1.out.cel 4 _ rfl
  have y15 : w1.cell? ⟨W.heap.size, 5, none⟩ = some (.slice a5 n5 c5) := Q1.out.cel 5 _ rfl
  have Y15 : w1.cell? ⟨W.heap.size + 1, 5, none⟩ = some (.slice d5 n5 e5) := R1.out.cel 5 _ rfl
  have y16 : w1.cell? ⟨W.heap.size, 6, none⟩ = some (.slice a6 n6 c6) := Q1.out.cel 6 _ rfl
  have Y16 : w1.cell? ⟨W.heap.size + 1, 6, none⟩ = some (.slice d6 n6 e6) := R1.out.cel 6 _ rfl
  have y17 : w1.cell? ⟨W.heap.size, 7, none⟩ = some (.slice a7 n7 c7) := Q1.out.cel 7 _ rfl
  have Y17 : w1.cell? ⟨W.heap.size + 1, 7, none⟩ = some (.slice d7 n7 e7) := R1.out.cel 7 _ rfl
  have y18 : w1.cell? ⟨W.heap.size, 8, none⟩ = some (.slice a8 n8 c8) := Q1.out.cel 8 _ rfl
  have Y18 : w1.cell? ⟨W.heap.size + 1, 8, none⟩ = some (.slice d8 n8 e8) := R1.out.cel 8 _ rfl
  go_wp2_with fail
  have HC2 := hcCore (.v (.int .i64 x2) (.v (.string x3) (.v (.bool x4) (.s a5 n5 c5 k5 (.s a6 n6 c6 k6 (.s a7 n7 c7 k7 (.s a8 n8 c8 k8 .nil))))))) (.v (.int .i64 x2) (.v (.string x3) (.v (.bool x4) (.s d5 n5 e5 t5 (.s d6 n6 e6 t6 (.s d7 n7 e7 t7 (.s d8 n8 e8 t8 .nil))))))) nb w1 (by simp only [Fo.size]; omega) ⟨hx2, hx3, hf5, hf6, hf7, hf8, trivial⟩ (by have := HB1.out.size; omega) ⟨rfl, rfl, rfl, rfl, r5, rfl, r6, rfl, r7, rfl, r8, trivial⟩ ⟨(HS5.out.below HB1.out (fun c hc => by omega)), (HS6.out.below HB1.out (fun c hc => by omega)), (HS7.out.below HB1.out (fun c hc => by omega)), (HS8.out.below HB1.out (fun c hc => by omega)), trivial⟩ ⟨(HT5.out.below HB1.out (fun c hc => by omega)), (HT6.out.below HB1.out (fun c hc => by omega)), (HT7.out.below HB1.out (fun c hc => by omega)), (HT8.out.below HB1.out (fun c hc => by omega)), trivial⟩
  simp only [Fo.vals] at HC2
  refine HC2.mono ?_
  clear HC2
  rintro e w2 ⟨rfl, b2⟩
  have HB2 := hide (HB1.out.trans (b2.mono HB1.out.size))
  have Q2 := hide (Q1.out.below b2)
  have R2 := hide (R1.out.below b2)
  clear b2
  go_wp2_with fail
  go_ret
  exact ⟨rfl, HB2.out⟩

set_option maxHeartbeats 2000000 in
set_option maxRecDepth 100000 in
theorem eq_R_CoreAltS_of (m : Nat) (h : EqC Try.prog E 48 (E 2) m) : EqR Try.prog E 27 (E 2) m := by
  intro F G n nb W a b cap dap hm hf hn hsim hs ht
  have hmx : n ≤ 9223372036854775807 := by have h2 := hs.1; have h3 := hs.2.1; simp only [maxLen] at h3; omega
  have HR := hide (Rd.start hf hs)
  have HR' := hide (Rd.start (hsim.fit hf) ht)
  have HM := hide hm
  have HSI := hide hsim
  clear hf hs hm ht hsim
  go_enter Try.func27, Try.ntmps27
  go_wp2_with fail
  go_loopw [5] (fun s5 wr => ∃ (i : Nat) (r q : Fo), s5 = .int .i64 i ∧ i ≤ n ∧ Hid (r.size ≤ F.size) ∧ Hid (q.sim r) ∧ Hid (Rd E (E 2) n nb a i r wr) ∧ Hid (Rd E (E 2) n nb b i q wr) ∧ Hid (Below W.heap.size W wr)) (fun s5 _ => n - (intOf s5).toNat)
  case atStart => exact ⟨0, F, G, rfl, Nat.zero_le _, Nat.le_refl _, HSI, HR, HR', Below.refl _ _⟩
  case round =>
    obtain ⟨i, r, q, rfl, hin, hrs, hrq, hR, hR', hB⟩ := hrel
    by_cases hi : i < n
    · obtain ⟨x, rr, g, o, rfl, hx, rfl, hg, hc, hxs, hR1⟩ := hR.out.next hi (by decide)
      obtain ⟨y, qq, g', o', rfl, hy, rfl, hg', hc', hys, hR1'⟩ := hR'.out.next hi (by decide)
      have HR1 := hide hR1
      have HR1' := hide hR1'
      obtain ⟨hxy, hqr⟩ := Fo.sim.split (x := x) (y := y) (by rw [Fit.len hx, Fit.len hy]) hrq.out
      have HQ := hide hqr
      have HZ := hrs.out
      rw [Fo.app_size] at HZ
      have hbz := hB.out.size
      have hii : (i : Int) < n := by omega
      clear hR hR' hR1 hR1' hrs hrq hqr hy
      replace hx : Fit E x [.t, .s 1, .i, .t, .b, .s 0, .s 1, .s 3, .s 2] := hx
      have HC : Hid (∀ V, Below wr.heap.size wr V → Calls Try.prog 48 #[.agg x.vals.toArray, .agg y.vals.toArray] V fun e W' => e = .returned (.bool true) ∧ Below V.heap.size V W') := fun V bV => h x y nb V (by have := HM.out; omega) hx (by have := bV.size; omega) hxy (hxs.below bV (fun c hc => by omega)) (hys.below bV (fun c hc => by omega))
      have HZ1 := hide HZ
      have HBZ := hide hbz
      clear HZ hbz hxs hys
      obtain ⟨x0, F0, rfl, hx0, hx⟩ := fit_t hx
      obtain ⟨a1, n1, c1, k1, F1, rfl, hf1, hx⟩ := fit_s hx
      obtain ⟨x2, F2, rfl, hx2, hx⟩ := fit_i hx
      obtain ⟨x3, F3, rfl, hx3, hx⟩ := fit_t hx
      obtain ⟨x4, F4, rfl, hx⟩ := fit_b hx
      obtain ⟨a5, n5, c5, k5, F5, rfl, hf5, hx⟩ := fit_s hx
      obtain ⟨a6, n6, c6, k6, F6, rfl, hf6, hx⟩ := fit_s hx
      obtain ⟨a7, n7, c7, k7, F7, rfl, hf7, hx⟩ := fit_s hx
      obtain ⟨a8, n8, c8, k8, F8, rfl, hf8, hx⟩ := fit_s hx
      obtain rfl := fit_nil hx
      obtain ⟨u0, rfl, s_1⟩ := Fo.sim_v hxy
      obtain ⟨d1, e1, t1, u1, rfl, r1, s_2⟩ := Fo.sim_s s_1
      obtain ⟨u2, rfl, s_3⟩ := Fo.sim_v s_2
      obtain ⟨u3, rfl, s_4⟩ := Fo.sim_v s_3
      obtain ⟨u4, rfl, s_5⟩ := Fo.sim_v s_4
      obtain ⟨d5, e5, t5, u5, rfl, r5, s_6⟩ := Fo.sim_s s_5
      obtain ⟨d6, e6, t6, u6, rfl, r6, s_7⟩ := Fo.sim_s s_6
      obtain ⟨d7, e7, t7, u7, rfl, r7, s_8⟩ := Fo.sim_s s_7
      obtain ⟨d8, e8, t8, u8, rfl, r8, s_9⟩ := Fo.sim_s s_8
      obtain rfl := Fo.sim_nil s_9
      clear hxy s_1 s_2 s_3 s_4 s_5 s_6 s_7 s_8 s_9
      simp only [Fo.vals] at HC hc hc'
      have HS : Hid (∀ V, Below wr.heap.size wr V → V.cell? ⟨g, o + i * 9, none⟩ = some (.string x0) ∧ V.cell? ⟨g, o + i * 9 + 1, none⟩ = some (.slice a1 n1 c1) ∧ V.cell? ⟨g, o + i * 9 + 2, none⟩ = some (.int .i64 x2) ∧ V.cell? ⟨g, o + i * 9 + 3, none⟩ = some (.string x3) ∧ V.cell? ⟨g, o + i * 9 + 4, none⟩ = some (.bool x4) ∧ V.cell? ⟨g, o + i * 9 + 5, none⟩ = some (.slice a5 n5 c5) ∧ V.cell? ⟨g, o + i * 9 + 6, none⟩ = some (.slice a6 n6 c6) ∧ V.cell? ⟨g, o + i * 9 + 7, none⟩ = some (.slice a7 n7 c7) ∧ V.cell? ⟨g, o + i * 9 + 8, none⟩ = some (.slice a8 n8 c8) ∧ V.cell? ⟨g', o' + i * 9, none⟩ = some (.string x0) ∧ V.cell? ⟨g', o' + i * 9 + 1, none⟩ = some (.slice d1 n1 e1) ∧ V.cell? ⟨g', o' + i * 9 + 2, none⟩ = some (.int .i64 x2) ∧ V.cell? ⟨g', o' + i * 9 + 3, none⟩ = some (.string x3) ∧ V.cell? ⟨g', o' + i * 9 + 4, none⟩ = some (.bool x4) ∧ V.cell? ⟨g', o' + i * 9 + 5, none⟩ = some (.slice d5 n5 e5) ∧ V.cell? ⟨g', o' + i * 9 + 6, none⟩ = some (.slice d6 n6 e6) ∧ V.cell? ⟨g', o' + i * 9 + 7, none⟩ = some (.slice d7 n7 e7) ∧ V.cell? ⟨g', o' + i * 9 + 8, none⟩ = some (.slice d8 n8 e8)) := fun V bV => by
        have h1 := hc.below bV (by have := HBZ.out; omega)
        have h2 := hc'.below bV (by have := HBZ.out; omega)
        exact ⟨h1 0 _ rfl, h1 1 _ rfl, h1 2 _ rfl, h1 3 _ rfl, h1 4 _ rfl, h1 5 _ rfl, h1 6 _ rfl, h1 7 _ rfl, h1 8 _ rfl, h2 0 _ rfl, h2 1 _ rfl, h2 2 _ rfl, h2 3 _ rfl, h2 4 _ rfl, h2 5 _ rfl, h2 6 _ rfl, h2 7 _ rfl, h2 8 _ rfl⟩
      clear hc hc'
      have hd0 : Hid (Below wr.heap.size wr wr.drew) := (Below.refl _ wr).drew
      have kk0 := HS.out wr.drew hd0.out
      have kk00 := HS.out wr (Below.refl _ _)
      have HC0 := hide (HC.out wr.drew hd0.out)
      obtain ⟨p0, p1, p2, p3, p4, p5, p6, p7, p8, p9, p10, p11, p12, p13, p14, p15, p16, p17⟩ := kk00
      clear HC
      go_wp2_with fail
      go_region_held3 (fun V => V.cell? ⟨g, o + i * 9, none⟩ = some (.string x0) ∧ V.cell? ⟨g, o + i * 9 + 1, none⟩ = some (.slice a1 n1 c1) ∧ V.cell? ⟨g, o + i * 9 + 2, none⟩ = some (.int .i64 x2) ∧ V.cell? ⟨g, o + i * 9 + 3, none⟩ = some (.string x3) ∧ V.cell? ⟨g, o + i * 9 + 4, none⟩ = some (.bool x4) ∧ V.cell? ⟨g, o + i * 9 + 5, none⟩ = some (.slice a5 n5 c5) ∧ V.cell? ⟨g, o + i * 9 + 6, none⟩ = some (.slice a6 n6 c6) ∧ V.cell? ⟨g, o + i * 9 + 7, none⟩ = some (.slice a7 n7 c7) ∧ V.cell? ⟨g, o + i * 9 + 8, none⟩ = some (.slice a8 n8 c8) ∧ V.cell? ⟨g', o' + i * 9, none⟩ = some (.string x0) ∧ V.cell? ⟨g', o' + i * 9 + 1, none⟩ = some (.slice d1 n1 e1) ∧ V.cell? ⟨g', o' + i * 9 + 2, none⟩ = some (.int .i64 x2) ∧ V.cell? ⟨g', o' + i * 9 + 3, none⟩ = some (.string x3) ∧ V.cell? ⟨g', o' + i * 9 + 4, none⟩ = some (.bool x4) ∧ V.cell? ⟨g', o' + i * 9 + 5, none⟩ = some (.slice d5 n5 e5) ∧ V.cell? ⟨g', o' + i * 9 + 6, none⟩ = some (.slice d6 n6 e6) ∧ V.cell? ⟨g', o' + i * 9 + 7, none⟩ = some (.slice d7 n7 e7) ∧ V.cell? ⟨g', o' + i * 9 + 8, none⟩ = some (.slice d8 n8 e8))
        (first | with_reducible exact kk1 | with_reducible exact kk0)
        (first | (go_at_call 48; refine HC0.out.mono ?_; rintro e w1 ⟨rfl, b1⟩; have HB1 : Hid (Below wr.heap.size wr w1) := hd0.out.trans b1; have kk1 := HS.out w1 HB1.out; clear b1))
      all_goals
        go_wp2_with fail
        go_roundw
        case rel => exact ⟨i + 1, rr, qq, by go_num, by omega, (by show _ ≤ _; have := HZ1.out; omega), HQ, HR1.out.below HB1.out (by have := HBZ.out; omega), HR1'.out.below HB1.out (by have := HBZ.out; omega), hB.out.trans (HB1.out.mono HBZ.out)⟩
        case measure => simp [intOf]; omega
    · obtain ⟨-, rfl⟩ := hR.out.done hi
      clear hR hR' hrs hrq
      go_wp2_with fail
      go_ret
      exact ⟨rfl, hB.out⟩

set_option maxHeartbeats 2000000 in
set_option maxRecDepth 100000 in
theorem eq_C_Core (m : Nat) (hCore : EqR Try.prog E 26 (E 3) m) (hCoreAlt : EqR Try.prog E 27 (E 2) m) : EqC Try.prog E 9 (E 3) (m + 1) := by
  intro F G nb W hm hf hn hsim hs ht
  replace hf : Fit E F [.i, .t, .b, .s 0, .s 1, .s 3, .s 2] := hf
  obtain ⟨x0, F0, rfl, hx0, hf⟩ := fit_i hf
  obtain ⟨x1, F1, rfl, hx1, hf⟩ := fit_t hf
  obtain ⟨x2, F2, rfl, hf⟩ := fit_b hf
  obtain ⟨a3, n3, c3, k3, F3, rfl, hf3, hf⟩ := fit_s hf
  obtain ⟨a4, n4, c4, k4, F4, rfl, hf4, hf⟩ := fit_s hf
  obtain ⟨a5, n5, c5, k5, F5, rfl, hf5, hf⟩ := fit_s hf
  obtain ⟨a6, n6, c6, k6, F6, rfl, hf6, hf⟩ := fit_s hf
  obtain rfl := fit_nil hf
  obtain ⟨u0, rfl, s_1⟩ := Fo.sim_v hsim
  obtain ⟨u1, rfl, s_2⟩ := Fo.sim_v s_1
  obtain ⟨u2, rfl, s_3⟩ := Fo.sim_v s_2
  obtain ⟨d3, e3, t3, u3, rfl, r3, s_4⟩ := Fo.sim_s s_3
  obtain ⟨d4, e4, t4, u4, rfl, r4, s_5⟩ := Fo.sim_s s_4
  obtain ⟨d5, e5, t5, u5, rfl, r5, s_6⟩ := Fo.sim_s s_5
  obtain ⟨d6, e6, t6, u6, rfl, r6, s_7⟩ := Fo.sim_s s_6
  obtain rfl := Fo.sim_nil s_7
  clear hsim s_1 s_2 s_3 s_4 s_5 s_6 s_7
  obtain ⟨hs3, hs4, hs5, hs6, -⟩ := hs
  obtain ⟨ht3, ht4, ht5, ht6, -⟩ := ht
  simp only [Fo.size] at hm
  simp only [Fo.vals]
  have HS3 : Hid (Fo.Sub W (fun c => c < nb) a3 n3 c3 k3) := hs3
  have HT3 : Hid (Fo.Sub W (fun c => c < nb) d3 n3 e3 t3) := ht3
  have HS4 : Hid (Fo.Sub W (fun c => c < nb) a4 n4 c4 k4) := hs4
  have HT4 : Hid (Fo.Sub W (fun c => c < nb) d4 n4 e4 t4) := ht4
  have HS5 : Hid (Fo.Sub W (fun c => c < nb) a5 n5 c5 k5) := hs5
  have HT5 : Hid (Fo.Sub W (fun c => c < nb) d5 n5 e5 t5) := ht5
  have HS6 : Hid (Fo.Sub W (fun c => c < nb) a6 n6 c6 k6) := hs6
  have HT6 : Hid (Fo.Sub W (fun c => c < nb) d6 n6 e6 t6) := ht6
  clear hs3 ht3 hs4 ht4 hs5 ht5 hs6 ht6
  obtain ⟨w0, hV0⟩ : ∃ V0, (W.alloc (.cells #[.int .i64 x0, .string x1, .bool x2, .slice a3 n3 c3, .slice a4 n4 c4, .slice a5 n5 c5, .slice a6 n6 c6] 36)).alloc (.cells #[.int .i64 x0, .string x1, .bool x2, .slice d3 n3 e3, .slice d4 n4 e4, .slice d5 n5 e5, .slice d6 n6 e6] 36) = V0 := ⟨_, rfl⟩
  have HB0 : Hid (Below W.heap.size W w0) := by rw [← hV0]; exact below_alloc2 _ _ _
  have Q0 : Hid (Bx w0 W.heap.size [.int .i64 x0, .string x1, .bool x2, .slice a3 n3 c3, .slice a4 n4 c4, .slice a5 n5 c5, .slice a6 n6 c6]) := by
    rw [← hV0]
    exact (Bx.new _ _ _).kept (Kept.alloc (fun _ => True) _ _) trivial
  have R0 : Hid (Bx w0 (W.heap.size + 1) [.int .i64 x0, .string x1, .bool x2, .slice d3 n3 e3, .slice d4 n4 e4, .slice d5 n5 e5, .slice d6 n6 e6]) := by
    rw [← hV0]
    have := Bx.new (W.alloc (.cells #[.int .i64 x0, .string x1, .bool x2, .slice a3 n3 c3, .slice a4 n4 c4, .slice a5 n5 c5, .slice a6 n6 c6] 36)) [.int .i64 x0, .string x1, .bool x2, .slice d3 n3 e3, .slice d4 n4 e4, .slice d5 n5 e5, .slice d6 n6 e6] 36
    rwa [World.size_alloc] at this
  have HV0 := hide hV0
  clear hV0
  go_enter Try.func9, Try.ntmps9
  go_wp2_with fail
  rw [HV0.out]
  clear HV0
  have HC1 := eq_C_Big m (.v (.bool x2) (.s a3 n3 c3 k3 .nil)) (.v (.bool x2) (.s d3 n3 e3 t3 .nil)) nb w0 (by simp only [Fo.size]; omega) ⟨hf3, trivial⟩ (by have := HB0.out.size; omega) ⟨rfl, rfl, r3, trivial⟩ ⟨(HS3.out.below HB0.out (fun c hc => by omega)), trivial⟩ ⟨(HT3.out.below HB0.out (fun c hc => by omega)), trivial⟩
  simp only [Fo.vals] at HC1
  refine HC1.mono ?_
  clear HC1
  rintro e w1 ⟨rfl, b1⟩
  have HB1 := hide (HB0.out.trans (b1.mono HB0.out.size))
  have Q1 := hide (Q0.out.below b1)
  have R1 := hide (R0.out.below b1)
  clear b1
  have y14 : w1.cell? ⟨W.heap.size, 4, none⟩ = some (.slice a4 n4 c4) := Q1.out.cel 4 _ rfl
  have Y14 : w1.cell? ⟨W.heap.size + 1, 4, none⟩ = some (.slice d4 n4 e4) := R1.out.cel 4 _ rfl
  have y15 : w1.cell? ⟨W.heap.size, 5, none⟩ = some (.slice a5 n5 c5) := Q1.out.cel 5 _ rfl
  have Y15 : w1.cell? ⟨W.heap.size + 1, 5, none⟩ = some (.slice d5 n5 e5) := R1.out.cel 5 _ rfl
  have y16 : w1.cell? ⟨W.heap.size, 6, none⟩ = some (.slice a6 n6 c6) := Q1.out.cel 6 _ rfl
  have Y16 : w1.cell? ⟨W.heap.size + 1, 6, none⟩ = some (.slice d6 n6 e6) := R1.out.cel 6 _ rfl
  go_wp2_with fail
  have HC2 := eq_R_StringS m k4 t4 n4 nb w1 a4 d4 c4 e4 (by omega) hf4 (by have := HB1.out.size; omega) r4 (HS4.out.below HB1.out (fun c hc => by omega)) (HT4.out.below HB1.out (fun c hc => by omega))
  refine HC2.mono ?_
  clear HC2
  rintro e w2 ⟨rfl, b2⟩
  have HB2 := hide (HB1.out.trans (b2.mono HB1.out.size))
  have Q2 := hide (Q1.out.below b2)
  have R2 := hide (R1.out.below b2)
  clear b2
  have y25 : w2.cell? ⟨W.heap.size, 5, none⟩ = some (.slice a5 n5 c5) := Q2.out.cel 5 _ rfl
  have Y25 : w2.cell? ⟨W.heap.size + 1, 5, none⟩ = some (.slice d5 n5 e5) := R2.out.cel 5 _ rfl
  have y26 : w2.cell? ⟨W.heap.size, 6, none⟩ = some (.slice a6 n6 c6) := Q2.out.cel 6 _ rfl
  have Y26 : w2.cell? ⟨W.heap.size + 1, 6, none⟩ = some (.slice d6 n6 e6) := R2.out.cel 6 _ rfl
  go_wp2_with fail
  have HC3 := hCore k5 t5 n5 nb w2 a5 d5 c5 e5 (by omega) hf5 (by have := HB2.out.size; omega) r5 (HS5.out.below HB2.out (fun c hc => by omega)) (HT5.out.below HB2.out (fun c hc => by omega))
  refine HC3.mono ?_
  clear HC3
  rintro e w3 ⟨rfl, b3⟩
  have HB3 := hide (HB2.out.trans (b3.mono HB2.out.size))
  have Q3 := hide (Q2.out.below b3)
  have R3 := hide (R2.out.below b3)
  clear b3
  have y36 : w3.cell? ⟨W.heap.size, 6, none⟩ = some (.slice a6 n6 c6) := Q3.out.cel 6 _ rfl
  have Y36 : w3.cell? ⟨W.heap.size + 1, 6, none⟩ = some (.slice d6 n6 e6) := R3.out.cel 6 _ rfl
  go_wp2_with fail
  have HC4 := hCoreAlt k6 t6 n6 nb w3 a6 d6 c6 e6 (by omega) hf6 (by have := HB3.out.size; omega) r6 (HS6.out.below HB3.out (fun c hc => by omega)) (HT6.out.below HB3.out (fun c hc => by omega))
  refine HC4.mono ?_
  clear HC4
  rintro e w4 ⟨rfl, b4⟩
  have HB4 := hide (HB3.out.trans (b4.mono HB3.out.size))
  have Q4 := hide (Q3.out.below b4)
  have R4 := hide (R3.out.below b4)
  clear b4
  go_wp2_with fail
  go_ret
  exact ⟨rfl, HB4.out⟩

set_option maxHeartbeats 2000000 in
set_option maxRecDepth 100000 in
theorem eq_R_CoreS_of (m : Nat) (h : EqC Try.prog E 9 (E 3) m) : EqR Try.prog E 26 (E 3) m := by
  intro F G n nb W a b cap dap hm hf hn hsim hs ht
  have hmx : n ≤ 9223372036854775807 := by have h2 := hs.1; have h3 := hs.2.1; simp only [maxLen] at h3; omega
  have HR := hide (Rd.start hf hs)
  have HR' := hide (Rd.start (hsim.fit hf) ht)
  have HM := hide hm
  have HSI := hide hsim
  clear hf hs hm ht hsim
  go_enter Try.func26, Try.ntmps26
  go_wp2_with fail
  go_loopw [5] (fun s5 wr => ∃ (i : Nat) (r q : Fo), s5 = .int .i64 i ∧ i ≤ n ∧ Hid (r.size ≤ F.size) ∧ Hid (q.sim r) ∧ Hid (Rd E (E 3) n nb a i r wr) ∧ Hid (Rd E (E 3) n nb b i q wr) ∧ Hid (Below W.heap.size W wr)) (fun s5 _ => n - (intOf s5).toNat)
  case atStart => exact ⟨0, F, G, rfl, Nat.zero_le _, Nat.le_refl _, HSI, HR, HR', Below.refl _ _⟩
  case round =>
    obtain ⟨i, r, q, rfl, hin, hrs, hrq, hR, hR', hB⟩ := hrel
    by_cases hi : i < n
    · obtain ⟨x, rr, g, o, rfl, hx, rfl, hg, hc, hxs, hR1⟩ := hR.out.next hi (by decide)
      obtain ⟨y, qq, g', o', rfl, hy, rfl, hg', hc', hys, hR1'⟩ := hR'.out.next hi (by decide)
      have HR1 := hide hR1
      have HR1' := hide hR1'
      obtain ⟨hxy, hqr⟩ := Fo.sim.split (x := x) (y := y) (by rw [Fit.len hx, Fit.len hy]) hrq.out
      have HQ := hide hqr
      have HZ := hrs.out
      rw [Fo.app_size] at HZ
      have hbz := hB.out.size
      have hii : (i : Int) < n := by omega
      clear hR hR' hR1 hR1' hrs hrq hqr hy
      replace hx : Fit E x [.i, .t, .b, .s 0, .s 1, .s 3, .s 2] := hx
      have HC : Hid (∀ V, Below wr.heap.size wr V → Calls Try.prog 9 #[.agg x.vals.toArray, .agg y.vals.toArray] V fun e W' => e = .returned (.bool true) ∧ Below V.heap.size V W') := fun V bV => h x y nb V (by have := HM.out; omega) hx (by have := bV.size; omega) hxy (hxs.below bV (fun c hc => by omega)) (hys.below bV (fun c hc => by omega))
      have HZ1 := hide HZ
      have HBZ := hide hbz
      clear HZ hbz hxs hys
      obtain ⟨x0, F0, rfl, hx0, hx⟩ := fit_i hx
      obtain ⟨x1, F1, rfl, hx1, hx⟩ := fit_t hx
      obtain ⟨x2, F2, rfl, hx⟩ := fit_b hx
      obtain ⟨a3, n3, c3, k3, F3, rfl, hf3, hx⟩ := fit_s hx
      obtain ⟨a4, n4, c4, k4, F4, rfl, hf4, hx⟩ := fit_s hx
      obtain ⟨a5, n5, c5, k5, F5, rfl, hf5, hx⟩ := fit_s hx
      obtain ⟨a6, n6, c6, k6, F6, rfl, hf6, hx⟩ := fit_s hx
      obtain rfl := fit_nil hx
      obtain ⟨u0, rfl, s_1⟩ := Fo.sim_v hxy
      obtain ⟨u1, rfl, s_2⟩ := Fo.sim_v s_1
      obtain ⟨u2, rfl, s_3⟩ := Fo.sim_v s_2
      obtain ⟨d3, e3, t3, u3, rfl, r3, s_4⟩ := Fo.sim_s s_3
      obtain ⟨d4, e4, t4, u4, rfl, r4, s_5⟩ := Fo.sim_s s_4
      obtain ⟨d5, e5, t5, u5, rfl, r5, s_6⟩ := Fo.sim_s s_5
      obtain ⟨d6, e6, t6, u6, rfl, r6, s_7⟩ := Fo.sim_s s_6
      obtain rfl := Fo.sim_nil s_7
      clear hxy s_1 s_2 s_3 s_4 s_5 s_6 s_7
      simp only [Fo.vals] at HC hc hc'
      have HS : Hid (∀ V, Below wr.heap.size wr V → V.cell? ⟨g, o + i * 7, none⟩ = some (.int .i64 x0) ∧ V.cell? ⟨g, o + i * 7 + 1, none⟩ = some (.string x1) ∧ V.cell? ⟨g, o + i * 7 + 2, none⟩ = some (.bool x2) ∧ V.cell? ⟨g, o + i * 7 + 3, none⟩ = some (.slice a3 n3 c3) ∧ V.cell? ⟨g, o + i * 7 + 4, none⟩ = some (.slice a4 n4 c4) ∧ V.cell? ⟨g, o + i * 7 + 5, none⟩ = some (.slice a5 n5 c5) ∧ V.cell? ⟨g, o + i * 7 + 6, none⟩ = some (.slice a6 n6 c6) ∧ V.cell? ⟨g', o' + i * 7, none⟩ = some (.int .i64 x0) ∧ V.cell? ⟨g', o' + i * 7 + 1, none⟩ = some (.string x1) ∧ V.cell? ⟨g', o' + i * 7 + 2, none⟩ = some (.bool x2) ∧ V.cell? ⟨g', o' + i * 7 + 3, none⟩ = some (.slice d3 n3 e3) ∧ V.cell? ⟨g', o' + i * 7 + 4, none⟩ = some (.slice d4 n4 e4) ∧ V.cell? ⟨g', o' + i * 7 + 5, none⟩ = some (.slice d5 n5 e5) ∧ V.cell? ⟨g', o' + i * 7 + 6, none⟩ = some (.slice d6 n6 e6)) := fun V bV => by
        have h1 := hc.below bV (by have := HBZ.out; omega)
        have h2 := hc'.below bV (by have := HBZ.out; omega)
        exact ⟨h1 0 _ rfl, h1 1 _ rfl, h1 2 _ rfl, h1 3 _ rfl, h1 4 _ rfl, h1 5 _ rfl, h1 6 _ rfl, h2 0 _ rfl, h2 1 _ rfl, h2 2 _ rfl, h2 3 _ rfl, h2 4 _ rfl, h2 5 _ rfl, h2 6 _ rfl⟩
      clear hc hc'
      have hd0 : Hid (Below wr.heap.size wr wr.drew) := (Below.refl _ wr).drew
      have kk0 := HS.out wr.drew hd0.out
      have kk00 := HS.out wr (Below.refl _ _)
      have HC0 := hide (HC.out wr.drew hd0.out)
      obtain ⟨p0, p1, p2, p3, p4, p5, p6, p7, p8, p9, p10, p11, p12, p13⟩ := kk00
      clear HC
      go_wp2_with fail
      go_region_held3 (fun V => V.cell? ⟨g, o + i * 7, none⟩ = some (.int .i64 x0) ∧ V.cell? ⟨g, o + i * 7 + 1, none⟩ = some (.string x1) ∧ V.cell? ⟨g, o + i * 7 + 2, none⟩ = some (.bool x2) ∧ V.cell? ⟨g, o + i * 7 + 3, none⟩ = some (.slice a3 n3 c3) ∧ V.cell? ⟨g, o + i * 7 + 4, none⟩ = some (.slice a4 n4 c4) ∧ V.cell? ⟨g, o + i * 7 + 5, none⟩ = some (.slice a5 n5 c5) ∧ V.cell? ⟨g, o + i * 7 + 6, none⟩ = some (.slice a6 n6 c6) ∧ V.cell? ⟨g', o' + i * 7, none⟩ = some (.int .i64 x0) ∧ V.cell? ⟨g', o' + i * 7 + 1, none⟩ = some (.string x1) ∧ V.cell? ⟨g', o' + i * 7 + 2, none⟩ = some (.bool x2) ∧ V.cell? ⟨g', o' + i * 7 + 3, none⟩ = some (.slice d3 n3 e3) ∧ V.cell? ⟨g', o' + i * 7 + 4, none⟩ = some (.slice d4 n4 e4) ∧ V.cell? ⟨g', o' + i * 7 + 5, none⟩ = some (.slice d5 n5 e5) ∧ V.cell? ⟨g', o' + i * 7 + 6, none⟩ = some (.slice d6 n6 e6))
        (first | with_reducible exact kk1 | with_reducible exact kk0)
        (first | (go_at_call 9; refine HC0.out.mono ?_; rintro e w1 ⟨rfl, b1⟩; have HB1 : Hid (Below wr.heap.size wr w1) := hd0.out.trans b1; have kk1 := HS.out w1 HB1.out; clear b1))
      all_goals
        go_wp2_with fail
        go_roundw
        case rel => exact ⟨i + 1, rr, qq, by go_num, by omega, (by show _ ≤ _; have := HZ1.out; omega), HQ, HR1.out.below HB1.out (by have := HBZ.out; omega), HR1'.out.below HB1.out (by have := HBZ.out; omega), hB.out.trans (HB1.out.mono HBZ.out)⟩
        case measure => simp [intOf]; omega
    · obtain ⟨-, rfl⟩ := hR.out.done hi
      clear hR hR' hrs hrq
      go_wp2_with fail
      go_ret
      exact ⟨rfl, hB.out⟩

theorem eq_group_CoreAlt : ∀ m : Nat, (EqC Try.prog E 48 (E 2) m ∧ EqR Try.prog E 27 (E 2) m) ∧ (EqC Try.prog E 9 (E 3) m ∧ EqR Try.prog E 26 (E 3) m)
  | 0 => by
    have cCoreAlt : EqC Try.prog E 48 (E 2) 0 := (fun F _ _ _ hm hf => absurd (Fit.len hf) (by have := F.len_le; show ¬ F.len = 9; omega))
    have rCoreAlt := eq_R_CoreAltS_of 0 cCoreAlt
    have cCore : EqC Try.prog E 9 (E 3) 0 := (fun F _ _ _ hm hf => absurd (Fit.len hf) (by have := F.len_le; show ¬ F.len = 7; omega))
    have rCore := eq_R_CoreS_of 0 cCore
    exact ⟨⟨cCoreAlt, rCoreAlt⟩, ⟨cCore, rCore⟩⟩
  | m + 1 => by
    have ih := eq_group_CoreAlt m
    have cCore := eq_C_Core m ih.2.2 ih.1.2 
    have rCore := eq_R_CoreS_of (m + 1) cCore
    have cCoreAlt := eq_C_CoreAlt (m + 1) cCore
    have rCoreAlt := eq_R_CoreAltS_of (m + 1) cCoreAlt
    exact ⟨⟨cCoreAlt, rCoreAlt⟩, ⟨cCore, rCore⟩⟩
theorem eq_R_CoreAltS (m : Nat) : EqR Try.prog E 27 (E 2) m := (eq_group_CoreAlt m).1.2
theorem eq_C_CoreAlt_all (m : Nat) : EqC Try.prog E 48 (E 2) m := (eq_group_CoreAlt m).1.1
theorem eq_R_CoreS (m : Nat) : EqR Try.prog E 26 (E 3) m := (eq_group_CoreAlt m).2.2
theorem eq_C_Core_all (m : Nat) : EqC Try.prog E 9 (E 3) m := (eq_group_CoreAlt m).2.1
end Go.Proofs.Ytfgmgbkiebeeoaa
