import Derived.Test.YtjlefdalobgdfaaKe
namespace Go.Proofs.Ytjlefdalobgdfaa.U
open Go.RowKit Go.Joins

set_option maxHeartbeats 2000000 in
set_option maxRecDepth 100000 in
theorem eq_C_Type (m : Nat) (h : EqR Try.prog E 47 (E 0) m) : EqC Try.prog E 13 (E 0) (m + 1) := by
  intro F G nb W hm hf hn hsim hs ht
  replace hf : Fit E F [.i, .i, .t, .s 0] := hf
  obtain ⟨x0, F0, rfl, hx0, hf⟩ := fit_i hf
  obtain ⟨x1, F1, rfl, hx1, hf⟩ := fit_i hf
  obtain ⟨x2, F2, rfl, hx2, hf⟩ := fit_t hf
  obtain ⟨a3, n3, c3, k3, F3, rfl, hf3, hf⟩ := fit_s hf
  obtain rfl := fit_nil hf
  obtain ⟨u0, rfl, s_1⟩ := Fo.sim_v hsim
  obtain ⟨u1, rfl, s_2⟩ := Fo.sim_v s_1
  obtain ⟨u2, rfl, s_3⟩ := Fo.sim_v s_2
  obtain ⟨d3, e3, t3, u3, rfl, r3, s_4⟩ := Fo.sim_s s_3
  obtain rfl := Fo.sim_nil s_4
  clear hsim s_1 s_2 s_3 s_4
  obtain ⟨hs3, -⟩ := hs
  obtain ⟨ht3, -⟩ := ht
  simp only [Fo.size] at hm
  simp only [Fo.vals]
  have HS3 : Hid (Fo.Sub W (fun c => c < nb) a3 n3 c3 k3) := hs3
  have HT3 : Hid (Fo.Sub W (fun c => c < nb) d3 n3 e3 t3) := ht3
  clear hs3 ht3
  obtain ⟨w0, hV0⟩ : ∃ V0, (W.alloc (.cells #[.int .i64 x0, .int .i64 x1, .string x2, .slice a3 n3 c3] 29)).alloc (.cells #[.int .i64 x0, .int .i64 x1, .string x2, .slice d3 n3 e3] 29) = V0 := ⟨_, rfl⟩
  have HB0 : Hid (Below W.heap.size W w0) := by rw [← hV0]; exact below_alloc2 _ _ _
  have Q0 : Hid (Bx w0 W.heap.size [.int .i64 x0, .int .i64 x1, .string x2, .slice a3 n3 c3]) := by
    rw [← hV0]
    exact (Bx.new _ _ _).kept (Kept.alloc (fun _ => True) _ _) trivial
  have R0 : Hid (Bx w0 (W.heap.size + 1) [.int .i64 x0, .int .i64 x1, .string x2, .slice d3 n3 e3]) := by
    rw [← hV0]
    have := Bx.new (W.alloc (.cells #[.int .i64 x0, .int .i64 x1, .string x2, .slice a3 n3 c3] 29)) [.int .i64 x0, .int .i64 x1, .string x2, .slice d3 n3 e3] 29
    rwa [World.size_alloc] at this
  have HV0 := hide hV0
  clear hV0
  go_enter Try.func13, Try.ntmps13
  go_wp2_with fail
  rw [HV0.out]
  clear HV0
  have HC1 := h k3 t3 n3 nb w0 a3 d3 c3 e3 (by omega) hf3 (by have := HB0.out.size; omega) r3 (HS3.out.below HB0.out (fun c hc => by omega)) (HT3.out.below HB0.out (fun c hc => by omega))
  refine HC1.mono ?_
  clear HC1
  rintro e w1 ⟨rfl, b1⟩
  have HB1 := hide (HB0.out.trans (b1.mono HB0.out.size))
  have Q1 := hide (Q0.out.below b1)
  have R1 := hide (R0.out.below b1)
  clear b1
  go_wp2_with fail
  go_ret
  exact ⟨rfl, HB1.out⟩

set_option maxHeartbeats 2000000 in
set_option maxRecDepth 100000 in
theorem eq_R_TypeS_of (m : Nat) (h : EqC Try.prog E 13 (E 0) m) : EqR Try.prog E 47 (E 0) m := by
  intro F G n nb W a b cap dap hm hf hn hsim hs ht
  have hmx : n ≤ 9223372036854775807 := by have h2 := hs.1; have h3 := hs.2.1; simp only [maxLen] at h3; omega
  have HR := hide (Rd.start hf hs)
  have HR' := hide (Rd.start (hsim.fit hf) ht)
  have HM := hide hm
  have HSI := hide hsim
  clear hf hs hm ht hsim
  go_enter Try.func47, Try.ntmps47
  go_wp2_with fail
  go_loopw [5] (fun s5 wr => ∃ (i : Nat) (r q : Fo), s5 = .int .i64 i ∧ i ≤ n ∧ Hid (r.size ≤ F.size) ∧ Hid (q.sim r) ∧ Hid (Rd E (E 0) n nb a i r wr) ∧ Hid (Rd E (E 0) n nb b i q wr) ∧ Hid (Below W.heap.size W wr)) (fun s5 _ => n - (intOf s5).toNat)
  case atStart => exact ⟨0, F, G, rfl, Nat.zero_le _, Nat.le_refl _, HSI, HR, HR', Below.refl _ _⟩
  case round =>
    obtain ⟨i, r, q, rfl, hin, hrs, hrq, hR, hR', hB⟩ := hrel
    by_cases hi : i < n
    · obtain ⟨x, rr, g, o, rfl, hx, rfl, hg, hc, hxs, hR1⟩ := hR.out.next hi (by decide)
      obtain ⟨y, qq, g', o', rfl, hy, rfl, hg', hc', hys, hR1'⟩ := hR'.out.next hi (by decide)
      have HR1 := hide hR1
      have HR1' := hide hR1'
      obtain ⟨hxy, hqr⟩ := Fo.sim.split (x := x) (y := y) (by rw [Fit.len hx, Fit.len hy]) hrq.out
      have HQ := hide hqr
      have HZ := hrs.out
      rw [Fo.app_size] at HZ
      have hbz := hB.out.size
      have hii : (i : Int) < n := by omega
      clear hR hR' hR1 hR1' hrs hrq hqr hy
      replace hx : Fit E x [.i, .i, .t, .s 0] := hx
      have HC : Hid (∀ V, Below wr.heap.size wr V → Calls Try.prog 13 #[.agg x.vals.toArray, .agg y.vals.toArray] V fun e W' => e = .returned (.bool true) ∧ Below V.heap.size V W') := fun V bV => h x y nb V (by have := HM.out; omega) hx (by have := bV.size; omega) hxy (hxs.below bV (fun c hc => by omega)) (hys.below bV (fun c hc => by omega))
      have HZ1 := hide HZ
      have HBZ := hide hbz
      clear HZ hbz hxs hys
      obtain ⟨x0, F0, rfl, hx0, hx⟩ := fit_i hx
      obtain ⟨x1, F1, rfl, hx1, hx⟩ := fit_i hx
      obtain ⟨x2, F2, rfl, hx2, hx⟩ := fit_t hx
      obtain ⟨a3, n3, c3, k3, F3, rfl, hf3, hx⟩ := fit_s hx
      obtain rfl := fit_nil hx
      obtain ⟨u0, rfl, s_1⟩ := Fo.sim_v hxy
      obtain ⟨u1, rfl, s_2⟩ := Fo.sim_v s_1
      obtain ⟨u2, rfl, s_3⟩ := Fo.sim_v s_2
      obtain ⟨d3, e3, t3, u3, rfl, r3, s_4⟩ := Fo.sim_s s_3
      obtain rfl := Fo.sim_nil s_4
      clear hxy s_1 s_2 s_3 s_4
      simp only [Fo.vals] at HC hc hc'
      have HS : Hid (∀ V, Below wr.heap.size wr V → V.cell? ⟨g, o + i * 4, none⟩ = some (.int .i64 x0) ∧ V.cell? ⟨g, o + i * 4 + 1, none⟩ = some (.int .i64 x1) ∧ V.cell? ⟨g, o + i * 4 + 2, none⟩ = some (.string x2) ∧ V.cell? ⟨g, o + i * 4 + 3, none⟩ = some (.slice a3 n3 c3) ∧ V.cell? ⟨g', o' + i * 4, none⟩ = some (.int .i64 x0) ∧ V.cell? ⟨g', o' + i * 4 + 1, none⟩ = some (.int .i64 x1) ∧ V.cell? ⟨g', o' + i * 4 + 2, none⟩ = some (.string x2) ∧ V.cell? ⟨g', o' + i * 4 + 3, none⟩ = some (.slice d3 n3 e3)) := fun V bV => by
        have h1 := hc.below bV (by have := HBZ.out; omega)
        have h2 := hc'.below bV (by have := HBZ.out; omega)
        exact ⟨h1 0 _ rfl, h1 1 _ rfl, h1 2 _ rfl, h1 3 _ rfl, h2 0 _ rfl, h2 1 _ rfl, h2 2 _ rfl, h2 3 _ rfl⟩
      clear hc hc'
      have hd0 : Hid (Below wr.heap.size wr wr.drew) := (Below.refl _ wr).drew
      have kk0 := HS.out wr.drew hd0.out
      have kk00 := HS.out wr (Below.refl _ _)
      have HC0 := hide (HC.out wr.drew hd0.out)
      obtain ⟨p0, p1, p2, p3, p4, p5, p6, p7⟩ := kk00
      clear HC
      go_wp2_with fail
      go_region_held3 (fun V => V.cell? ⟨g, o + i * 4, none⟩ = some (.int .i64 x0) ∧ V.cell? ⟨g, o + i * 4 + 1, none⟩ = some (.int .i64 x1) ∧ V.cell? ⟨g, o + i * 4 + 2, none⟩ = some (.string x2) ∧ V.cell? ⟨g, o + i * 4 + 3, none⟩ = some (.slice a3 n3 c3) ∧ V.cell? ⟨g', o' + i * 4, none⟩ = some (.int .i64 x0) ∧ V.cell? ⟨g', o' + i * 4 + 1, none⟩ = some (.int .i64 x1) ∧ V.cell? ⟨g', o' + i * 4 + 2, none⟩ = some (.string x2) ∧ V.cell? ⟨g', o' + i * 4 + 3, none⟩ = some (.slice d3 n3 e3))
        (first | with_reducible exact kk1 | with_reducible exact kk0)
        (first | (go_at_call 13; refine HC0.out.mono ?_; rintro e w1 ⟨rfl, b1⟩; have HB1 : Hid (Below wr.heap.size wr w1) := hd0.out.trans b1; have kk1 := HS.out w1 HB1.out; clear b1))
      all_goals
        go_wp2_with fail
        go_roundw
        case rel => exact ⟨i + 1, rr, qq, by go_num, by omega, (by show _ ≤ _; have := HZ1.out; omega), HQ, HR1.out.below HB1.out (by have := HBZ.out; omega), HR1'.out.below HB1.out (by have := HBZ.out; omega), hB.out.trans (HB1.out.mono HBZ.out)⟩
        case measure => simp [intOf]; omega
    · obtain ⟨-, rfl⟩ := hR.out.done hi
      clear hR hR' hrs hrq
      go_wp2_with fail
      go_ret
      exact ⟨rfl, hB.out⟩

theorem eq_both_Type : ∀ m, EqC Try.prog E 13 (E 0) m ∧ EqR Try.prog E 47 (E 0) m
  | 0 => have c : EqC Try.prog E 13 (E 0) 0 := (fun F _ _ _ hm hf => absurd (Fit.len hf) (by have := F.len_le; show ¬ F.len = 4; omega)); ⟨c, eq_R_TypeS_of 0 c⟩
  | m + 1 => have c := eq_C_Type m (eq_both_Type m).2; ⟨c, eq_R_TypeS_of (m + 1) c⟩
theorem eq_R_TypeS (m : Nat) : EqR Try.prog E 47 (E 0) m := (eq_both_Type m).2
theorem eq_C_Type_all (m : Nat) : EqC Try.prog E 13 (E 0) m := (eq_both_Type m).1
end Go.Proofs.Ytjlefdalobgdfaa.U
