import Derived.Test.YtcflciblcdabpaaKe
import Derived.Test.YtcflciblcdabpaaKEqType
namespace Go.Proofs.Ytcflciblcdabpaa
open Go.RowKit Go.Joins

set_option maxHeartbeats 2000000 in
set_option maxRecDepth 100000 in
theorem eq_C_ConInfo (m : Nat) : EqC Try.prog E 8 (E 3) m := by
  intro F G nb W hm hf hn hsim hs ht
  replace hf : Fit E F [.t, .t, .i, .i, .s 2] := hf
  obtain ⟨x0, F0, rfl, hx0, hf⟩ := fit_t hf
  obtain ⟨x1, F1, rfl, hx1, hf⟩ := fit_t hf
  obtain ⟨x2, F2, rfl, hx2, hf⟩ := fit_i hf
  obtain ⟨x3, F3, rfl, hx3, hf⟩ := fit_i hf
  obtain ⟨a4, n4, c4, k4, F4, rfl, hf4, hf⟩ := fit_s hf
  obtain rfl := fit_nil hf
  obtain ⟨u0, rfl, s_1⟩ := Fo.sim_v hsim
  obtain ⟨u1, rfl, s_2⟩ := Fo.sim_v s_1
  obtain ⟨u2, rfl, s_3⟩ := Fo.sim_v s_2
  obtain ⟨u3, rfl, s_4⟩ := Fo.sim_v s_3
  obtain ⟨d4, e4, t4, u4, rfl, r4, s_5⟩ := Fo.sim_s s_4
  obtain rfl := Fo.sim_nil s_5
  clear hsim s_1 s_2 s_3 s_4 s_5
  obtain ⟨hs4, -⟩ := hs
  obtain ⟨ht4, -⟩ := ht
  simp only [Fo.size] at hm
  simp only [Fo.vals]
  have HS4 : Hid (Fo.Sub W (fun c => c < nb) a4 n4 c4 k4) := hs4
  have HT4 : Hid (Fo.Sub W (fun c => c < nb) d4 n4 e4 t4) := ht4
  clear hs4 ht4
  obtain ⟨w0, hV0⟩ : ∃ V0, (W.alloc (.cells #[.string x0, .string x1, .int .i64 x2, .int .i64 x3, .slice a4 n4 c4] 32)).alloc (.cells #[.string x0, .string x1, .int .i64 x2, .int .i64 x3, .slice d4 n4 e4] 32) = V0 := ⟨_, rfl⟩
  have HB0 : Hid (Below W.heap.size W w0) := by rw [← hV0]; exact below_alloc2 _ _ _
  have Q0 : Hid (Bx w0 W.heap.size [.string x0, .string x1, .int .i64 x2, .int .i64 x3, .slice a4 n4 c4]) := by
    rw [← hV0]
    exact (Bx.new _ _ _).kept (Kept.alloc (fun _ => True) _ _) trivial
  have R0 : Hid (Bx w0 (W.heap.size + 1) [.string x0, .string x1, .int .i64 x2, .int .i64 x3, .slice d4 n4 e4]) := by
    rw [← hV0]
    have := Bx.new (W.alloc (.cells #[.string x0, .string x1, .int .i64 x2, .int .i64 x3, .slice a4 n4 c4] 32)) [.string x0, .string x1, .int .i64 x2, .int .i64 x3, .slice d4 n4 e4] 32
    rwa [World.size_alloc] at this
  have HV0 := hide hV0
  clear hV0
  go_enter Try.func8, Try.ntmps8
  go_wp2_with fail
  rw [HV0.out]
  clear HV0
  have HC1 := eq_R_TypeS m k4 t4 n4 nb w0 a4 d4 c4 e4 (by omega) hf4 (by have := HB0.out.size; omega) r4 (HS4.out.below HB0.out (fun c hc => by omega)) (HT4.out.below HB0.out (fun c hc => by omega))
  refine HC1.mono ?_
  clear HC1
  rintro e w1 ⟨rfl, b1⟩
  have HB1 := hide (HB0.out.trans (b1.mono HB0.out.size))
  have Q1 := hide (Q0.out.below b1)
  have R1 := hide (R0.out.below b1)
  clear b1
  go_wp2_with fail
  go_ret
  exact ⟨rfl, HB1.out⟩

set_option maxHeartbeats 2000000 in
set_option maxRecDepth 100000 in
theorem eq_R_ConInfoS_of (m : Nat) (h : EqC Try.prog E 8 (E 3) m) : EqR Try.prog E 29 (E 3) m := by
  intro F G n nb W a b cap dap hm hf hn hsim hs ht
  have hmx : n ≤ 9223372036854775807 := by have h2 := hs.1; have h3 := hs.2.1; simp only [maxLen] at h3; omega
  have HR := hide (Rd.start hf hs)
  have HR' := hide (Rd.start (hsim.fit hf) ht)
  have HM := hide hm
  have HSI := hide hsim
  clear hf hs hm ht hsim
  go_enter Try.func29, Try.ntmps29
  go_wp2_with fail
  go_loopw [5] (fun s5 wr => ∃ (i : Nat) (r q : Fo), s5 = .int .i64 i ∧ i ≤ n ∧ Hid (r.size ≤ F.size) ∧ Hid (q.sim r) ∧ Hid (Rd E (E 3) n nb a i r wr) ∧ Hid (Rd E (E 3) n nb b i q wr) ∧ Hid (Below W.heap.size W wr)) (fun s5 _ => n - (intOf s5).toNat)
  case atStart => exact ⟨0, F, G, rfl, Nat.zero_le _, Nat.le_refl _, HSI, HR, HR', Below.refl _ _⟩
  case round =>
    obtain ⟨i, r, q, rfl, hin, hrs, hrq, hR, hR', hB⟩ := hrel
    by_cases hi : i < n
    · obtain ⟨x, rr, g, o, rfl, hx, rfl, hg, hc, hxs, hR1⟩ := hR.out.next hi (by decide)
      obtain ⟨y, qq, g', o', rfl, hy, rfl, hg', hc', hys, hR1'⟩ := hR'.out.next hi (by decide)
      have HR1 := hide hR1
      have HR1' := hide hR1'
      obtain ⟨hxy, hqr⟩ := Fo.sim.split (x := x) (y := y) (by rw [Fit.len hx, Fit.len hy]) hrq.out
      have HQ := hide hqr
      have HZ := hrs.out
      rw [Fo.app_size] at HZ
      have hbz := hB.out.size
      have hii : (i : Int) < n := by omega
      clear hR hR' hR1 hR1' hrs hrq hqr hy
      replace hx : Fit E x [.t, .t, .i, .i, .s 2] := hx
      have HC : Hid (∀ V, Below wr.heap.size wr V → Calls Try.prog 8 #[.agg x.vals.toArray, .agg y.vals.toArray] V fun e W' => e = .returned (.bool true) ∧ Below V.heap.size V W') := fun V bV => h x y nb V (by have := HM.out; omega) hx (by have := bV.size; omega) hxy (hxs.below bV (fun c hc => by omega)) (hys.below bV (fun c hc => by omega))
      have HZ1 := hide HZ
      have HBZ := hide hbz
      clear HZ hbz hxs hys
      obtain ⟨x0, F0, rfl, hx0, hx⟩ := fit_t hx
      obtain ⟨x1, F1, rfl, hx1, hx⟩ := fit_t hx
      obtain ⟨x2, F2, rfl, hx2, hx⟩ := fit_i hx
      obtain ⟨x3, F3, rfl, hx3, hx⟩ := fit_i hx
      obtain ⟨a4, n4, c4, k4, F4, rfl, hf4, hx⟩ := fit_s hx
      obtain rfl := fit_nil hx
      obtain ⟨u0, rfl, s_1⟩ := Fo.sim_v hxy
      obtain ⟨u1, rfl, s_2⟩ := Fo.sim_v s_1
      obtain ⟨u2, rfl, s_3⟩ := Fo.sim_v s_2
      obtain ⟨u3, rfl, s_4⟩ := Fo.sim_v s_3
      obtain ⟨d4, e4, t4, u4, rfl, r4, s_5⟩ := Fo.sim_s s_4
      obtain rfl := Fo.sim_nil s_5
      clear hxy s_1 s_2 s_3 s_4 s_5
      simp only [Fo.vals] at HC hc hc'
      have HS : Hid (∀ V, Below wr.heap.size wr V → V.cell? ⟨g, o + i * 5, none⟩ = some (.string x0) ∧ V.cell? ⟨g, o + i * 5 + 1, none⟩ = some (.string x1) ∧ V.cell? ⟨g, o + i * 5 + 2, none⟩ = some (.int .i64 x2) ∧ V.cell? ⟨g, o + i * 5 + 3, none⟩ = some (.int .i64 x3) ∧ V.cell? ⟨g, o + i * 5 + 4, none⟩ = some (.slice a4 n4 c4) ∧ V.cell? ⟨g', o' + i * 5, none⟩ = some (.string x0) ∧ V.cell? ⟨g', o' + i * 5 + 1, none⟩ = some (.string x1) ∧ V.cell? ⟨g', o' + i * 5 + 2, none⟩ = some (.int .i64 x2) ∧ V.cell? ⟨g', o' + i * 5 + 3, none⟩ = some (.int .i64 x3) ∧ V.cell? ⟨g', o' + i * 5 + 4, none⟩ = some (.slice d4 n4 e4)) := fun V bV => by
        have h1 := hc.below bV (by have := HBZ.out; omega)
        have h2 := hc'.below bV (by have := HBZ.out; omega)
        exact ⟨h1 0 _ rfl, h1 1 _ rfl, h1 2 _ rfl, h1 3 _ rfl, h1 4 _ rfl, h2 0 _ rfl, h2 1 _ rfl, h2 2 _ rfl, h2 3 _ rfl, h2 4 _ rfl⟩
      clear hc hc'
      have hd0 : Hid (Below wr.heap.size wr wr.drew) := (Below.refl _ wr).drew
      have kk0 := HS.out wr.drew hd0.out
      have kk00 := HS.out wr (Below.refl _ _)
      have HC0 := hide (HC.out wr.drew hd0.out)
      obtain ⟨p0, p1, p2, p3, p4, p5, p6, p7, p8, p9⟩ := kk00
      clear HC
      go_wp2_with fail
      go_region_held3 (fun V => V.cell? ⟨g, o + i * 5, none⟩ = some (.string x0) ∧ V.cell? ⟨g, o + i * 5 + 1, none⟩ = some (.string x1) ∧ V.cell? ⟨g, o + i * 5 + 2, none⟩ = some (.int .i64 x2) ∧ V.cell? ⟨g, o + i * 5 + 3, none⟩ = some (.int .i64 x3) ∧ V.cell? ⟨g, o + i * 5 + 4, none⟩ = some (.slice a4 n4 c4) ∧ V.cell? ⟨g', o' + i * 5, none⟩ = some (.string x0) ∧ V.cell? ⟨g', o' + i * 5 + 1, none⟩ = some (.string x1) ∧ V.cell? ⟨g', o' + i * 5 + 2, none⟩ = some (.int .i64 x2) ∧ V.cell? ⟨g', o' + i * 5 + 3, none⟩ = some (.int .i64 x3) ∧ V.cell? ⟨g', o' + i * 5 + 4, none⟩ = some (.slice d4 n4 e4))
        (first | with_reducible exact kk1 | with_reducible exact kk0)
        (first | (go_at_call 8; refine HC0.out.mono ?_; rintro e w1 ⟨rfl, b1⟩; have HB1 : Hid (Below wr.heap.size wr w1) := hd0.out.trans b1; have kk1 := HS.out w1 HB1.out; clear b1))
      all_goals
        go_wp2_with fail
        go_roundw
        case rel => exact ⟨i + 1, rr, qq, by go_num, by omega, (by show _ ≤ _; have := HZ1.out; omega), HQ, HR1.out.below HB1.out (by have := HBZ.out; omega), HR1'.out.below HB1.out (by have := HBZ.out; omega), hB.out.trans (HB1.out.mono HBZ.out)⟩
        case measure => simp [intOf]; omega
    · obtain ⟨-, rfl⟩ := hR.out.done hi
      clear hR hR' hrs hrq
      go_wp2_with fail
      go_ret
      exact ⟨rfl, hB.out⟩

theorem eq_R_ConInfoS (m : Nat) : EqR Try.prog E 29 (E 3) m := eq_R_ConInfoS_of m (eq_C_ConInfo m)
end Go.Proofs.Ytcflciblcdabpaa
