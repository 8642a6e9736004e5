import Derived.Test.YtcflciblcdabpaaKe
namespace Go.Proofs.Ytcflciblcdabpaa
open Go.RowKit Go.Joins

set_option maxHeartbeats 2000000 in
set_option maxRecDepth 100000 in
theorem eq_C_Pred (m : Nat) : EqC Try.prog E 80 (E 5) m := by
  intro F G nb W hm hf hn hsim hs ht
  replace hf : Fit E F [.t, .i] := hf
  obtain ⟨x0, F0, rfl, hx0, hf⟩ := fit_t hf
  obtain ⟨x1, F1, rfl, hx1, hf⟩ := fit_i hf
  obtain rfl := fit_nil hf
  obtain ⟨u0, rfl, s_1⟩ := Fo.sim_v hsim
  obtain ⟨u1, rfl, s_2⟩ := Fo.sim_v s_1
  obtain rfl := Fo.sim_nil s_2
  clear hsim s_1 s_2
  clear hs ht
  simp only [Fo.size] at hm
  simp only [Fo.vals]
  have hB0 := hide (below_alloc2 W (.cells #[.string x0, .int .i64 x1] 154) (.cells #[.string x0, .int .i64 x1] 154))
  go_enter Try.func80, Try.ntmps80
  go_wp2_with fail
  go_ret
  exact ⟨rfl, hB0.out⟩

set_option maxHeartbeats 2000000 in
set_option maxRecDepth 100000 in
theorem eq_R_PredS_of (m : Nat) (h : EqC Try.prog E 80 (E 5) m) : EqR Try.prog E 75 (E 5) m := by
  intro F G n nb W a b cap dap hm hf hn hsim hs ht
  have hmx : n ≤ 9223372036854775807 := by have h2 := hs.1; have h3 := hs.2.1; simp only [maxLen] at h3; omega
  have HR := hide (Rd.start hf hs)
  have HR' := hide (Rd.start (hsim.fit hf) ht)
  have HM := hide hm
  have HSI := hide hsim
  clear hf hs hm ht hsim
  go_enter Try.func75, Try.ntmps75
  go_wp2_with fail
  go_loopw [5] (fun s5 wr => ∃ (i : Nat) (r q : Fo), s5 = .int .i64 i ∧ i ≤ n ∧ Hid (r.size ≤ F.size) ∧ Hid (q.sim r) ∧ Hid (Rd E (E 5) n nb a i r wr) ∧ Hid (Rd E (E 5) n nb b i q wr) ∧ Hid (Below W.heap.size W wr)) (fun s5 _ => n - (intOf s5).toNat)
  case atStart => exact ⟨0, F, G, rfl, Nat.zero_le _, Nat.le_refl _, HSI, HR, HR', Below.refl _ _⟩
  case round =>
    obtain ⟨i, r, q, rfl, hin, hrs, hrq, hR, hR', hB⟩ := hrel
    by_cases hi : i < n
    · obtain ⟨x, rr, g, o, rfl, hx, rfl, hg, hc, hxs, hR1⟩ := hR.out.next hi (by decide)
      obtain ⟨y, qq, g', o', rfl, hy, rfl, hg', hc', hys, hR1'⟩ := hR'.out.next hi (by decide)
      have HR1 := hide hR1
      have HR1' := hide hR1'
      obtain ⟨hxy, hqr⟩ := Fo.sim.split (x := x) (y := y) (by rw [Fit.len hx, Fit.len hy]) hrq.out
      have HQ := hide hqr
      have HZ := hrs.out
      rw [Fo.app_size] at HZ
      have hbz := hB.out.size
      have hii : (i : Int) < n := by omega
      clear hR hR' hR1 hR1' hrs hrq hqr hy
      replace hx : Fit E x [.t, .i] := hx
      have HC : Hid (∀ V, Below wr.heap.size wr V → Calls Try.prog 80 #[.agg x.vals.toArray, .agg y.vals.toArray] V fun e W' => e = .returned (.bool true) ∧ Below V.heap.size V W') := fun V bV => h x y nb V (by have := HM.out; omega) hx (by have := bV.size; omega) hxy (hxs.below bV (fun c hc => by omega)) (hys.below bV (fun c hc => by omega))
      have HZ1 := hide HZ
      have HBZ := hide hbz
      clear HZ hbz hxs hys
      obtain ⟨x0, F0, rfl, hx0, hx⟩ := fit_t hx
      obtain ⟨x1, F1, rfl, hx1, hx⟩ := fit_i hx
      obtain rfl := fit_nil hx
      obtain ⟨u0, rfl, s_1⟩ := Fo.sim_v hxy
      obtain ⟨u1, rfl, s_2⟩ := Fo.sim_v s_1
      obtain rfl := Fo.sim_nil s_2
      clear hxy s_1 s_2
      simp only [Fo.vals] at HC hc hc'
      have HS : Hid (∀ V, Below wr.heap.size wr V → V.cell? ⟨g, o + i * 2, none⟩ = some (.string x0) ∧ V.cell? ⟨g, o + i * 2 + 1, none⟩ = some (.int .i64 x1) ∧ V.cell? ⟨g', o' + i * 2, none⟩ = some (.string x0) ∧ V.cell? ⟨g', o' + i * 2 + 1, none⟩ = some (.int .i64 x1)) := fun V bV => by
        have h1 := hc.below bV (by have := HBZ.out; omega)
        have h2 := hc'.below bV (by have := HBZ.out; omega)
        exact ⟨h1 0 _ rfl, h1 1 _ rfl, h2 0 _ rfl, h2 1 _ rfl⟩
      clear hc hc'
      have hd0 : Hid (Below wr.heap.size wr wr.drew) := (Below.refl _ wr).drew
      have kk0 := HS.out wr.drew hd0.out
      have kk00 := HS.out wr (Below.refl _ _)
      have HC0 := hide (HC.out wr.drew hd0.out)
      obtain ⟨p0, p1, p2, p3⟩ := kk00
      clear HC
      go_wp2_with fail
      go_region_held3 (fun V => V.cell? ⟨g, o + i * 2, none⟩ = some (.string x0) ∧ V.cell? ⟨g, o + i * 2 + 1, none⟩ = some (.int .i64 x1) ∧ V.cell? ⟨g', o' + i * 2, none⟩ = some (.string x0) ∧ V.cell? ⟨g', o' + i * 2 + 1, none⟩ = some (.int .i64 x1))
        (first | with_reducible exact kk1 | with_reducible exact kk0)
        (first | (go_at_call 80; refine HC0.out.mono ?_; rintro e w1 ⟨rfl, b1⟩; have HB1 : Hid (Below wr.heap.size wr w1) := hd0.out.trans b1; have kk1 := HS.out w1 HB1.out; clear b1))
      all_goals
        go_wp2_with fail
        go_roundw
        case rel => exact ⟨i + 1, rr, qq, by go_num, by omega, (by show _ ≤ _; have := HZ1.out; omega), HQ, HR1.out.below HB1.out (by have := HBZ.out; omega), HR1'.out.below HB1.out (by have := HBZ.out; omega), hB.out.trans (HB1.out.mono HBZ.out)⟩
        case measure => simp [intOf]; omega
    · obtain ⟨-, rfl⟩ := hR.out.done hi
      clear hR hR' hrs hrq
      go_wp2_with fail
      go_ret
      exact ⟨rfl, hB.out⟩

theorem eq_R_PredS (m : Nat) : EqR Try.prog E 75 (E 5) m := eq_R_PredS_of m (eq_C_Pred m)
end Go.Proofs.Ytcflciblcdabpaa
