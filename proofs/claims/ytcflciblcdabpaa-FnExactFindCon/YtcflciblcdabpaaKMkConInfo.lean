import Derived.Test.YtcflciblcdabpaaKx
import Derived.Test.YtcflciblcdabpaaKMkType
namespace Go.Proofs.Ytcflciblcdabpaa
open Go.RowKit Go.Joins

set_option maxHeartbeats 2000000 in
set_option maxRecDepth 100000 in
theorem mk_R_ConInfoS (m : Nat) : MkR Try.prog E 34 (E 3) m := by
  intro F n a cap k W hm hf hk0 hk hs hnd hlv
  have hmx : n ≤ 9223372036854775807 := by have h2 := hs.1.1; have h3 := hs.1.2.1; simp only [maxLen] at h3; omega
  have hfl : F.len = n * 5 := by rw [Fit.len hf, rep_len]; rfl
  by_cases hp : 0 < n
  · have hl : 0 < F.len := by omega
    obtain ⟨b, o, rfl, -, -, -⟩ := hs.1.2.2 hl
    have HI := hide (MkI.start (k0 := k) hl hs.1 (by simpa [Fo.inn] using hnd) (by simpa [Fo.inn] using hlv))
    have HL := hide hl
    have HF := hide hf
    have HM := hide hm
    have HK := hide hk
    have HCP := hide (And.intro hs.1.1 hs.1.2.1)
    clear hl hf hs hnd hlv hm hk hfl
    go_enter Try.func34, Try.ntmps34
    go_wp2_with fail
    go_loopw [1, 5] (fun s1 s5 wr => ∃ (i q : Nat) (r Fp : Fo), s1 = .int .i64 (q : Int) ∧ s5 = .int .i64 i ∧ i ≤ n ∧ Hid (k + Fp.ct = q) ∧ Hid (Fp.len = i * 5) ∧ Hid (Fit E r (rep (E 3) (n - i))) ∧ Hid (MkI b o F k W Fp r wr)) (fun _ s5 _ => n - (intOf s5).toNat)
    case atStart => exact ⟨0, k, F, .nil, rfl, rfl, Nat.zero_le _, (by show _ = _; simp [Fo.ct]), (by show _ = _; simp [Fo.len]), HF, HI⟩
    case round =>
      obtain ⟨i, q, r, Fp, rfl, rfl, hin, hq, hfp, hR, hI⟩ := hrel
      by_cases hi : i < n
      · obtain ⟨x, rr, rfl, hx, hrr, -⟩ := hR.out.next hi
        have HRR := hide hrr
        have hii : (i : Int) < n := by omega
        have hct := congrArg Fo.ct hI.out.eq
        have hsz := congrArg Fo.size hI.out.eq
        clear hR hrr
        replace hx : Fit E x [.t, .t, .i, .i, .s 2] := hx
        obtain ⟨x0, F0, rfl, hx0, hx⟩ := fit_t hx
        obtain ⟨x1, F1, rfl, hx1, hx⟩ := fit_t hx
        obtain ⟨x2, F2, rfl, hx2, hx⟩ := fit_i hx
        obtain ⟨x3, F3, rfl, hx3, hx⟩ := fit_i hx
        obtain ⟨a4, n4, c4, k4, F4, rfl, hf4, hx⟩ := fit_s hx
        obtain rfl := fit_nil hx
        have I0 : Hid (MkI b o F k W Fp (.v (.string x0) (.v (.string x1) (.v (.int .i64 x2) (.v (.int .i64 x3) (.s a4 n4 c4 k4 rr))))) wr) := hI
        simp only [Fo.app, Fo.app_ct, Fo.ct] at hct
        simp only [Fo.app, Fo.app_size, Fo.size] at hsz
        have hqk : 0 < q ∧ q + (1 + 1 + 1 + 1 + k4.ct) ≤ 4294967296 := by have := hq.out; have := HK.out; omega
        have HQK := hide hqk
        have hv0 : q + 4 ≤ 4294967296 := by omega
        have HSZ := hide hsz
        clear hI hct hsz hqk
        have HM0 : Hid (∀ w, Calls Try.prog 59 #[.int .i64 ((q : Int))] w fun e w' => e = .returned (.string (mt (q))) ∧ Below w.heap.size w w') := fun w => by
          have e : ((q : Nat) : Int) = (q : Int) := by omega
          rw [← e]
          exact markText (q) w (by have := HQK.out; have := hq.out; omega) (by have := HQK.out; have := hq.out; omega)
        go_wp2_with fail
        refine (HM0.out wr).mono ?_
        rintro e w1 ⟨rfl, b1⟩
        have I1 := hide (I0.out.below b1)
        clear b1 HM0
        have HM1 : Hid (∀ w, Calls Try.prog 59 #[.int .i64 ((q : Int) + 1)] w fun e w' => e = .returned (.string (mt (q + 1))) ∧ Below w.heap.size w w') := fun w => by
          have e : ((q + 1 : Nat) : Int) = (q : Int) + 1 := by omega
          rw [← e]
          exact markText (q + 1) w (by have := HQK.out; have := hq.out; omega) (by have := HQK.out; have := hq.out; omega)
        have p1_0 : w1.cell? ⟨b, o + i * 5, none⟩ = some (.string x0) := I1.out.at_ 0 _ rfl (by have := hfp.out; (try simp only [Fo.app_len, Fo.len]); omega)
        have f1_0 := I1.out.free (o + i * 5)
        obtain ⟨V2, hV2⟩ : ∃ V, (w1.setCell ⟨b, o + i * 5, none⟩ (.string (mt (q)))) = V := ⟨_, rfl⟩
        have I2 : Hid (MkI b o F k W (Fp.app (.v (.string x0) .nil)) (.v (.string x1) (.v (.int .i64 x2) (.v (.int .i64 x3) (.s a4 n4 c4 k4 rr)))) V2) := by
          rw [← hV2]
          exact (I1.out.set (q := q) (by have := hfp.out; (try simp only [Fo.app_len, Fo.len]); omega) (by have := hq.out; (try simp only [Fo.app_ct, Fo.ct] at this ⊢); omega) (by first | rfl | (simp only [mkV]; congr 1; omega)))
        have HV2 := hide hV2
        clear hV2
        go_wp2_with fail
        rw [HV2.out]
        clear p1_0 f1_0
        refine (HM1.out V2).mono ?_
        rintro e w3 ⟨rfl, b3⟩
        have I3 := hide (I2.out.below b3)
        clear b3 HM1
        have HM4 : Hid (∀ w, Fo.Subs w (fun c => c < w.heap.size) (.s a4 n4 c4 k4 .nil) → (Fo.inn (.s a4 n4 c4 k4 .nil)).Nodup → Live w (Fo.inn (.s a4 n4 c4 k4 .nil)) → Calls Try.prog 39 #[.slice a4 n4 c4, .int .i64 ((q : Int) + 1 + 1 + 1 + 1)] w fun e w' => e = .returned (.int .i64 ((q + 4 + k4.ct : Nat) : Int)) ∧
            Fo.Subs w' (fun c => c < w.heap.size) (Fo.mks (.s a4 n4 c4 k4 .nil) (q + 4)) ∧ Kept (fun c => c ∉ Fo.inn (.s a4 n4 c4 k4 .nil)) w w' ∧ Live w' (Fo.inn (.s a4 n4 c4 k4 .nil))) := fun w h1 h2 h3 => by
          have e : ((q + 4 : Nat) : Int) = (q : Int) + 1 + 1 + 1 + 1 := by omega
          rw [← e]
          exact mk_R_TypeS m k4 n4 a4 c4 (q + 4) w (by have := HM.out; have := HSZ.out; omega) hf4 (by have := HQK.out; have := hq.out; omega) (by have := HQK.out; have := hq.out; omega) h1 h2 h3
        have p3_1 : w3.cell? ⟨b, o + i * 5 + 1, none⟩ = some (.string x1) := I3.out.at_ 0 _ rfl (by have := hfp.out; (try simp only [Fo.app_len, Fo.len]); omega)
        have f3_1 := I3.out.free (o + i * 5 + 1)
        have p3_2 : w3.cell? ⟨b, o + i * 5 + 2, none⟩ = some (.int .i64 x2) := I3.out.at_ 1 _ rfl (by have := hfp.out; (try simp only [Fo.app_len, Fo.len]); omega)
        have f3_2 := I3.out.free (o + i * 5 + 2)
        have p3_3 : w3.cell? ⟨b, o + i * 5 + 3, none⟩ = some (.int .i64 x3) := I3.out.at_ 2 _ rfl (by have := hfp.out; (try simp only [Fo.app_len, Fo.len]); omega)
        have f3_3 := I3.out.free (o + i * 5 + 3)
        have p3_4 : w3.cell? ⟨b, o + i * 5 + 4, none⟩ = some (.slice a4 n4 c4) := I3.out.at_ 3 _ rfl (by have := hfp.out; (try simp only [Fo.app_len, Fo.len]); omega)
        obtain ⟨V4, hV4⟩ : ∃ V, (((w3.setCell ⟨b, o + i * 5 + 1, none⟩ (.string (mt (q + 1)))).setCell ⟨b, o + i * 5 + 2, none⟩ (.int .i64 ((q : Int) + 1 + 1))).setCell ⟨b, o + i * 5 + 3, none⟩ (.int .i64 ((q : Int) + 1 + 1 + 1))) = V := ⟨_, rfl⟩
        have I4 : Hid (MkI b o F k W ((((Fp.app (.v (.string x0) .nil)).app (.v (.string x1) .nil)).app (.v (.int .i64 x2) .nil)).app (.v (.int .i64 x3) .nil)) (.s a4 n4 c4 k4 rr) V4) := by
          rw [← hV4]
          exact (((I3.out.set (q := q + 1) (by have := hfp.out; (try simp only [Fo.app_len, Fo.len]); omega) (by have := hq.out; (try simp only [Fo.app_ct, Fo.ct] at this ⊢); omega) (by first | rfl | (simp only [mkV]; congr 1; omega))).set (q := q + 2) (by have := hfp.out; (try simp only [Fo.app_len, Fo.len]); omega) (by have := hq.out; (try simp only [Fo.app_ct, Fo.ct] at this ⊢); omega) (by first | rfl | (simp only [mkV]; congr 1; omega))).set (q := q + 3) (by have := hfp.out; (try simp only [Fo.app_len, Fo.len]); omega) (by have := hq.out; (try simp only [Fo.app_ct, Fo.ct] at this ⊢); omega) (by first | rfl | (simp only [mkV]; congr 1; omega)))
        have HV4 := hide hV4
        clear hV4
        go_wp2_with fail
        rw [HV4.out]
        clear p3_1 p3_2 p3_3 f3_1 f3_2 f3_3 p3_4
        refine (HM4.out V4 I4.out.sub.1 I4.out.sub.2.1 I4.out.sub.2.2).mono ?_
        rintro e w5 ⟨rfl, s5, b5, l5⟩
        have I5 := hide (I4.out.call (q := q + 4) (by have := hq.out; (try simp only [Fo.app_ct, Fo.ct] at this ⊢); omega) b5 s5 l5)
        obtain ⟨q4, hq4⟩ : ∃ q4, q + 4 + k4.ct = q4 := ⟨_, rfl⟩
        rw [hq4]
        have HQ4 : Hid (k + (((((Fp.app (.v (.string x0) .nil)).app (.v (.string x1) .nil)).app (.v (.int .i64 x2) .nil)).app (.v (.int .i64 x3) .nil)).app (.s a4 n4 c4 k4 .nil)).ct = q4 ∧ q + 4 + k4.ct = q4) := ⟨by have := hq.out; (try simp only [Fo.app_ct, Fo.ct] at this ⊢); omega, hq4⟩
        have HE4 : Hid (k + (((((Fp.app (.v (.string x0) .nil)).app (.v (.string x1) .nil)).app (.v (.int .i64 x2) .nil)).app (.v (.int .i64 x3) .nil)).app (.s a4 n4 c4 k4 .nil)).ct = q4) := HQ4.out.1
        have hv5 : q4 + 0 ≤ 4294967296 := by have := HQK.out; have := HQ4.out; omega
        clear b5 s5 l5 hq4 HM4
        go_wp2_with fail
        go_roundw
        case rel => exact ⟨i + 1, q4, rr, (((((Fp.app (.v (.string x0) .nil)).app (.v (.string x1) .nil)).app (.v (.int .i64 x2) .nil)).app (.v (.int .i64 x3) .nil)).app (.s a4 n4 c4 k4 .nil)), rfl, by go_num, by omega, (by show _ = _; have := HE4.out; simp only [Fo.app_ct, Fo.ct] at this ⊢; omega), (by show _ = _; have := hfp.out; (try simp only [Fo.app_len, Fo.len]); omega), HRR, I5⟩
        case measure => simp [intOf]; omega
      · have e1 := hR.out.done hi
        subst e1
        have hin2 : i = n := by omega
        subst hin2
        have h1 := hide (hI.out.finish HCP.out.1 HCP.out.2 HL.out)
        clear hR hI
        go_wp2_with fail
        go_ret
        obtain ⟨h2, h3, h4, h5⟩ := h1.out
        subst h2
        exact ⟨by rw [hq.out]; rfl, h3, h4, h5⟩
  · have e1 : n = 0 := by omega
    subst e1
    obtain rfl := fit_nil hf
    clear hfl
    go_enter Try.func34, Try.ntmps34
    go_wp2_with fail
    go_loopw [1, 5] (fun s1 s5 wr => s1 = .int .i64 k ∧ s5 = .int .i64 0 ∧ wr = W) (fun _ _ _ => 0)
    case atStart => exact ⟨rfl, rfl, rfl⟩
    case round =>
      obtain ⟨rfl, rfl, rfl⟩ := hrel
      go_wp2_with fail
      go_ret
      exact ⟨by simp [Fo.ct], ⟨⟨hs.1.1, hs.1.2.1, fun h => by simp [Fo.mk, Fo.len] at h⟩, trivial⟩, Kept.refl _ _, hlv⟩

set_option maxHeartbeats 2000000 in
set_option maxRecDepth 100000 in
theorem mk_C_ConInfo (m : Nat) : MkC Try.prog E 11 (E 3) m := by
  intro F k W hm hf hk0 hk hs hnd hlv
  have HI := hide (MkS.start (k0 := k) hs hnd hlv)
  clear hs hnd hlv
  replace hf : Fit E F [.t, .t, .i, .i, .s 2] := hf
  obtain ⟨x0, F0, rfl, hx0, hf⟩ := fit_t hf
  obtain ⟨x1, F1, rfl, hx1, hf⟩ := fit_t hf
  obtain ⟨x2, F2, rfl, hx2, hf⟩ := fit_i hf
  obtain ⟨x3, F3, rfl, hx3, hf⟩ := fit_i hf
  obtain ⟨a4, n4, c4, k4, F4, rfl, hf4, hf⟩ := fit_s hf
  obtain rfl := fit_nil hf
  simp only [Fo.size] at hm
  simp only [Fo.sct] at hk ⊢
  simp only [Fo.vals]
  have HK := hide hk
  clear hk
  have HV0 := hide (below_alloc1 W (.cells #[.string x0, .string x1, .int .i64 x2, .int .i64 x3, .slice a4 n4 c4] 32))
  have Q0 := hide (Bx.new W [.string x0, .string x1, .int .i64 x2, .int .i64 x3, .slice a4 n4 c4] 32)
  have I0 := hide (HI.out.below HV0.out)
  obtain ⟨w0, hw0⟩ : ∃ V, W.alloc (.cells #[.string x0, .string x1, .int .i64 x2, .int .i64 x3, .slice a4 n4 c4] 32) = V := ⟨_, rfl⟩
  rw [hw0] at Q0 I0 HV0
  have HE0 := hide hw0
  clear hw0 HI
  go_enter Try.func11, Try.ntmps11
  have hq : Hid (k + Fo.sct .nil = k) := rfl
  have I0_0 := hide (I0.out.skip)
  have hq_0 : Hid (k + ((Fo.nil).app (.v (.string x0) .nil)).sct = k) := by
    have := hq.out
    show _ = _
    simp only [Fo.app_sct, Fo.sct] at this ⊢
    omega
  have I0_1 := hide (I0_0.out.skip)
  have hq_1 : Hid (k + (((Fo.nil).app (.v (.string x0) .nil)).app (.v (.string x1) .nil)).sct = k) := by
    have := hq_0.out
    show _ = _
    simp only [Fo.app_sct, Fo.sct] at this ⊢
    omega
  have I0_2 := hide (I0_1.out.skip)
  have hq_2 : Hid (k + ((((Fo.nil).app (.v (.string x0) .nil)).app (.v (.string x1) .nil)).app (.v (.int .i64 x2) .nil)).sct = k) := by
    have := hq_1.out
    show _ = _
    simp only [Fo.app_sct, Fo.sct] at this ⊢
    omega
  have I0_3 := hide (I0_2.out.skip)
  have hq_3 : Hid (k + (((((Fo.nil).app (.v (.string x0) .nil)).app (.v (.string x1) .nil)).app (.v (.int .i64 x2) .nil)).app (.v (.int .i64 x3) .nil)).sct = k) := by
    have := hq_2.out
    show _ = _
    simp only [Fo.app_sct, Fo.sct] at this ⊢
    omega
  go_wp2_with fail
  rw [HE0.out]
  have hb1 : k + Fo.sct (.s a4 n4 c4 k4 .nil) ≤ 4294967296 := by have := HK.out; have := hq_3.out; simp only [Fo.app_sct, Fo.sct] at this ⊢;  omega
  have S1 := MkS.sub (X := (.s a4 n4 c4 k4 .nil)) I0_3.out
  have HC1 := mk_R_TypeS (k4.size + 1) k4 n4 a4 c4 k w0 (Nat.lt_succ_self _) hf4 (by  omega) (by simp only [Fo.sct] at hb1; omega) S1.1 S1.2.1 S1.2.2
  refine HC1.mono ?_
  clear HC1 S1
  rintro e w1 ⟨rfl, s1, b1, l1⟩
  have I1 := hide (MkS.call (X := (.s a4 n4 c4 k4 .nil)) I0_3.out hq_3.out b1 s1 l1)
  obtain ⟨q1, hq1⟩ : ∃ q1, k + k4.ct = q1 := ⟨_, rfl⟩
  rw [hq1]
  have Q1 := hide (Q0.out.kept b1 (MkS.away (X := (.s a4 n4 c4 k4 .nil)) I0_3.out (Nat.le_refl _)))
  have HN1 : Hid (k + k4.ct = q1) := by
    have := hq1
    show _ = _
    skip
    omega
  have hqq1 : Hid (k + ((((((Fo.nil).app (.v (.string x0) .nil)).app (.v (.string x1) .nil)).app (.v (.int .i64 x2) .nil)).app (.v (.int .i64 x3) .nil)).app (.s a4 n4 c4 k4 .nil)).sct = q1) := by
    have := hq_3.out
    have := HN1.out
    show _ = _
    simp only [Fo.app_sct, Fo.sct] at *
    omega
  clear b1 s1 l1 hq1 hb1
  have h1 := hide (I1.out.finish)
  go_wp2_with fail
  go_ret
  exact ⟨ret_int (by have := HN1.out; omega), h1.out.1, h1.out.2.1, h1.out.2.2⟩

end Go.Proofs.Ytcflciblcdabpaa
