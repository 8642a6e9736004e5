import Derived.Test.YtcnokpaicnjkfaaKx
namespace Go.Proofs.Ytcnokpaicnjkfaa
open Go.RowKit Go.Joins

set_option maxHeartbeats 2000000 in
set_option maxRecDepth 100000 in
theorem mk_R_StringS (m : Nat) : MkR Try.prog E 11 (E 1) m := by
  intro F n a cap k W hm hf hk0 hk hs hnd hlv
  have hmx : n ≤ 9223372036854775807 := by have h2 := hs.1.1; have h3 := hs.1.2.1; simp only [maxLen] at h3; omega
  have hfl : F.len = n * 1 := by rw [Fit.len hf, rep_len]; rfl
  by_cases hp : 0 < n
  · have hl : 0 < F.len := by omega
    obtain ⟨b, o, rfl, -, -, -⟩ := hs.1.2.2 hl
    have HI := hide (MkI.start (k0 := k) hl hs.1 (by simpa [Fo.inn] using hnd) (by simpa [Fo.inn] using hlv))
    have HL := hide hl
    have HF := hide hf
    have HM := hide hm
    have HK := hide hk
    have HCP := hide (And.intro hs.1.1 hs.1.2.1)
    clear hl hf hs hnd hlv hm hk hfl
    go_enter Try.func11, Try.ntmps11
    go_wp2_with fail
    go_loopw [1, 5] (fun s1 s5 wr => ∃ (i q : Nat) (r Fp : Fo), s1 = .int .i64 (q : Int) ∧ s5 = .int .i64 i ∧ i ≤ n ∧ Hid (k + Fp.ct = q) ∧ Hid (Fp.len = i * 1) ∧ Hid (Fit E r (rep (E 1) (n - i))) ∧ Hid (MkI b o F k W Fp r wr)) (fun _ s5 _ => n - (intOf s5).toNat)
    case atStart => exact ⟨0, k, F, .nil, rfl, rfl, Nat.zero_le _, (by show _ = _; simp [Fo.ct]), (by show _ = _; simp [Fo.len]), HF, HI⟩
    case round =>
      obtain ⟨i, q, r, Fp, rfl, rfl, hin, hq, hfp, hR, hI⟩ := hrel
      by_cases hi : i < n
      · obtain ⟨x, rr, rfl, hx, hrr, -⟩ := hR.out.next hi
        have HRR := hide hrr
        have hii : (i : Int) < n := by omega
        have hct := congrArg Fo.ct hI.out.eq
        have hsz := congrArg Fo.size hI.out.eq
        clear hR hrr
        replace hx : Fit E x [.t] := hx
        obtain ⟨x0, F0, rfl, hx0, hx⟩ := fit_t hx
        obtain rfl := fit_nil hx
        have I0 : Hid (MkI b o F k W Fp (.v (.string x0) rr) wr) := hI
        simp only [Fo.app, Fo.app_ct, Fo.ct] at hct
        simp only [Fo.app, Fo.app_size, Fo.size] at hsz
        have hqk : 0 < q ∧ q + (1) ≤ 4294967296 := by have := hq.out; have := HK.out; omega
        have HQK := hide hqk
        have hv0 : q + 1 ≤ 4294967296 := by omega
        have HSZ := hide hsz
        clear hI hct hsz hqk
        have HM0 : Hid (∀ w, Calls Try.prog 37 #[.int .i64 ((q : Int))] w fun e w' => e = .returned (.string (mt (q))) ∧ Below w.heap.size w w') := fun w => by
          have e : ((q : Nat) : Int) = (q : Int) := by omega
          rw [← e]
          exact markText (q) w (by have := HQK.out; have := hq.out; omega) (by have := HQK.out; have := hq.out; omega)
        go_wp2_with fail
        refine (HM0.out wr).mono ?_
        rintro e w1 ⟨rfl, b1⟩
        have I1 := hide (I0.out.below b1)
        clear b1 HM0
        have p1_0 : w1.cell? ⟨b, o + i, none⟩ = some (.string x0) := I1.out.at_ 0 _ rfl (by have := hfp.out; (try simp only [Fo.app_len, Fo.len]); omega)
        have f1_0 := I1.out.free (o + i)
        obtain ⟨V2, hV2⟩ : ∃ V, (w1.setCell ⟨b, o + i, none⟩ (.string (mt (q)))) = V := ⟨_, rfl⟩
        have I2 : Hid (MkI b o F k W (Fp.app (.v (.string x0) .nil)) rr V2) := by
          rw [← hV2]
          exact (I1.out.set (q := q) (by have := hfp.out; (try simp only [Fo.app_len, Fo.len]); omega) (by have := hq.out; (try simp only [Fo.app_ct, Fo.ct] at this ⊢); omega) (by first | rfl | (simp only [mkV]; congr 1; omega)))
        have HV2 := hide hV2
        clear hV2
        go_wp2_with fail
        go_roundw
        case rel => exact ⟨i + 1, q + 1, rr, (Fp.app (.v (.string x0) .nil)), by first | rfl | go_num, by go_num, by omega, (by show _ = _; have := hq.out; simp only [Fo.app_ct, Fo.ct] at this ⊢; omega), (by show _ = _; have := hfp.out; (try simp only [Fo.app_len, Fo.len]); omega), HRR, (by rw [← HV2.out] at I2; exact I2)⟩
        case measure => simp [intOf]; omega
      · have e1 := hR.out.done hi
        subst e1
        have hin2 : i = n := by omega
        subst hin2
        have h1 := hide (hI.out.finish HCP.out.1 HCP.out.2 HL.out)
        clear hR hI
        go_wp2_with fail
        go_ret
        obtain ⟨h2, h3, h4, h5⟩ := h1.out
        subst h2
        exact ⟨by rw [hq.out]; rfl, h3, h4, h5⟩
  · have e1 : n = 0 := by omega
    subst e1
    obtain rfl := fit_nil hf
    clear hfl
    go_enter Try.func11, Try.ntmps11
    go_wp2_with fail
    go_loopw [1, 5] (fun s1 s5 wr => s1 = .int .i64 k ∧ s5 = .int .i64 0 ∧ wr = W) (fun _ _ _ => 0)
    case atStart => exact ⟨rfl, rfl, rfl⟩
    case round =>
      obtain ⟨rfl, rfl, rfl⟩ := hrel
      go_wp2_with fail
      go_ret
      exact ⟨by simp [Fo.ct], ⟨⟨hs.1.1, hs.1.2.1, fun h => by simp [Fo.mk, Fo.len] at h⟩, trivial⟩, Kept.refl _ _, hlv⟩

end Go.Proofs.Ytcnokpaicnjkfaa

namespace Go.Proofs.Ytcnokpaicnjkfaa
open Go.RowKit Go.Joins

set_option maxHeartbeats 2000000 in
set_option maxRecDepth 100000 in
theorem mk_R_Uint32S (m : Nat) : MkR Try.prog E 52 (E 0) m := by
  intro F n a cap k W hm hf hk0 hk hs hnd hlv
  have hmx : n ≤ 9223372036854775807 := by have h2 := hs.1.1; have h3 := hs.1.2.1; simp only [maxLen] at h3; omega
  have hfl : F.len = n * 1 := by rw [Fit.len hf, rep_len]; rfl
  by_cases hp : 0 < n
  · have hl : 0 < F.len := by omega
    obtain ⟨b, o, rfl, -, -, -⟩ := hs.1.2.2 hl
    have HI := hide (MkI.start (k0 := k) hl hs.1 (by simpa [Fo.inn] using hnd) (by simpa [Fo.inn] using hlv))
    have HL := hide hl
    have HF := hide hf
    have HM := hide hm
    have HK := hide hk
    have HCP := hide (And.intro hs.1.1 hs.1.2.1)
    clear hl hf hs hnd hlv hm hk hfl
    go_enter Try.func52, Try.ntmps52
    go_wp2_with fail
    go_loopw [1, 5] (fun s1 s5 wr => ∃ (i q : Nat) (r Fp : Fo), s1 = .int .i64 (q : Int) ∧ s5 = .int .i64 i ∧ i ≤ n ∧ Hid (k + Fp.ct = q) ∧ Hid (Fp.len = i * 1) ∧ Hid (Fit E r (rep (E 0) (n - i))) ∧ Hid (MkI b o F k W Fp r wr)) (fun _ s5 _ => n - (intOf s5).toNat)
    case atStart => exact ⟨0, k, F, .nil, rfl, rfl, Nat.zero_le _, (by show _ = _; simp [Fo.ct]), (by show _ = _; simp [Fo.len]), HF, HI⟩
    case round =>
      obtain ⟨i, q, r, Fp, rfl, rfl, hin, hq, hfp, hR, hI⟩ := hrel
      by_cases hi : i < n
      · obtain ⟨x, rr, rfl, hx, hrr, -⟩ := hR.out.next hi
        have HRR := hide hrr
        have hii : (i : Int) < n := by omega
        have hct := congrArg Fo.ct hI.out.eq
        have hsz := congrArg Fo.size hI.out.eq
        clear hR hrr
        replace hx : Fit E x [.u] := hx
        obtain ⟨x0, F0, rfl, hx0, hx⟩ := fit_u hx
        obtain rfl := fit_nil hx
        have I0 : Hid (MkI b o F k W Fp (.v (.int .u32 x0) rr) wr) := hI
        simp only [Fo.app, Fo.app_ct, Fo.ct] at hct
        simp only [Fo.app, Fo.app_size, Fo.size] at hsz
        have hqk : 0 < q ∧ q + (1) ≤ 4294967296 := by have := hq.out; have := HK.out; omega
        have HQK := hide hqk
        have hv0 : q + 1 ≤ 4294967296 := by omega
        have HSZ := hide hsz
        clear hI hct hsz hqk
        have p0_0 : wr.cell? ⟨b, o + i, none⟩ = some (.int .u32 x0) := I0.out.at_ 0 _ rfl (by have := hfp.out; (try simp only [Fo.app_len, Fo.len]); omega)
        have f0_0 := I0.out.free (o + i)
        obtain ⟨V1, hV1⟩ : ∃ V, (wr.setCell ⟨b, o + i, none⟩ (.int .u32 ((q : Int)))) = V := ⟨_, rfl⟩
        have I1 : Hid (MkI b o F k W (Fp.app (.v (.int .u32 x0) .nil)) rr V1) := by
          rw [← hV1]
          exact (I0.out.set (q := q) (by have := hfp.out; (try simp only [Fo.app_len, Fo.len]); omega) (by have := hq.out; (try simp only [Fo.app_ct, Fo.ct] at this ⊢); omega) (by first | rfl | (simp only [mkV]; congr 1; omega)))
        have HV1 := hide hV1
        clear hV1
        go_wp2_with fail
        go_roundw
        case rel => exact ⟨i + 1, q + 1, rr, (Fp.app (.v (.int .u32 x0) .nil)), by first | rfl | go_num, by go_num, by omega, (by show _ = _; have := hq.out; simp only [Fo.app_ct, Fo.ct] at this ⊢; omega), (by show _ = _; have := hfp.out; (try simp only [Fo.app_len, Fo.len]); omega), HRR, (by rw [← HV1.out] at I1; exact I1)⟩
        case measure => simp [intOf]; omega
      · have e1 := hR.out.done hi
        subst e1
        have hin2 : i = n := by omega
        subst hin2
        have h1 := hide (hI.out.finish HCP.out.1 HCP.out.2 HL.out)
        clear hR hI
        go_wp2_with fail
        go_ret
        obtain ⟨h2, h3, h4, h5⟩ := h1.out
        subst h2
        exact ⟨by rw [hq.out]; rfl, h3, h4, h5⟩
  · have e1 : n = 0 := by omega
    subst e1
    obtain rfl := fit_nil hf
    clear hfl
    go_enter Try.func52, Try.ntmps52
    go_wp2_with fail
    go_loopw [1, 5] (fun s1 s5 wr => s1 = .int .i64 k ∧ s5 = .int .i64 0 ∧ wr = W) (fun _ _ _ => 0)
    case atStart => exact ⟨rfl, rfl, rfl⟩
    case round =>
      obtain ⟨rfl, rfl, rfl⟩ := hrel
      go_wp2_with fail
      go_ret
      exact ⟨by simp [Fo.ct], ⟨⟨hs.1.1, hs.1.2.1, fun h => by simp [Fo.mk, Fo.len] at h⟩, trivial⟩, Kept.refl _ _, hlv⟩

end Go.Proofs.Ytcnokpaicnjkfaa

namespace Go.Proofs.Ytcnokpaicnjkfaa
open Go.RowKit Go.Joins

set_option maxHeartbeats 2000000 in
set_option maxRecDepth 100000 in
theorem mk_C_Big (m : Nat) : MkC Try.prog E 34 [.b, .s 0] m := by
  intro F k W hm hf hk0 hk hs hnd hlv
  have HI := hide (MkS.start (k0 := k) hs hnd hlv)
  clear hs hnd hlv
  skip
  obtain ⟨x0, F0, rfl, hf⟩ := fit_b hf
  obtain ⟨a1, n1, c1, k1, F1, rfl, hf1, hf⟩ := fit_s hf
  obtain rfl := fit_nil hf
  simp only [Fo.size] at hm
  simp only [Fo.sct] at hk ⊢
  simp only [Fo.vals]
  have HK := hide hk
  clear hk
  have HV0 := hide (below_alloc1 W (.cells #[.bool x0, .slice a1 n1 c1] 32))
  have Q0 := hide (Bx.new W [.bool x0, .slice a1 n1 c1] 32)
  have I0 := hide (HI.out.below HV0.out)
  obtain ⟨w0, hw0⟩ : ∃ V, W.alloc (.cells #[.bool x0, .slice a1 n1 c1] 32) = V := ⟨_, rfl⟩
  rw [hw0] at Q0 I0 HV0
  have HE0 := hide hw0
  clear hw0 HI
  go_enter Try.func34, Try.ntmps34
  have hq : Hid (k + Fo.sct .nil = k) := rfl
  have I0_0 := hide (I0.out.skip)
  have hq_0 : Hid (k + ((Fo.nil).app (.v (.bool x0) .nil)).sct = k) := by
    have := hq.out
    show _ = _
    simp only [Fo.app_sct, Fo.sct] at this ⊢
    omega
  go_wp2_with fail
  rw [HE0.out]
  have hb1 : k + Fo.sct (.s a1 n1 c1 k1 .nil) ≤ 4294967296 := by have := HK.out; have := hq_0.out; simp only [Fo.app_sct, Fo.sct] at this ⊢;  omega
  have S1 := MkS.sub (X := (.s a1 n1 c1 k1 .nil)) I0_0.out
  have HC1 := mk_R_Uint32S (k1.size + 1) k1 n1 a1 c1 k w0 (Nat.lt_succ_self _) hf1 (by  omega) (by simp only [Fo.sct] at hb1; omega) S1.1 S1.2.1 S1.2.2
  refine HC1.mono ?_
  clear HC1 S1
  rintro e w1 ⟨rfl, s1, b1, l1⟩
  have I1 := hide (MkS.call (X := (.s a1 n1 c1 k1 .nil)) I0_0.out hq_0.out b1 s1 l1)
  obtain ⟨q1, hq1⟩ : ∃ q1, k + k1.ct = q1 := ⟨_, rfl⟩
  rw [hq1]
  have Q1 := hide (Q0.out.kept b1 (MkS.away (X := (.s a1 n1 c1 k1 .nil)) I0_0.out (Nat.le_refl _)))
  have HN1 : Hid (k + k1.ct = q1) := by
    have := hq1
    show _ = _
    skip
    omega
  have hqq1 : Hid (k + (((Fo.nil).app (.v (.bool x0) .nil)).app (.s a1 n1 c1 k1 .nil)).sct = q1) := by
    have := hq_0.out
    have := HN1.out
    show _ = _
    simp only [Fo.app_sct, Fo.sct] at *
    omega
  clear b1 s1 l1 hq1 hb1
  have h1 := hide (I1.out.finish)
  go_wp2_with fail
  go_ret
  exact ⟨ret_int (by have := HN1.out; omega), h1.out.1, h1.out.2.1, h1.out.2.2⟩

end Go.Proofs.Ytcnokpaicnjkfaa

namespace Go.Proofs.Ytcnokpaicnjkfaa
open Go.RowKit Go.Joins

set_option maxHeartbeats 2000000 in
set_option maxRecDepth 100000 in
theorem mk_R_CoreAltS_of (m : Nat) (hCore : MkR Try.prog E 35 (E 3) m) (hCoreAlt : MkR Try.prog E 36 (E 2) m) : MkR Try.prog E 36 (E 2) (m + 1) := by
  intro F n a cap k W hm hf hk0 hk hs hnd hlv
  have hmx : n ≤ 9223372036854775807 := by have h2 := hs.1.1; have h3 := hs.1.2.1; simp only [maxLen] at h3; omega
  have hfl : F.len = n * 9 := by rw [Fit.len hf, rep_len]; rfl
  by_cases hp : 0 < n
  · have hl : 0 < F.len := by omega
    obtain ⟨b, o, rfl, -, -, -⟩ := hs.1.2.2 hl
    have HI := hide (MkI.start (k0 := k) hl hs.1 (by simpa [Fo.inn] using hnd) (by simpa [Fo.inn] using hlv))
    have HL := hide hl
    have HF := hide hf
    have HM := hide hm
    have HK := hide hk
    have HCP := hide (And.intro hs.1.1 hs.1.2.1)
    clear hl hf hs hnd hlv hm hk hfl
    go_enter Try.func36, Try.ntmps36
    go_wp2_with fail
    go_loopw [1, 5] (fun s1 s5 wr => ∃ (i q : Nat) (r Fp : Fo), s1 = .int .i64 (q : Int) ∧ s5 = .int .i64 i ∧ i ≤ n ∧ Hid (k + Fp.ct = q) ∧ Hid (Fp.len = i * 9) ∧ Hid (Fit E r (rep (E 2) (n - i))) ∧ Hid (MkI b o F k W Fp r wr)) (fun _ s5 _ => n - (intOf s5).toNat)
    case atStart => exact ⟨0, k, F, .nil, rfl, rfl, Nat.zero_le _, (by show _ = _; simp [Fo.ct]), (by show _ = _; simp [Fo.len]), HF, HI⟩
    case round =>
      obtain ⟨i, q, r, Fp, rfl, rfl, hin, hq, hfp, hR, hI⟩ := hrel
      by_cases hi : i < n
      · obtain ⟨x, rr, rfl, hx, hrr, -⟩ := hR.out.next hi
        have HRR := hide hrr
        have hii : (i : Int) < n := by omega
        have hct := congrArg Fo.ct hI.out.eq
        have hsz := congrArg Fo.size hI.out.eq
        clear hR hrr
        replace hx : Fit E x [.t, .s 1, .i, .t, .b, .s 0, .s 1, .s 3, .s 2] := hx
        obtain ⟨x0, F0, rfl, hx0, hx⟩ := fit_t hx
        obtain ⟨a1, n1, c1, k1, F1, rfl, hf1, hx⟩ := fit_s hx
        obtain ⟨x2, F2, rfl, hx2, hx⟩ := fit_i hx
        obtain ⟨x3, F3, rfl, hx3, hx⟩ := fit_t hx
        obtain ⟨x4, F4, rfl, hx⟩ := fit_b hx
        obtain ⟨a5, n5, c5, k5, F5, rfl, hf5, hx⟩ := fit_s hx
        obtain ⟨a6, n6, c6, k6, F6, rfl, hf6, hx⟩ := fit_s hx
        obtain ⟨a7, n7, c7, k7, F7, rfl, hf7, hx⟩ := fit_s hx
        obtain ⟨a8, n8, c8, k8, F8, rfl, hf8, hx⟩ := fit_s hx
        obtain rfl := fit_nil hx
        have I0 : Hid (MkI b o F k W Fp (.v (.string x0) (.s a1 n1 c1 k1 (.v (.int .i64 x2) (.v (.string x3) (.v (.bool x4) (.s a5 n5 c5 k5 (.s a6 n6 c6 k6 (.s a7 n7 c7 k7 (.s a8 n8 c8 k8 rr))))))))) wr) := hI
        simp only [Fo.app, Fo.app_ct, Fo.ct] at hct
        simp only [Fo.app, Fo.app_size, Fo.size] at hsz
        have hqk : 0 < q ∧ q + (1 + k1.ct + 1 + 1 + 1 + k5.ct + k6.ct + k7.ct + k8.ct) ≤ 4294967296 := by have := hq.out; have := HK.out; omega
        have HQK := hide hqk
        have hv0 : q + 4 ≤ 4294967296 := by omega
        have HSZ := hide hsz
        clear hI hct hsz hqk
        have HM0 : Hid (∀ w, Calls Try.prog 37 #[.int .i64 ((q : Int))] w fun e w' => e = .returned (.string (mt (q))) ∧ Below w.heap.size w w') := fun w => by
          have e : ((q : Nat) : Int) = (q : Int) := by omega
          rw [← e]
          exact markText (q) w (by have := HQK.out; have := hq.out; omega) (by have := HQK.out; have := hq.out; omega)
        go_wp2_with fail
        refine (HM0.out wr).mono ?_
        rintro e w1 ⟨rfl, b1⟩
        have I1 := hide (I0.out.below b1)
        clear b1 HM0
        have HM1 : Hid (∀ w, Fo.Subs w (fun c => c < w.heap.size) (.s a1 n1 c1 k1 .nil) → (Fo.inn (.s a1 n1 c1 k1 .nil)).Nodup → Live w (Fo.inn (.s a1 n1 c1 k1 .nil)) → Calls Try.prog 11 #[.slice a1 n1 c1, .int .i64 ((q : Int) + 1)] w fun e w' => e = .returned (.int .i64 ((q + 1 + k1.ct : Nat) : Int)) ∧
            Fo.Subs w' (fun c => c < w.heap.size) (Fo.mks (.s a1 n1 c1 k1 .nil) (q + 1)) ∧ Kept (fun c => c ∉ Fo.inn (.s a1 n1 c1 k1 .nil)) w w' ∧ Live w' (Fo.inn (.s a1 n1 c1 k1 .nil))) := fun w h1 h2 h3 => by
          have e : ((q + 1 : Nat) : Int) = (q : Int) + 1 := by omega
          rw [← e]
          exact mk_R_StringS m k1 n1 a1 c1 (q + 1) w (by have := HM.out; have := HSZ.out; omega) hf1 (by have := HQK.out; have := hq.out; omega) (by have := HQK.out; have := hq.out; omega) h1 h2 h3
        have p1_0 : w1.cell? ⟨b, o + i * 9, none⟩ = some (.string x0) := I1.out.at_ 0 _ rfl (by have := hfp.out; (try simp only [Fo.app_len, Fo.len]); omega)
        have f1_0 := I1.out.free (o + i * 9)
        have p1_1 : w1.cell? ⟨b, o + i * 9 + 1, none⟩ = some (.slice a1 n1 c1) := I1.out.at_ 1 _ rfl (by have := hfp.out; (try simp only [Fo.app_len, Fo.len]); omega)
        obtain ⟨V2, hV2⟩ : ∃ V, (w1.setCell ⟨b, o + i * 9, none⟩ (.string (mt (q)))) = V := ⟨_, rfl⟩
        have I2 : Hid (MkI b o F k W (Fp.app (.v (.string x0) .nil)) (.s a1 n1 c1 k1 (.v (.int .i64 x2) (.v (.string x3) (.v (.bool x4) (.s a5 n5 c5 k5 (.s a6 n6 c6 k6 (.s a7 n7 c7 k7 (.s a8 n8 c8 k8 rr)))))))) V2) := by
          rw [← hV2]
          exact (I1.out.set (q := q) (by have := hfp.out; (try simp only [Fo.app_len, Fo.len]); omega) (by have := hq.out; (try simp only [Fo.app_ct, Fo.ct] at this ⊢); omega) (by first | rfl | (simp only [mkV]; congr 1; omega)))
        have HV2 := hide hV2
        clear hV2
        go_wp2_with fail
        rw [HV2.out]
        clear p1_0 f1_0 p1_1
        refine (HM1.out V2 I2.out.sub.1 I2.out.sub.2.1 I2.out.sub.2.2).mono ?_
        rintro e w3 ⟨rfl, s3, b3, l3⟩
        have I3 := hide (I2.out.call (q := q + 1) (by have := hq.out; (try simp only [Fo.app_ct, Fo.ct] at this ⊢); omega) b3 s3 l3)
        obtain ⟨q1, hq1⟩ : ∃ q1, q + 1 + k1.ct = q1 := ⟨_, rfl⟩
        rw [hq1]
        have HQ1 : Hid (k + ((Fp.app (.v (.string x0) .nil)).app (.s a1 n1 c1 k1 .nil)).ct = q1 ∧ q + 1 + k1.ct = q1) := ⟨by have := hq.out; (try simp only [Fo.app_ct, Fo.ct] at this ⊢); omega, hq1⟩
        have HE1 : Hid (k + ((Fp.app (.v (.string x0) .nil)).app (.s a1 n1 c1 k1 .nil)).ct = q1) := HQ1.out.1
        have hv2 : q1 + 3 ≤ 4294967296 := by have := HQK.out; have := HQ1.out; omega
        clear b3 s3 l3 hq1 HM1
        have HM3 : Hid (∀ w, Calls Try.prog 37 #[.int .i64 ((q1 : Int) + 1)] w fun e w' => e = .returned (.string (mt (q1 + 1))) ∧ Below w.heap.size w w') := fun w => by
          have e : ((q1 + 1 : Nat) : Int) = (q1 : Int) + 1 := by omega
          rw [← e]
          exact markText (q1 + 1) w (by have := HQK.out; have := HE1.out; omega) (by have := HQK.out; have := HE1.out; have := HQ1.out; omega)
        have p3_2 : w3.cell? ⟨b, o + i * 9 + 2, none⟩ = some (.int .i64 x2) := I3.out.at_ 0 _ rfl (by have := hfp.out; (try simp only [Fo.app_len, Fo.len]); omega)
        have f3_2 := I3.out.free (o + i * 9 + 2)
        obtain ⟨V4, hV4⟩ : ∃ V, (w3.setCell ⟨b, o + i * 9 + 2, none⟩ (.int .i64 ((q1 : Int)))) = V := ⟨_, rfl⟩
        have I4 : Hid (MkI b o F k W (((Fp.app (.v (.string x0) .nil)).app (.s a1 n1 c1 k1 .nil)).app (.v (.int .i64 x2) .nil)) (.v (.string x3) (.v (.bool x4) (.s a5 n5 c5 k5 (.s a6 n6 c6 k6 (.s a7 n7 c7 k7 (.s a8 n8 c8 k8 rr)))))) V4) := by
          rw [← hV4]
          exact (I3.out.set (q := q1) (by have := hfp.out; (try simp only [Fo.app_len, Fo.len]); omega) (by have := HE1.out; (try simp only [Fo.app_ct, Fo.ct] at this ⊢); omega) (by first | rfl | (simp only [mkV]; congr 1; omega)))
        have HV4 := hide hV4
        clear hV4
        go_wp2_with fail
        rw [HV4.out]
        clear p3_2 f3_2
        refine (HM3.out V4).mono ?_
        rintro e w5 ⟨rfl, b5⟩
        have I5 := hide (I4.out.below b5)
        clear b5 HM3
        obtain ⟨g4, hg4⟩ : ∃ g, decide ((q1 + 2) % 3 = 0) = g := ⟨_, rfl⟩
        have HT4 : ((((q1 : Int) + 1 + 1) : Int).tmod 3 == 0) = g4 := by
          rw [Int.tmod_eq_emod_of_nonneg (by omega), ← hg4]
          by_cases hh : (q1 + 2) % 3 = 0
          · rw [decide_eq_true hh, beq_iff_eq]; omega
          · rw [decide_eq_false hh, beq_eq_false_iff_ne]; omega
        have HU4 : ((((q1 : Int) + 1 + 1) : Int) % 3 == 0) = g4 := by rw [← HT4, Int.tmod_eq_emod_of_nonneg (by omega)]
        have HG4 := hide hg4
        clear hg4
        have HM5 : Hid (∀ w, Fo.Subs w (fun c => c < w.heap.size) (.s a5 n5 c5 k5 .nil) → (Fo.inn (.s a5 n5 c5 k5 .nil)).Nodup → Live w (Fo.inn (.s a5 n5 c5 k5 .nil)) → Calls Try.prog 52 #[.slice a5 n5 c5, .int .i64 ((q1 : Int) + 1 + 1 + 1)] w fun e w' => e = .returned (.int .i64 ((q1 + 3 + k5.ct : Nat) : Int)) ∧
            Fo.Subs w' (fun c => c < w.heap.size) (Fo.mks (.s a5 n5 c5 k5 .nil) (q1 + 3)) ∧ Kept (fun c => c ∉ Fo.inn (.s a5 n5 c5 k5 .nil)) w w' ∧ Live w' (Fo.inn (.s a5 n5 c5 k5 .nil))) := fun w h1 h2 h3 => by
          have e : ((q1 + 3 : Nat) : Int) = (q1 : Int) + 1 + 1 + 1 := by omega
          rw [← e]
          exact mk_R_Uint32S m k5 n5 a5 c5 (q1 + 3) w (by have := HM.out; have := HSZ.out; omega) hf5 (by have := HQK.out; have := HE1.out; omega) (by have := HQK.out; have := HE1.out; have := HQ1.out; omega) h1 h2 h3
        have p5_3 : w5.cell? ⟨b, o + i * 9 + 3, none⟩ = some (.string x3) := I5.out.at_ 0 _ rfl (by have := hfp.out; (try simp only [Fo.app_len, Fo.len]); omega)
        have f5_3 := I5.out.free (o + i * 9 + 3)
        have p5_4 : w5.cell? ⟨b, o + i * 9 + 4, none⟩ = some (.bool x4) := I5.out.at_ 1 _ rfl (by have := hfp.out; (try simp only [Fo.app_len, Fo.len]); omega)
        have f5_4 := I5.out.free (o + i * 9 + 4)
        have p5_5 : w5.cell? ⟨b, o + i * 9 + 5, none⟩ = some (.slice a5 n5 c5) := I5.out.at_ 2 _ rfl (by have := hfp.out; (try simp only [Fo.app_len, Fo.len]); omega)
        obtain ⟨V6, hV6⟩ : ∃ V, ((w5.setCell ⟨b, o + i * 9 + 3, none⟩ (.string (mt (q1 + 1)))).setCell ⟨b, o + i * 9 + 4, none⟩ (.bool g4)) = V := ⟨_, rfl⟩
        have I6 : Hid (MkI b o F k W (((((Fp.app (.v (.string x0) .nil)).app (.s a1 n1 c1 k1 .nil)).app (.v (.int .i64 x2) .nil)).app (.v (.string x3) .nil)).app (.v (.bool x4) .nil)) (.s a5 n5 c5 k5 (.s a6 n6 c6 k6 (.s a7 n7 c7 k7 (.s a8 n8 c8 k8 rr)))) V6) := by
          rw [← hV6]
          exact ((I5.out.set (q := q1 + 1) (by have := hfp.out; (try simp only [Fo.app_len, Fo.len]); omega) (by have := HE1.out; (try simp only [Fo.app_ct, Fo.ct] at this ⊢); omega) (by first | rfl | (simp only [mkV]; congr 1; omega))).set (q := q1 + 2) (by have := hfp.out; (try simp only [Fo.app_len, Fo.len]); omega) (by have := HE1.out; (try simp only [Fo.app_ct, Fo.ct] at this ⊢); omega) (by first | rfl | (simp only [mkV]; congr 1; omega) | (simp only [mkV]; rw [HG4.out])))
        have HV6 := hide hV6
        clear hV6
        go_wp2_with fail
        rw [HV6.out]
        clear p5_3 p5_4 f5_3 f5_4 p5_5
        refine (HM5.out V6 I6.out.sub.1 I6.out.sub.2.1 I6.out.sub.2.2).mono ?_
        rintro e w7 ⟨rfl, s7, b7, l7⟩
        have I7 := hide (I6.out.call (q := q1 + 3) (by have := HE1.out; (try simp only [Fo.app_ct, Fo.ct] at this ⊢); omega) b7 s7 l7)
        obtain ⟨q5, hq5⟩ : ∃ q5, q1 + 3 + k5.ct = q5 := ⟨_, rfl⟩
        rw [hq5]
        have HQ5 : Hid (k + ((((((Fp.app (.v (.string x0) .nil)).app (.s a1 n1 c1 k1 .nil)).app (.v (.int .i64 x2) .nil)).app (.v (.string x3) .nil)).app (.v (.bool x4) .nil)).app (.s a5 n5 c5 k5 .nil)).ct = q5 ∧ q1 + 3 + k5.ct = q5) := ⟨by have := HE1.out; (try simp only [Fo.app_ct, Fo.ct] at this ⊢); omega, hq5⟩
        have HE5 : Hid (k + ((((((Fp.app (.v (.string x0) .nil)).app (.s a1 n1 c1 k1 .nil)).app (.v (.int .i64 x2) .nil)).app (.v (.string x3) .nil)).app (.v (.bool x4) .nil)).app (.s a5 n5 c5 k5 .nil)).ct = q5) := HQ5.out.1
        have hv6 : q5 + 0 ≤ 4294967296 := by have := HQK.out; have := HQ1.out; have := HQ5.out; omega
        clear b7 s7 l7 hq5 HM5
        have HM6 : Hid (∀ w, Fo.Subs w (fun c => c < w.heap.size) (.s a6 n6 c6 k6 .nil) → (Fo.inn (.s a6 n6 c6 k6 .nil)).Nodup → Live w (Fo.inn (.s a6 n6 c6 k6 .nil)) → Calls Try.prog 11 #[.slice a6 n6 c6, .int .i64 ((q5 : Int))] w fun e w' => e = .returned (.int .i64 ((q5 + k6.ct : Nat) : Int)) ∧
            Fo.Subs w' (fun c => c < w.heap.size) (Fo.mks (.s a6 n6 c6 k6 .nil) (q5)) ∧ Kept (fun c => c ∉ Fo.inn (.s a6 n6 c6 k6 .nil)) w w' ∧ Live w' (Fo.inn (.s a6 n6 c6 k6 .nil))) := fun w h1 h2 h3 => by
          have e : ((q5 : Nat) : Int) = (q5 : Int) := by omega
          rw [← e]
          exact mk_R_StringS m k6 n6 a6 c6 (q5) w (by have := HM.out; have := HSZ.out; omega) hf6 (by have := HQK.out; have := HE5.out; omega) (by have := HQK.out; have := HE5.out; have := HQ1.out; have := HQ5.out; omega) h1 h2 h3
        have p7_6 : w7.cell? ⟨b, o + i * 9 + 6, none⟩ = some (.slice a6 n6 c6) := I7.out.at_ 0 _ rfl (by have := hfp.out; (try simp only [Fo.app_len, Fo.len]); omega)
        go_wp2_with fail
        clear p7_6
        refine (HM6.out w7 I7.out.sub.1 I7.out.sub.2.1 I7.out.sub.2.2).mono ?_
        rintro e w8 ⟨rfl, s8, b8, l8⟩
        have I8 := hide (I7.out.call (q := q5) (by have := HE5.out; (try simp only [Fo.app_ct, Fo.ct] at this ⊢); omega) b8 s8 l8)
        obtain ⟨q6, hq6⟩ : ∃ q6, q5 + k6.ct = q6 := ⟨_, rfl⟩
        rw [hq6]
        have HQ6 : Hid (k + (((((((Fp.app (.v (.string x0) .nil)).app (.s a1 n1 c1 k1 .nil)).app (.v (.int .i64 x2) .nil)).app (.v (.string x3) .nil)).app (.v (.bool x4) .nil)).app (.s a5 n5 c5 k5 .nil)).app (.s a6 n6 c6 k6 .nil)).ct = q6 ∧ q5 + k6.ct = q6) := ⟨by have := HE5.out; (try simp only [Fo.app_ct, Fo.ct] at this ⊢); omega, hq6⟩
        have HE6 : Hid (k + (((((((Fp.app (.v (.string x0) .nil)).app (.s a1 n1 c1 k1 .nil)).app (.v (.int .i64 x2) .nil)).app (.v (.string x3) .nil)).app (.v (.bool x4) .nil)).app (.s a5 n5 c5 k5 .nil)).app (.s a6 n6 c6 k6 .nil)).ct = q6) := HQ6.out.1
        have hv7 : q6 + 0 ≤ 4294967296 := by have := HQK.out; have := HQ1.out; have := HQ5.out; have := HQ6.out; omega
        clear b8 s8 l8 hq6 HM6
        have HM7 : Hid (∀ w, Fo.Subs w (fun c => c < w.heap.size) (.s a7 n7 c7 k7 .nil) → (Fo.inn (.s a7 n7 c7 k7 .nil)).Nodup → Live w (Fo.inn (.s a7 n7 c7 k7 .nil)) → Calls Try.prog 35 #[.slice a7 n7 c7, .int .i64 ((q6 : Int))] w fun e w' => e = .returned (.int .i64 ((q6 + k7.ct : Nat) : Int)) ∧
            Fo.Subs w' (fun c => c < w.heap.size) (Fo.mks (.s a7 n7 c7 k7 .nil) (q6)) ∧ Kept (fun c => c ∉ Fo.inn (.s a7 n7 c7 k7 .nil)) w w' ∧ Live w' (Fo.inn (.s a7 n7 c7 k7 .nil))) := fun w h1 h2 h3 => by
          have e : ((q6 : Nat) : Int) = (q6 : Int) := by omega
          rw [← e]
          exact hCore k7 n7 a7 c7 (q6) w (by have := HM.out; have := HSZ.out; omega) hf7 (by have := HQK.out; have := HE6.out; omega) (by have := HQK.out; have := HE6.out; have := HQ1.out; have := HQ5.out; have := HQ6.out; omega) h1 h2 h3
        have p8_7 : w8.cell? ⟨b, o + i * 9 + 7, none⟩ = some (.slice a7 n7 c7) := I8.out.at_ 0 _ rfl (by have := hfp.out; (try simp only [Fo.app_len, Fo.len]); omega)
        go_wp2_with fail
        clear p8_7
        refine (HM7.out w8 I8.out.sub.1 I8.out.sub.2.1 I8.out.sub.2.2).mono ?_
        rintro e w9 ⟨rfl, s9, b9, l9⟩
        have I9 := hide (I8.out.call (q := q6) (by have := HE6.out; (try simp only [Fo.app_ct, Fo.ct] at this ⊢); omega) b9 s9 l9)
        obtain ⟨q7, hq7⟩ : ∃ q7, q6 + k7.ct = q7 := ⟨_, rfl⟩
        rw [hq7]
        have HQ7 : Hid (k + ((((((((Fp.app (.v (.string x0) .nil)).app (.s a1 n1 c1 k1 .nil)).app (.v (.int .i64 x2) .nil)).app (.v (.string x3) .nil)).app (.v (.bool x4) .nil)).app (.s a5 n5 c5 k5 .nil)).app (.s a6 n6 c6 k6 .nil)).app (.s a7 n7 c7 k7 .nil)).ct = q7 ∧ q6 + k7.ct = q7) := ⟨by have := HE6.out; (try simp only [Fo.app_ct, Fo.ct] at this ⊢); omega, hq7⟩
        have HE7 : Hid (k + ((((((((Fp.app (.v (.string x0) .nil)).app (.s a1 n1 c1 k1 .nil)).app (.v (.int .i64 x2) .nil)).app (.v (.string x3) .nil)).app (.v (.bool x4) .nil)).app (.s a5 n5 c5 k5 .nil)).app (.s a6 n6 c6 k6 .nil)).app (.s a7 n7 c7 k7 .nil)).ct = q7) := HQ7.out.1
        have hv8 : q7 + 0 ≤ 4294967296 := by have := HQK.out; have := HQ1.out; have := HQ5.out; have := HQ6.out; have := HQ7.out; omega
        clear b9 s9 l9 hq7 HM7
        have HM8 : Hid (∀ w, Fo.Subs w (fun c => c < w.heap.size) (.s a8 n8 c8 k8 .nil) → (Fo.inn (.s a8 n8 c8 k8 .nil)).Nodup → Live w (Fo.inn (.s a8 n8 c8 k8 .nil)) → Calls Try.prog 36 #[.slice a8 n8 c8, .int .i64 ((q7 : Int))] w fun e w' => e = .returned (.int .i64 ((q7 + k8.ct : Nat) : Int)) ∧
            Fo.Subs w' (fun c => c < w.heap.size) (Fo.mks (.s a8 n8 c8 k8 .nil) (q7)) ∧ Kept (fun c => c ∉ Fo.inn (.s a8 n8 c8 k8 .nil)) w w' ∧ Live w' (Fo.inn (.s a8 n8 c8 k8 .nil))) := fun w h1 h2 h3 => by
          have e : ((q7 : Nat) : Int) = (q7 : Int) := by omega
          rw [← e]
          exact hCoreAlt k8 n8 a8 c8 (q7) w (by have := HM.out; have := HSZ.out; omega) hf8 (by have := HQK.out; have := HE7.out; omega) (by have := HQK.out; have := HE7.out; have := HQ1.out; have := HQ5.out; have := HQ6.out; have := HQ7.out; omega) h1 h2 h3
        have p9_8 : w9.cell? ⟨b, o + i * 9 + 8, none⟩ = some (.slice a8 n8 c8) := I9.out.at_ 0 _ rfl (by have := hfp.out; (try simp only [Fo.app_len, Fo.len]); omega)
        go_wp2_with fail
        clear p9_8
        refine (HM8.out w9 I9.out.sub.1 I9.out.sub.2.1 I9.out.sub.2.2).mono ?_
        rintro e w10 ⟨rfl, s10, b10, l10⟩
        have I10 := hide (I9.out.call (q := q7) (by have := HE7.out; (try simp only [Fo.app_ct, Fo.ct] at this ⊢); omega) b10 s10 l10)
        obtain ⟨q8, hq8⟩ : ∃ q8, q7 + k8.ct = q8 := ⟨_, rfl⟩
        rw [hq8]
        have HQ8 : Hid (k + (((((((((Fp.app (.v (.string x0) .nil)).app (.s a1 n1 c1 k1 .nil)).app (.v (.int .i64 x2) .nil)).app (.v (.string x3) .nil)).app (.v (.bool x4) .nil)).app (.s a5 n5 c5 k5 .nil)).app (.s a6 n6 c6 k6 .nil)).app (.s a7 n7 c7 k7 .nil)).app (.s a8 n8 c8 k8 .nil)).ct = q8 ∧ q7 + k8.ct = q8) := ⟨by have := HE7.out; (try simp only [Fo.app_ct, Fo.ct] at this ⊢); omega, hq8⟩
        have HE8 : Hid (k + (((((((((Fp.app (.v (.string x0) .nil)).app (.s a1 n1 c1 k1 .nil)).app (.v (.int .i64 x2) .nil)).app (.v (.string x3) .nil)).app (.v (.bool x4) .nil)).app (.s a5 n5 c5 k5 .nil)).app (.s a6 n6 c6 k6 .nil)).app (.s a7 n7 c7 k7 .nil)).app (.s a8 n8 c8 k8 .nil)).ct = q8) := HQ8.out.1
        have hv9 : q8 + 0 ≤ 4294967296 := by have := HQK.out; have := HQ1.out; have := HQ5.out; have := HQ6.out; have := HQ7.out; have := HQ8.out; omega
        clear b10 s10 l10 hq8 HM8
        go_wp2_with fail
        go_roundw
        case rel => exact ⟨i + 1, q8, rr, (((((((((Fp.app (.v (.string x0) .nil)).app (.s a1 n1 c1 k1 .nil)).app (.v (.int .i64 x2) .nil)).app (.v (.string x3) .nil)).app (.v (.bool x4) .nil)).app (.s a5 n5 c5 k5 .nil)).app (.s a6 n6 c6 k6 .nil)).app (.s a7 n7 c7 k7 .nil)).app (.s a8 n8 c8 k8 .nil)), rfl, by go_num, by omega, (by show _ = _; have := HE8.out; simp only [Fo.app_ct, Fo.ct] at this ⊢; omega), (by show _ = _; have := hfp.out; (try simp only [Fo.app_len, Fo.len]); omega), HRR, I10⟩
        case measure => simp [intOf]; omega
      · have e1 := hR.out.done hi
        subst e1
        have hin2 : i = n := by omega
        subst hin2
        have h1 := hide (hI.out.finish HCP.out.1 HCP.out.2 HL.out)
        clear hR hI
        go_wp2_with fail
        go_ret
        obtain ⟨h2, h3, h4, h5⟩ := h1.out
        subst h2
        exact ⟨by rw [hq.out]; rfl, h3, h4, h5⟩
  · have e1 : n = 0 := by omega
    subst e1
    obtain rfl := fit_nil hf
    clear hfl
    go_enter Try.func36, Try.ntmps36
    go_wp2_with fail
    go_loopw [1, 5] (fun s1 s5 wr => s1 = .int .i64 k ∧ s5 = .int .i64 0 ∧ wr = W) (fun _ _ _ => 0)
    case atStart => exact ⟨rfl, rfl, rfl⟩
    case round =>
      obtain ⟨rfl, rfl, rfl⟩ := hrel
      go_wp2_with fail
      go_ret
      exact ⟨by simp [Fo.ct], ⟨⟨hs.1.1, hs.1.2.1, fun h => by simp [Fo.mk, Fo.len] at h⟩, trivial⟩, Kept.refl _ _, hlv⟩

set_option maxHeartbeats 2000000 in
set_option maxRecDepth 100000 in
theorem mk_R_CoreS_of (m : Nat) (hCore : MkR Try.prog E 35 (E 3) m) (hCoreAlt : MkR Try.prog E 36 (E 2) m) : MkR Try.prog E 35 (E 3) (m + 1) := by
  intro F n a cap k W hm hf hk0 hk hs hnd hlv
  have hmx : n ≤ 9223372036854775807 := by have h2 := hs.1.1; have h3 := hs.1.2.1; simp only [maxLen] at h3; omega
  have hfl : F.len = n * 7 := by rw [Fit.len hf, rep_len]; rfl
  by_cases hp : 0 < n
  · have hl : 0 < F.len := by omega
    obtain ⟨b, o, rfl, -, -, -⟩ := hs.1.2.2 hl
    have HI := hide (MkI.start (k0 := k) hl hs.1 (by simpa [Fo.inn] using hnd) (by simpa [Fo.inn] using hlv))
    have HL := hide hl
    have HF := hide hf
    have HM := hide hm
    have HK := hide hk
    have HCP := hide (And.intro hs.1.1 hs.1.2.1)
    clear hl hf hs hnd hlv hm hk hfl
    go_enter Try.func35, Try.ntmps35
    go_wp2_with fail
    go_loopw [1, 5] (fun s1 s5 wr => ∃ (i q : Nat) (r Fp : Fo), s1 = .int .i64 (q : Int) ∧ s5 = .int .i64 i ∧ i ≤ n ∧ Hid (k + Fp.ct = q) ∧ Hid (Fp.len = i * 7) ∧ Hid (Fit E r (rep (E 3) (n - i))) ∧ Hid (MkI b o F k W Fp r wr)) (fun _ s5 _ => n - (intOf s5).toNat)
    case atStart => exact ⟨0, k, F, .nil, rfl, rfl, Nat.zero_le _, (by show _ = _; simp [Fo.ct]), (by show _ = _; simp [Fo.len]), HF, HI⟩
    case round =>
      obtain ⟨i, q, r, Fp, rfl, rfl, hin, hq, hfp, hR, hI⟩ := hrel
      by_cases hi : i < n
      · obtain ⟨x, rr, rfl, hx, hrr, -⟩ := hR.out.next hi
        have HRR := hide hrr
        have hii : (i : Int) < n := by omega
        have hct := congrArg Fo.ct hI.out.eq
        have hsz := congrArg Fo.size hI.out.eq
        clear hR hrr
        replace hx : Fit E x [.i, .t, .b, .s 0, .s 1, .s 3, .s 2] := hx
        obtain ⟨x0, F0, rfl, hx0, hx⟩ := fit_i hx
        obtain ⟨x1, F1, rfl, hx1, hx⟩ := fit_t hx
        obtain ⟨x2, F2, rfl, hx⟩ := fit_b hx
        obtain ⟨a3, n3, c3, k3, F3, rfl, hf3, hx⟩ := fit_s hx
        obtain ⟨a4, n4, c4, k4, F4, rfl, hf4, hx⟩ := fit_s hx
        obtain ⟨a5, n5, c5, k5, F5, rfl, hf5, hx⟩ := fit_s hx
        obtain ⟨a6, n6, c6, k6, F6, rfl, hf6, hx⟩ := fit_s hx
        obtain rfl := fit_nil hx
        have I0 : Hid (MkI b o F k W Fp (.v (.int .i64 x0) (.v (.string x1) (.v (.bool x2) (.s a3 n3 c3 k3 (.s a4 n4 c4 k4 (.s a5 n5 c5 k5 (.s a6 n6 c6 k6 rr))))))) wr) := hI
        simp only [Fo.app, Fo.app_ct, Fo.ct] at hct
        simp only [Fo.app, Fo.app_size, Fo.size] at hsz
        have hqk : 0 < q ∧ q + (1 + 1 + 1 + k3.ct + k4.ct + k5.ct + k6.ct) ≤ 4294967296 := by have := hq.out; have := HK.out; omega
        have HQK := hide hqk
        have hv0 : q + 3 ≤ 4294967296 := by omega
        have HSZ := hide hsz
        clear hI hct hsz hqk
        have HM1 : Hid (∀ w, Calls Try.prog 37 #[.int .i64 ((q : Int) + 1)] w fun e w' => e = .returned (.string (mt (q + 1))) ∧ Below w.heap.size w w') := fun w => by
          have e : ((q + 1 : Nat) : Int) = (q : Int) + 1 := by omega
          rw [← e]
          exact markText (q + 1) w (by have := HQK.out; have := hq.out; omega) (by have := HQK.out; have := hq.out; omega)
        have p0_0 : wr.cell? ⟨b, o + i * 7, none⟩ = some (.int .i64 x0) := I0.out.at_ 0 _ rfl (by have := hfp.out; (try simp only [Fo.app_len, Fo.len]); omega)
        have f0_0 := I0.out.free (o + i * 7)
        obtain ⟨V1, hV1⟩ : ∃ V, (wr.setCell ⟨b, o + i * 7, none⟩ (.int .i64 ((q : Int)))) = V := ⟨_, rfl⟩
        have I1 : Hid (MkI b o F k W (Fp.app (.v (.int .i64 x0) .nil)) (.v (.string x1) (.v (.bool x2) (.s a3 n3 c3 k3 (.s a4 n4 c4 k4 (.s a5 n5 c5 k5 (.s a6 n6 c6 k6 rr)))))) V1) := by
          rw [← hV1]
          exact (I0.out.set (q := q) (by have := hfp.out; (try simp only [Fo.app_len, Fo.len]); omega) (by have := hq.out; (try simp only [Fo.app_ct, Fo.ct] at this ⊢); omega) (by first | rfl | (simp only [mkV]; congr 1; omega)))
        have HV1 := hide hV1
        clear hV1
        go_wp2_with fail
        rw [HV1.out]
        clear p0_0 f0_0
        refine (HM1.out V1).mono ?_
        rintro e w2 ⟨rfl, b2⟩
        have I2 := hide (I1.out.below b2)
        clear b2 HM1
        obtain ⟨g2, hg2⟩ : ∃ g, decide ((q + 2) % 3 = 0) = g := ⟨_, rfl⟩
        have HT2 : ((((q : Int) + 1 + 1) : Int).tmod 3 == 0) = g2 := by
          rw [Int.tmod_eq_emod_of_nonneg (by omega), ← hg2]
          by_cases hh : (q + 2) % 3 = 0
          · rw [decide_eq_true hh, beq_iff_eq]; omega
          · rw [decide_eq_false hh, beq_eq_false_iff_ne]; omega
        have HU2 : ((((q : Int) + 1 + 1) : Int) % 3 == 0) = g2 := by rw [← HT2, Int.tmod_eq_emod_of_nonneg (by omega)]
        have HG2 := hide hg2
        clear hg2
        have HM3 : Hid (∀ w, Fo.Subs w (fun c => c < w.heap.size) (.s a3 n3 c3 k3 .nil) → (Fo.inn (.s a3 n3 c3 k3 .nil)).Nodup → Live w (Fo.inn (.s a3 n3 c3 k3 .nil)) → Calls Try.prog 52 #[.slice a3 n3 c3, .int .i64 ((q : Int) + 1 + 1 + 1)] w fun e w' => e = .returned (.int .i64 ((q + 3 + k3.ct : Nat) : Int)) ∧
            Fo.Subs w' (fun c => c < w.heap.size) (Fo.mks (.s a3 n3 c3 k3 .nil) (q + 3)) ∧ Kept (fun c => c ∉ Fo.inn (.s a3 n3 c3 k3 .nil)) w w' ∧ Live w' (Fo.inn (.s a3 n3 c3 k3 .nil))) := fun w h1 h2 h3 => by
          have e : ((q + 3 : Nat) : Int) = (q : Int) + 1 + 1 + 1 := by omega
          rw [← e]
          exact mk_R_Uint32S m k3 n3 a3 c3 (q + 3) w (by have := HM.out; have := HSZ.out; omega) hf3 (by have := HQK.out; have := hq.out; omega) (by have := HQK.out; have := hq.out; omega) h1 h2 h3
        have p2_1 : w2.cell? ⟨b, o + i * 7 + 1, none⟩ = some (.string x1) := I2.out.at_ 0 _ rfl (by have := hfp.out; (try simp only [Fo.app_len, Fo.len]); omega)
        have f2_1 := I2.out.free (o + i * 7 + 1)
        have p2_2 : w2.cell? ⟨b, o + i * 7 + 2, none⟩ = some (.bool x2) := I2.out.at_ 1 _ rfl (by have := hfp.out; (try simp only [Fo.app_len, Fo.len]); omega)
        have f2_2 := I2.out.free (o + i * 7 + 2)
        have p2_3 : w2.cell? ⟨b, o + i * 7 + 3, none⟩ = some (.slice a3 n3 c3) := I2.out.at_ 2 _ rfl (by have := hfp.out; (try simp only [Fo.app_len, Fo.len]); omega)
        obtain ⟨V3, hV3⟩ : ∃ V, ((w2.setCell ⟨b, o + i * 7 + 1, none⟩ (.string (mt (q + 1)))).setCell ⟨b, o + i * 7 + 2, none⟩ (.bool g2)) = V := ⟨_, rfl⟩
        have I3 : Hid (MkI b o F k W (((Fp.app (.v (.int .i64 x0) .nil)).app (.v (.string x1) .nil)).app (.v (.bool x2) .nil)) (.s a3 n3 c3 k3 (.s a4 n4 c4 k4 (.s a5 n5 c5 k5 (.s a6 n6 c6 k6 rr)))) V3) := by
          rw [← hV3]
          exact ((I2.out.set (q := q + 1) (by have := hfp.out; (try simp only [Fo.app_len, Fo.len]); omega) (by have := hq.out; (try simp only [Fo.app_ct, Fo.ct] at this ⊢); omega) (by first | rfl | (simp only [mkV]; congr 1; omega))).set (q := q + 2) (by have := hfp.out; (try simp only [Fo.app_len, Fo.len]); omega) (by have := hq.out; (try simp only [Fo.app_ct, Fo.ct] at this ⊢); omega) (by first | rfl | (simp only [mkV]; congr 1; omega) | (simp only [mkV]; rw [HG2.out])))
        have HV3 := hide hV3
        clear hV3
        go_wp2_with fail
        rw [HV3.out]
        clear p2_1 p2_2 f2_1 f2_2 p2_3
        refine (HM3.out V3 I3.out.sub.1 I3.out.sub.2.1 I3.out.sub.2.2).mono ?_
        rintro e w4 ⟨rfl, s4, b4, l4⟩
        have I4 := hide (I3.out.call (q := q + 3) (by have := hq.out; (try simp only [Fo.app_ct, Fo.ct] at this ⊢); omega) b4 s4 l4)
        obtain ⟨q3, hq3⟩ : ∃ q3, q + 3 + k3.ct = q3 := ⟨_, rfl⟩
        rw [hq3]
        have HQ3 : Hid (k + ((((Fp.app (.v (.int .i64 x0) .nil)).app (.v (.string x1) .nil)).app (.v (.bool x2) .nil)).app (.s a3 n3 c3 k3 .nil)).ct = q3 ∧ q + 3 + k3.ct = q3) := ⟨by have := hq.out; (try simp only [Fo.app_ct, Fo.ct] at this ⊢); omega, hq3⟩
        have HE3 : Hid (k + ((((Fp.app (.v (.int .i64 x0) .nil)).app (.v (.string x1) .nil)).app (.v (.bool x2) .nil)).app (.s a3 n3 c3 k3 .nil)).ct = q3) := HQ3.out.1
        have hv4 : q3 + 0 ≤ 4294967296 := by have := HQK.out; have := HQ3.out; omega
        clear b4 s4 l4 hq3 HM3
        have HM4 : Hid (∀ w, Fo.Subs w (fun c => c < w.heap.size) (.s a4 n4 c4 k4 .nil) → (Fo.inn (.s a4 n4 c4 k4 .nil)).Nodup → Live w (Fo.inn (.s a4 n4 c4 k4 .nil)) → Calls Try.prog 11 #[.slice a4 n4 c4, .int .i64 ((q3 : Int))] w fun e w' => e = .returned (.int .i64 ((q3 + k4.ct : Nat) : Int)) ∧
            Fo.Subs w' (fun c => c < w.heap.size) (Fo.mks (.s a4 n4 c4 k4 .nil) (q3)) ∧ Kept (fun c => c ∉ Fo.inn (.s a4 n4 c4 k4 .nil)) w w' ∧ Live w' (Fo.inn (.s a4 n4 c4 k4 .nil))) := fun w h1 h2 h3 => by
          have e : ((q3 : Nat) : Int) = (q3 : Int) := by omega
          rw [← e]
          exact mk_R_StringS m k4 n4 a4 c4 (q3) w (by have := HM.out; have := HSZ.out; omega) hf4 (by have := HQK.out; have := HE3.out; omega) (by have := HQK.out; have := HE3.out; have := HQ3.out; omega) h1 h2 h3
        have p4_4 : w4.cell? ⟨b, o + i * 7 + 4, none⟩ = some (.slice a4 n4 c4) := I4.out.at_ 0 _ rfl (by have := hfp.out; (try simp only [Fo.app_len, Fo.len]); omega)
        go_wp2_with fail
        clear p4_4
        refine (HM4.out w4 I4.out.sub.1 I4.out.sub.2.1 I4.out.sub.2.2).mono ?_
        rintro e w5 ⟨rfl, s5, b5, l5⟩
        have I5 := hide (I4.out.call (q := q3) (by have := HE3.out; (try simp only [Fo.app_ct, Fo.ct] at this ⊢); omega) b5 s5 l5)
        obtain ⟨q4, hq4⟩ : ∃ q4, q3 + k4.ct = q4 := ⟨_, rfl⟩
        rw [hq4]
        have HQ4 : Hid (k + (((((Fp.app (.v (.int .i64 x0) .nil)).app (.v (.string x1) .nil)).app (.v (.bool x2) .nil)).app (.s a3 n3 c3 k3 .nil)).app (.s a4 n4 c4 k4 .nil)).ct = q4 ∧ q3 + k4.ct = q4) := ⟨by have := HE3.out; (try simp only [Fo.app_ct, Fo.ct] at this ⊢); omega, hq4⟩
        have HE4 : Hid (k + (((((Fp.app (.v (.int .i64 x0) .nil)).app (.v (.string x1) .nil)).app (.v (.bool x2) .nil)).app (.s a3 n3 c3 k3 .nil)).app (.s a4 n4 c4 k4 .nil)).ct = q4) := HQ4.out.1
        have hv5 : q4 + 0 ≤ 4294967296 := by have := HQK.out; have := HQ3.out; have := HQ4.out; omega
        clear b5 s5 l5 hq4 HM4
        have HM5 : Hid (∀ w, Fo.Subs w (fun c => c < w.heap.size) (.s a5 n5 c5 k5 .nil) → (Fo.inn (.s a5 n5 c5 k5 .nil)).Nodup → Live w (Fo.inn (.s a5 n5 c5 k5 .nil)) → Calls Try.prog 35 #[.slice a5 n5 c5, .int .i64 ((q4 : Int))] w fun e w' => e = .returned (.int .i64 ((q4 + k5.ct : Nat) : Int)) ∧
            Fo.Subs w' (fun c => c < w.heap.size) (Fo.mks (.s a5 n5 c5 k5 .nil) (q4)) ∧ Kept (fun c => c ∉ Fo.inn (.s a5 n5 c5 k5 .nil)) w w' ∧ Live w' (Fo.inn (.s a5 n5 c5 k5 .nil))) := fun w h1 h2 h3 => by
          have e : ((q4 : Nat) : Int) = (q4 : Int) := by omega
          rw [← e]
          exact hCore k5 n5 a5 c5 (q4) w (by have := HM.out; have := HSZ.out; omega) hf5 (by have := HQK.out; have := HE4.out; omega) (by have := HQK.out; have := HE4.out; have := HQ3.out; have := HQ4.out; omega) h1 h2 h3
        have p5_5 : w5.cell? ⟨b, o + i * 7 + 5, none⟩ = some (.slice a5 n5 c5) := I5.out.at_ 0 _ rfl (by have := hfp.out; (try simp only [Fo.app_len, Fo.len]); omega)
        go_wp2_with fail
        clear p5_5
        refine (HM5.out w5 I5.out.sub.1 I5.out.sub.2.1 I5.out.sub.2.2).mono ?_
        rintro e w6 ⟨rfl, s6, b6, l6⟩
        have I6 := hide (I5.out.call (q := q4) (by have := HE4.out; (try simp only [Fo.app_ct, Fo.ct] at this ⊢); omega) b6 s6 l6)
        obtain ⟨q5, hq5⟩ : ∃ q5, q4 + k5.ct = q5 := ⟨_, rfl⟩
        rw [hq5]
        have HQ5 : Hid (k + ((((((Fp.app (.v (.int .i64 x0) .nil)).app (.v (.string x1) .nil)).app (.v (.bool x2) .nil)).app (.s a3 n3 c3 k3 .nil)).app (.s a4 n4 c4 k4 .nil)).app (.s a5 n5 c5 k5 .nil)).ct = q5 ∧ q4 + k5.ct = q5) := ⟨by have := HE4.out; (try simp only [Fo.app_ct, Fo.ct] at this ⊢); omega, hq5⟩
        have HE5 : Hid (k + ((((((Fp.app (.v (.int .i64 x0) .nil)).app (.v (.string x1) .nil)).app (.v (.bool x2) .nil)).app (.s a3 n3 c3 k3 .nil)).app (.s a4 n4 c4 k4 .nil)).app (.s a5 n5 c5 k5 .nil)).ct = q5) := HQ5.out.1
        have hv6 : q5 + 0 ≤ 4294967296 := by have := HQK.out; have := HQ3.out; have := HQ4.out; have := HQ5.out; omega
        clear b6 s6 l6 hq5 HM5
        have HM6 : Hid (∀ w, Fo.Subs w (fun c => c < w.heap.size) (.s a6 n6 c6 k6 .nil) → (Fo.inn (.s a6 n6 c6 k6 .nil)).Nodup → Live w (Fo.inn (.s a6 n6 c6 k6 .nil)) → Calls Try.prog 36 #[.slice a6 n6 c6, .int .i64 ((q5 : Int))] w fun e w' => e = .returned (.int .i64 ((q5 + k6.ct : Nat) : Int)) ∧
            Fo.Subs w' (fun c => c < w.heap.size) (Fo.mks (.s a6 n6 c6 k6 .nil) (q5)) ∧ Kept (fun c => c ∉ Fo.inn (.s a6 n6 c6 k6 .nil)) w w' ∧ Live w' (Fo.inn (.s a6 n6 c6 k6 .nil))) := fun w h1 h2 h3 => by
          have e : ((q5 : Nat) : Int) = (q5 : Int) := by omega
          rw [← e]
          exact hCoreAlt k6 n6 a6 c6 (q5) w (by have := HM.out; have := HSZ.out; omega) hf6 (by have := HQK.out; have := HE5.out; omega) (by have := HQK.out; have := HE5.out; have := HQ3.out; have := HQ4.out; have := HQ5.out; omega) h1 h2 h3
        have p6_6 : w6.cell? ⟨b, o + i * 7 + 6, none⟩ = some (.slice a6 n6 c6) := I6.out.at_ 0 _ rfl (by have := hfp.out; (try simp only [Fo.app_len, Fo.len]); omega)
        go_wp2_with fail
        clear p6_6
        refine (HM6.out w6 I6.out.sub.1 I6.out.sub.2.1 I6.out.sub.2.2).mono ?_
        rintro e w7 ⟨rfl, s7, b7, l7⟩
        have I7 := hide (I6.out.call (q := q5) (by have := HE5.out; (try simp only [Fo.app_ct, Fo.ct] at this ⊢); omega) b7 s7 l7)
        obtain ⟨q6, hq6⟩ : ∃ q6, q5 + k6.ct = q6 := ⟨_, rfl⟩
        rw [hq6]
        have HQ6 : Hid (k + (((((((Fp.app (.v (.int .i64 x0) .nil)).app (.v (.string x1) .nil)).app (.v (.bool x2) .nil)).app (.s a3 n3 c3 k3 .nil)).app (.s a4 n4 c4 k4 .nil)).app (.s a5 n5 c5 k5 .nil)).app (.s a6 n6 c6 k6 .nil)).ct = q6 ∧ q5 + k6.ct = q6) := ⟨by have := HE5.out; (try simp only [Fo.app_ct, Fo.ct] at this ⊢); omega, hq6⟩
        have HE6 : Hid (k + (((((((Fp.app (.v (.int .i64 x0) .nil)).app (.v (.string x1) .nil)).app (.v (.bool x2) .nil)).app (.s a3 n3 c3 k3 .nil)).app (.s a4 n4 c4 k4 .nil)).app (.s a5 n5 c5 k5 .nil)).app (.s a6 n6 c6 k6 .nil)).ct = q6) := HQ6.out.1
        have hv7 : q6 + 0 ≤ 4294967296 := by have := HQK.out; have := HQ3.out; have := HQ4.out; have := HQ5.out; have := HQ6.out; omega
        clear b7 s7 l7 hq6 HM6
        go_wp2_with fail
        go_roundw
        case rel => exact ⟨i + 1, q6, rr, (((((((Fp.app (.v (.int .i64 x0) .nil)).app (.v (.string x1) .nil)).app (.v (.bool x2) .nil)).app (.s a3 n3 c3 k3 .nil)).app (.s a4 n4 c4 k4 .nil)).app (.s a5 n5 c5 k5 .nil)).app (.s a6 n6 c6 k6 .nil)), rfl, by go_num, by omega, (by show _ = _; have := HE6.out; simp only [Fo.app_ct, Fo.ct] at this ⊢; omega), (by show _ = _; have := hfp.out; (try simp only [Fo.app_len, Fo.len]); omega), HRR, I7⟩
        case measure => simp [intOf]; omega
      · have e1 := hR.out.done hi
        subst e1
        have hin2 : i = n := by omega
        subst hin2
        have h1 := hide (hI.out.finish HCP.out.1 HCP.out.2 HL.out)
        clear hR hI
        go_wp2_with fail
        go_ret
        obtain ⟨h2, h3, h4, h5⟩ := h1.out
        subst h2
        exact ⟨by rw [hq.out]; rfl, h3, h4, h5⟩
  · have e1 : n = 0 := by omega
    subst e1
    obtain rfl := fit_nil hf
    clear hfl
    go_enter Try.func35, Try.ntmps35
    go_wp2_with fail
    go_loopw [1, 5] (fun s1 s5 wr => s1 = .int .i64 k ∧ s5 = .int .i64 0 ∧ wr = W) (fun _ _ _ => 0)
    case atStart => exact ⟨rfl, rfl, rfl⟩
    case round =>
      obtain ⟨rfl, rfl, rfl⟩ := hrel
      go_wp2_with fail
      go_ret
      exact ⟨by simp [Fo.ct], ⟨⟨hs.1.1, hs.1.2.1, fun h => by simp [Fo.mk, Fo.len] at h⟩, trivial⟩, Kept.refl _ _, hlv⟩

theorem mk_group_CoreAlt : ∀ m : Nat, MkR Try.prog E 36 (E 2) m ∧ MkR Try.prog E 35 (E 3) m
  | 0 => ⟨fun _ _ _ _ _ _ hm => absurd hm (Nat.not_lt_zero _), fun _ _ _ _ _ _ hm => absurd hm (Nat.not_lt_zero _)⟩
  | m + 1 => ⟨mk_R_CoreAltS_of m (mk_group_CoreAlt m).2 (mk_group_CoreAlt m).1, mk_R_CoreS_of m (mk_group_CoreAlt m).2 (mk_group_CoreAlt m).1⟩
theorem mk_R_CoreAltS (m : Nat) : MkR Try.prog E 36 (E 2) m := (mk_group_CoreAlt m).1
theorem mk_R_CoreS (m : Nat) : MkR Try.prog E 35 (E 3) m := (mk_group_CoreAlt m).2
set_option maxHeartbeats 2000000 in
set_option maxRecDepth 100000 in
theorem mk_C_Core (m : Nat) : MkC Try.prog E 10 (E 3) m := by
  intro F k W hm hf hk0 hk hs hnd hlv
  have HI := hide (MkS.start (k0 := k) hs hnd hlv)
  clear hs hnd hlv
  replace hf : Fit E F [.i, .t, .b, .s 0, .s 1, .s 3, .s 2] := hf
  obtain ⟨x0, F0, rfl, hx0, hf⟩ := fit_i hf
  obtain ⟨x1, F1, rfl, hx1, hf⟩ := fit_t hf
  obtain ⟨x2, F2, rfl, hf⟩ := fit_b hf
  obtain ⟨a3, n3, c3, k3, F3, rfl, hf3, hf⟩ := fit_s hf
  obtain ⟨a4, n4, c4, k4, F4, rfl, hf4, hf⟩ := fit_s hf
  obtain ⟨a5, n5, c5, k5, F5, rfl, hf5, hf⟩ := fit_s hf
  obtain ⟨a6, n6, c6, k6, F6, rfl, hf6, hf⟩ := fit_s hf
  obtain rfl := fit_nil hf
  simp only [Fo.size] at hm
  simp only [Fo.sct] at hk ⊢
  simp only [Fo.vals]
  have HK := hide hk
  clear hk
  have HV0 := hide (below_alloc1 W (.cells #[.int .i64 x0, .string x1, .bool x2, .slice a3 n3 c3, .slice a4 n4 c4, .slice a5 n5 c5, .slice a6 n6 c6] 36))
  have Q0 := hide (Bx.new W [.int .i64 x0, .string x1, .bool x2, .slice a3 n3 c3, .slice a4 n4 c4, .slice a5 n5 c5, .slice a6 n6 c6] 36)
  have I0 := hide (HI.out.below HV0.out)
  obtain ⟨w0, hw0⟩ : ∃ V, W.alloc (.cells #[.int .i64 x0, .string x1, .bool x2, .slice a3 n3 c3, .slice a4 n4 c4, .slice a5 n5 c5, .slice a6 n6 c6] 36) = V := ⟨_, rfl⟩
  rw [hw0] at Q0 I0 HV0
  have HE0 := hide hw0
  clear hw0 HI
  go_enter Try.func10, Try.ntmps10
  have hq : Hid (k + Fo.sct .nil = k) := rfl
  have I0_0 := hide (I0.out.skip)
  have hq_0 : Hid (k + ((Fo.nil).app (.v (.int .i64 x0) .nil)).sct = k) := by
    have := hq.out
    show _ = _
    simp only [Fo.app_sct, Fo.sct] at this ⊢
    omega
  have I0_1 := hide (I0_0.out.skip)
  have hq_1 : Hid (k + (((Fo.nil).app (.v (.int .i64 x0) .nil)).app (.v (.string x1) .nil)).sct = k) := by
    have := hq_0.out
    show _ = _
    simp only [Fo.app_sct, Fo.sct] at this ⊢
    omega
  go_wp2_with fail
  rw [HE0.out]
  have hb1 : k + Fo.sct (.v (.bool x2) (.s a3 n3 c3 k3 .nil)) ≤ 4294967296 := by have := HK.out; have := hq_1.out; simp only [Fo.app_sct, Fo.sct] at this ⊢;  omega
  have S1 := MkS.sub (X := (.v (.bool x2) (.s a3 n3 c3 k3 .nil))) I0_1.out
  have HC1 := mk_C_Big (Fo.size (.v (.bool x2) (.s a3 n3 c3 k3 .nil)) + 1) (.v (.bool x2) (.s a3 n3 c3 k3 .nil)) k w0 (Nat.lt_succ_self _) ⟨hf3, trivial⟩ (by  omega) hb1 S1.1 S1.2.1 S1.2.2
  simp only [Fo.vals] at HC1
  refine HC1.mono ?_
  clear HC1 S1
  rintro e w1 ⟨rfl, s1, b1, l1⟩
  have I1 := hide (MkS.call (X := (.v (.bool x2) (.s a3 n3 c3 k3 .nil))) I0_1.out hq_1.out b1 s1 l1)
  obtain ⟨q1, hq1⟩ : ∃ q1, k + Fo.sct (.v (.bool x2) (.s a3 n3 c3 k3 .nil)) = q1 := ⟨_, rfl⟩
  rw [hq1]
  have Q1 := hide (Q0.out.kept b1 (MkS.away (X := (.v (.bool x2) (.s a3 n3 c3 k3 .nil))) I0_1.out (Nat.le_refl _)))
  have HN1 : Hid (k + (k3.ct + 0) = q1) := by
    have := hq1
    show _ = _
    simp only [Fo.sct] at this
    omega
  have hqq1 : Hid (k + ((((Fo.nil).app (.v (.int .i64 x0) .nil)).app (.v (.string x1) .nil)).app (.v (.bool x2) (.s a3 n3 c3 k3 .nil))).sct = q1) := by
    have := hq_1.out
    have := HN1.out
    show _ = _
    simp only [Fo.app_sct, Fo.sct] at *
    omega
  clear b1 s1 l1 hq1 hb1
  have y14 : w1.cell? ⟨W.heap.size, 4, none⟩ = some (.slice a4 n4 c4) := Q1.out.cel 4 _ rfl
  have y15 : w1.cell? ⟨W.heap.size, 5, none⟩ = some (.slice a5 n5 c5) := Q1.out.cel 5 _ rfl
  have y16 : w1.cell? ⟨W.heap.size, 6, none⟩ = some (.slice a6 n6 c6) := Q1.out.cel 6 _ rfl
  go_wp2_with fail
  have hb2 : q1 + Fo.sct (.s a4 n4 c4 k4 .nil) ≤ 4294967296 := by have := HK.out; have := hqq1.out; simp only [Fo.app_sct, Fo.sct] at this ⊢; have := HN1.out; omega
  have S2 := MkS.sub (X := (.s a4 n4 c4 k4 .nil)) I1.out
  have HC2 := mk_R_StringS (k4.size + 1) k4 n4 a4 c4 q1 w1 (Nat.lt_succ_self _) hf4 (by have := HN1.out; omega) (by simp only [Fo.sct] at hb2; omega) S2.1 S2.2.1 S2.2.2
  refine HC2.mono ?_
  clear HC2 S2
  rintro e w2 ⟨rfl, s2, b2, l2⟩
  have I2 := hide (MkS.call (X := (.s a4 n4 c4 k4 .nil)) I1.out hqq1.out b2 s2 l2)
  obtain ⟨q2, hq2⟩ : ∃ q2, q1 + k4.ct = q2 := ⟨_, rfl⟩
  rw [hq2]
  have Q2 := hide (Q1.out.kept b2 (MkS.away (X := (.s a4 n4 c4 k4 .nil)) I1.out (Nat.le_refl _)))
  have HN2 : Hid (q1 + k4.ct = q2) := by
    have := hq2
    show _ = _
    skip
    omega
  have hqq2 : Hid (k + (((((Fo.nil).app (.v (.int .i64 x0) .nil)).app (.v (.string x1) .nil)).app (.v (.bool x2) (.s a3 n3 c3 k3 .nil))).app (.s a4 n4 c4 k4 .nil)).sct = q2) := by
    have := hqq1.out
    have := HN2.out
    show _ = _
    simp only [Fo.app_sct, Fo.sct] at *
    omega
  clear b2 s2 l2 hq2 hb2
  have y25 : w2.cell? ⟨W.heap.size, 5, none⟩ = some (.slice a5 n5 c5) := Q2.out.cel 5 _ rfl
  have y26 : w2.cell? ⟨W.heap.size, 6, none⟩ = some (.slice a6 n6 c6) := Q2.out.cel 6 _ rfl
  go_wp2_with fail
  have hb3 : q2 + Fo.sct (.s a5 n5 c5 k5 .nil) ≤ 4294967296 := by have := HK.out; have := hqq2.out; simp only [Fo.app_sct, Fo.sct] at this ⊢; have := HN1.out; have := HN2.out; omega
  have S3 := MkS.sub (X := (.s a5 n5 c5 k5 .nil)) I2.out
  have HC3 := mk_R_CoreS (k5.size + 1) k5 n5 a5 c5 q2 w2 (Nat.lt_succ_self _) hf5 (by have := HN1.out; have := HN2.out; omega) (by simp only [Fo.sct] at hb3; omega) S3.1 S3.2.1 S3.2.2
  refine HC3.mono ?_
  clear HC3 S3
  rintro e w3 ⟨rfl, s3, b3, l3⟩
  have I3 := hide (MkS.call (X := (.s a5 n5 c5 k5 .nil)) I2.out hqq2.out b3 s3 l3)
  obtain ⟨q3, hq3⟩ : ∃ q3, q2 + k5.ct = q3 := ⟨_, rfl⟩
  rw [hq3]
  have Q3 := hide (Q2.out.kept b3 (MkS.away (X := (.s a5 n5 c5 k5 .nil)) I2.out (Nat.le_refl _)))
  have HN3 : Hid (q2 + k5.ct = q3) := by
    have := hq3
    show _ = _
    skip
    omega
  have hqq3 : Hid (k + ((((((Fo.nil).app (.v (.int .i64 x0) .nil)).app (.v (.string x1) .nil)).app (.v (.bool x2) (.s a3 n3 c3 k3 .nil))).app (.s a4 n4 c4 k4 .nil)).app (.s a5 n5 c5 k5 .nil)).sct = q3) := by
    have := hqq2.out
    have := HN3.out
    show _ = _
    simp only [Fo.app_sct, Fo.sct] at *
    omega
  clear b3 s3 l3 hq3 hb3
  have y36 : w3.cell? ⟨W.heap.size, 6, none⟩ = some (.slice a6 n6 c6) := Q3.out.cel 6 _ rfl
  go_wp2_with fail
  have hb4 : q3 + Fo.sct (.s a6 n6 c6 k6 .nil) ≤ 4294967296 := by have := HK.out; have := hqq3.out; simp only [Fo.app_sct, Fo.sct] at this ⊢; have := HN1.out; have := HN2.out; have := HN3.out; omega
  have S4 := MkS.sub (X := (.s a6 n6 c6 k6 .nil)) I3.out
  have HC4 := mk_R_CoreAltS (k6.size + 1) k6 n6 a6 c6 q3 w3 (Nat.lt_succ_self _) hf6 (by have := HN1.out; have := HN2.out; have := HN3.out; omega) (by simp only [Fo.sct] at hb4; omega) S4.1 S4.2.1 S4.2.2
  refine HC4.mono ?_
  clear HC4 S4
  rintro e w4 ⟨rfl, s4, b4, l4⟩
  have I4 := hide (MkS.call (X := (.s a6 n6 c6 k6 .nil)) I3.out hqq3.out b4 s4 l4)
  obtain ⟨q4, hq4⟩ : ∃ q4, q3 + k6.ct = q4 := ⟨_, rfl⟩
  rw [hq4]
  have Q4 := hide (Q3.out.kept b4 (MkS.away (X := (.s a6 n6 c6 k6 .nil)) I3.out (Nat.le_refl _)))
  have HN4 : Hid (q3 + k6.ct = q4) := by
    have := hq4
    show _ = _
    skip
    omega
  have hqq4 : Hid (k + (((((((Fo.nil).app (.v (.int .i64 x0) .nil)).app (.v (.string x1) .nil)).app (.v (.bool x2) (.s a3 n3 c3 k3 .nil))).app (.s a4 n4 c4 k4 .nil)).app (.s a5 n5 c5 k5 .nil)).app (.s a6 n6 c6 k6 .nil)).sct = q4) := by
    have := hqq3.out
    have := HN4.out
    show _ = _
    simp only [Fo.app_sct, Fo.sct] at *
    omega
  clear b4 s4 l4 hq4 hb4
  have h1 := hide (I4.out.finish)
  go_wp2_with fail
  go_ret
  exact ⟨ret_int (by have := HN1.out; have := HN2.out; have := HN3.out; have := HN4.out; omega), h1.out.1, h1.out.2.1, h1.out.2.2⟩

end Go.Proofs.Ytcnokpaicnjkfaa
