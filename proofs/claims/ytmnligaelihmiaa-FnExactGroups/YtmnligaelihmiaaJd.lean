import Derived.Test.YtmnligaelihmiaaKa
namespace Go.Proofs.Ytmnligaelihmiaa
open Go.RowKit Go.Joins

set_option maxHeartbeats 2000000 in
set_option maxRecDepth 100000 in
theorem mk_R_Int64S (m : Nat) : MkR Try.prog E 25 (E 0) m := by
  intro F n a cap k W hm hf hk0 hk hs hnd hlv
  have hmx : n ≤ 9223372036854775807 := by have h2 := hs.1.1; have h3 := hs.1.2.1; simp only [maxLen] at h3; omega
  have hfl : F.len = n * 1 := by rw [Fit.len hf, rep_len]; rfl
  by_cases hp : 0 < n
  · have hl : 0 < F.len := by omega
    obtain ⟨b, o, rfl, -, -, -⟩ := hs.1.2.2 hl
    have HI := hide (MkI.start (k0 := k) hl hs.1 (by simpa [Fo.inn] using hnd) (by simpa [Fo.inn] using hlv))
    have HL := hide hl
    have HF := hide hf
    have HM := hide hm
    have HK := hide hk
    have HCP := hide (And.intro hs.1.1 hs.1.2.1)
    clear hl hf hs hnd hlv hm hk hfl
    go_enter Try.func25, Try.ntmps25
    go_wp2_with fail
    go_loopw [1, 5] (fun s1 s5 wr => ∃ (i q : Nat) (r Fp : Fo), s1 = .int .i64 (q : Int) ∧ s5 = .int .i64 i ∧ i ≤ n ∧ Hid (k + Fp.ct = q) ∧ Hid (Fp.len = i * 1) ∧ Hid (Fit E r (rep (E 0) (n - i))) ∧ Hid (MkI b o F k W Fp r wr)) (fun _ s5 _ => n - (intOf s5).toNat)
    case atStart => exact ⟨0, k, F, .nil, rfl, rfl, Nat.zero_le _, (by show _ = _; simp [Fo.ct]), (by show _ = _; simp [Fo.len]), HF, HI⟩
    case round =>
      obtain ⟨i, q, r, Fp, rfl, rfl, hin, hq, hfp, hR, hI⟩ := hrel
      by_cases hi : i < n
      · obtain ⟨x, rr, rfl, hx, hrr, -⟩ := hR.out.next hi
        have HRR := hide hrr
        have hii : (i : Int) < n := by omega
        have hct := congrArg Fo.ct hI.out.eq
        have hsz := congrArg Fo.size hI.out.eq
        clear hR hrr
        replace hx : Fit E x [.i] := hx
        obtain ⟨x0, F0, rfl, hx0, hx⟩ := fit_i hx
        obtain rfl := fit_nil hx
        have I0 : Hid (MkI b o F k W Fp (.v (.int .i64 x0) rr) wr) := hI
        simp only [Fo.app, Fo.app_ct, Fo.ct] at hct
        simp only [Fo.app, Fo.app_size, Fo.size] at hsz
        have hqk : 0 < q ∧ q + (1) ≤ 4294967296 := by have := hq.out; have := HK.out; omega
        have HQK := hide hqk
        have hv0 : q + 1 ≤ 4294967296 := by omega
        have HSZ := hide hsz
        clear hI hct hsz hqk
        have p0_0 : wr.cell? ⟨b, o + i, none⟩ = some (.int .i64 x0) := I0.out.at_ 0 _ rfl (by have := hfp.out; (try simp only [Fo.app_len, Fo.len]); omega)
        have f0_0 := I0.out.free (o + i)
        obtain ⟨V1, hV1⟩ : ∃ V, (wr.setCell ⟨b, o + i, none⟩ (.int .i64 ((q : Int)))) = V := ⟨_, rfl⟩
        have I1 : Hid (MkI b o F k W (Fp.app (.v (.int .i64 x0) .nil)) rr V1) := by
          rw [← hV1]
          exact (I0.out.set (q := q) (by have := hfp.out; (try simp only [Fo.app_len, Fo.len]); omega) (by have := hq.out; (try simp only [Fo.app_ct, Fo.ct] at this ⊢); omega) (by first | rfl | (simp only [mkV]; congr 1; omega)))
        have HV1 := hide hV1
        clear hV1
        go_wp2_with fail
        go_roundw
        case rel => exact ⟨i + 1, q + 1, rr, (Fp.app (.v (.int .i64 x0) .nil)), by first | rfl | go_num, by go_num, by omega, (by show _ = _; have := hq.out; simp only [Fo.app_ct, Fo.ct] at this ⊢; omega), (by show _ = _; have := hfp.out; (try simp only [Fo.app_len, Fo.len]); omega), HRR, (by rw [← HV1.out] at I1; exact I1)⟩
        case measure => simp [intOf]; omega
      · have e1 := hR.out.done hi
        subst e1
        have hin2 : i = n := by omega
        subst hin2
        have h1 := hide (hI.out.finish HCP.out.1 HCP.out.2 HL.out)
        clear hR hI
        go_wp2_with fail
        go_ret
        obtain ⟨h2, h3, h4, h5⟩ := h1.out
        subst h2
        exact ⟨by rw [hq.out]; rfl, h3, h4, h5⟩
  · have e1 : n = 0 := by omega
    subst e1
    obtain rfl := fit_nil hf
    clear hfl
    go_enter Try.func25, Try.ntmps25
    go_wp2_with fail
    go_loopw [1, 5] (fun s1 s5 wr => s1 = .int .i64 k ∧ s5 = .int .i64 0 ∧ wr = W) (fun _ _ _ => 0)
    case atStart => exact ⟨rfl, rfl, rfl⟩
    case round =>
      obtain ⟨rfl, rfl, rfl⟩ := hrel
      go_wp2_with fail
      go_ret
      exact ⟨by simp [Fo.ct], ⟨⟨hs.1.1, hs.1.2.1, fun h => by simp [Fo.mk, Fo.len] at h⟩, trivial⟩, Kept.refl _ _, hlv⟩

end Go.Proofs.Ytmnligaelihmiaa

namespace Go.Proofs.Ytmnligaelihmiaa
open Go.RowKit Go.Joins

set_option maxHeartbeats 2000000 in
set_option maxRecDepth 100000 in
theorem mk_R_Int64SS (m : Nat) : MkR Try.prog E 12 (E 1) m := by
  intro F n a cap k W hm hf hk0 hk hs hnd hlv
  have hmx : n ≤ 9223372036854775807 := by have h2 := hs.1.1; have h3 := hs.1.2.1; simp only [maxLen] at h3; omega
  have hfl : F.len = n * 1 := by rw [Fit.len hf, rep_len]; rfl
  by_cases hp : 0 < n
  · have hl : 0 < F.len := by omega
    obtain ⟨b, o, rfl, -, -, -⟩ := hs.1.2.2 hl
    have HI := hide (MkI.start (k0 := k) hl hs.1 (by simpa [Fo.inn] using hnd) (by simpa [Fo.inn] using hlv))
    have HL := hide hl
    have HF := hide hf
    have HM := hide hm
    have HK := hide hk
    have HCP := hide (And.intro hs.1.1 hs.1.2.1)
    clear hl hf hs hnd hlv hm hk hfl
    go_enter Try.func12, Try.ntmps12
    go_wp2_with fail
    go_loopw [1, 5] (fun s1 s5 wr => ∃ (i q : Nat) (r Fp : Fo), s1 = .int .i64 (q : Int) ∧ s5 = .int .i64 i ∧ i ≤ n ∧ Hid (0 < q ∧ k + Fp.ct = q) ∧ Hid (Fp.len = i * 1) ∧ Hid (Fit E r (rep (E 1) (n - i))) ∧ Hid (MkI b o F k W Fp r wr)) (fun _ s5 _ => n - (intOf s5).toNat)
    case atStart => exact ⟨0, k, F, .nil, rfl, rfl, Nat.zero_le _, ⟨hk0, (by simp [Fo.ct])⟩, (by show _ = _; simp [Fo.len]), HF, HI⟩
    case round =>
      obtain ⟨i, q, r, Fp, rfl, rfl, hin, hq, hfp, hR, hI⟩ := hrel
      by_cases hi : i < n
      · obtain ⟨x, rr, rfl, hx, hrr, -⟩ := hR.out.next hi
        have HRR := hide hrr
        have hii : (i : Int) < n := by omega
        have hct := congrArg Fo.ct hI.out.eq
        have hsz := congrArg Fo.size hI.out.eq
        clear hR hrr
        replace hx : Fit E x [.s 0] := hx
        obtain ⟨a0, n0, c0, k0, F0, rfl, hf0, hx⟩ := fit_s hx
        obtain rfl := fit_nil hx
        have I0 : Hid (MkI b o F k W Fp (.s a0 n0 c0 k0 rr) wr) := hI
        simp only [Fo.app, Fo.app_ct, Fo.ct] at hct
        simp only [Fo.app, Fo.app_size, Fo.size] at hsz
        have hqk : q + k0.ct ≤ 4294967296 := by have := hq.out; have := HK.out; omega
        obtain ⟨u1, u2, u3⟩ := I0.out.sub
        have HC := hide (mk_R_Int64S m k0 n0 a0 c0 q wr (by have := HM.out; omega) hf0 hq.out.1 hqk u1 u2 u3)
        have p0 : wr.cell? ⟨b, o + i, none⟩ = some (.slice a0 n0 c0) := I0.out.at_ 0 _ rfl (by have := hfp.out; omega)
        obtain ⟨q2, hq2⟩ : ∃ q2, q + k0.ct = q2 := ⟨_, rfl⟩
        rw [hq2] at HC
        have HQ2 := hide hq2
        clear hI hct hsz hqk u1 u2 u3 hq2
        go_wp2_with fail
        refine HC.out.mono ?_
        rintro e w2 ⟨rfl, m2, k2, l2⟩
        have I2 := hide (I0.out.call hq.out.2 k2 m2 l2)
        clear m2 k2 l2
        go_wp2_with fail
        go_roundw
        case rel => exact ⟨i + 1, q2, rr, (Fp.app (.s a0 n0 c0 k0 .nil)), rfl, by go_num, by omega, ⟨by have := hq.out; have := HQ2.out; omega, by have := hq.out; have := HQ2.out; simp only [Fo.app_ct, Fo.ct]; omega⟩, (by show _ = _; have := hfp.out; simp only [Fo.app_len, Fo.len]; omega), HRR, I2⟩
        case measure => simp [intOf]; omega
      · have e1 := hR.out.done hi
        subst e1
        have hin2 : i = n := by omega
        subst hin2
        have h1 := hide (hI.out.finish HCP.out.1 HCP.out.2 HL.out)
        clear hR hI
        go_wp2_with fail
        go_ret
        obtain ⟨h2, h3, h4, h5⟩ := h1.out
        subst h2
        exact ⟨by rw [hq.out.2]; rfl, h3, h4, h5⟩
  · have e1 : n = 0 := by omega
    subst e1
    obtain rfl := fit_nil hf
    clear hfl
    go_enter Try.func12, Try.ntmps12
    go_wp2_with fail
    go_loopw [1, 5] (fun s1 s5 wr => s1 = .int .i64 k ∧ s5 = .int .i64 0 ∧ wr = W) (fun _ _ _ => 0)
    case atStart => exact ⟨rfl, rfl, rfl⟩
    case round =>
      obtain ⟨rfl, rfl, rfl⟩ := hrel
      go_wp2_with fail
      go_ret
      exact ⟨by simp [Fo.ct], ⟨⟨hs.1.1, hs.1.2.1, fun h => by simp [Fo.mk, Fo.len] at h⟩, trivial⟩, Kept.refl _ _, hlv⟩

end Go.Proofs.Ytmnligaelihmiaa
