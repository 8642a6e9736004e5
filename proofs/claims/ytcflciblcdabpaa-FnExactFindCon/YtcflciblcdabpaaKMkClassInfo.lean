import Derived.Test.YtcflciblcdabpaaKx
import Derived.Test.YtcflciblcdabpaaJG
namespace Go.Proofs.Ytcflciblcdabpaa
open Go.RowKit Go.Joins

set_option maxHeartbeats 2000000 in
set_option maxRecDepth 100000 in
theorem mk_R_ClassInfoS (m : Nat) : MkR Try.prog E 37 (E 1) m := by
  intro F n a cap k W hm hf hk0 hk hs hnd hlv
  have hmx : n ≤ 9223372036854775807 := by have h2 := hs.1.1; have h3 := hs.1.2.1; simp only [maxLen] at h3; omega
  have hfl : F.len = n * 3 := by rw [Fit.len hf, rep_len]; rfl
  by_cases hp : 0 < n
  · have hl : 0 < F.len := by omega
    obtain ⟨b, o, rfl, -, -, -⟩ := hs.1.2.2 hl
    have HI := hide (MkI.start (k0 := k) hl hs.1 (by simpa [Fo.inn] using hnd) (by simpa [Fo.inn] using hlv))
    have HL := hide hl
    have HF := hide hf
    have HM := hide hm
    have HK := hide hk
    have HCP := hide (And.intro hs.1.1 hs.1.2.1)
    clear hl hf hs hnd hlv hm hk hfl
    go_enter Try.func37, Try.ntmps37
    go_wp2_with fail
    go_loopw [1, 5] (fun s1 s5 wr => ∃ (i q : Nat) (r Fp : Fo), s1 = .int .i64 (q : Int) ∧ s5 = .int .i64 i ∧ i ≤ n ∧ Hid (k + Fp.ct = q) ∧ Hid (Fp.len = i * 3) ∧ Hid (Fit E r (rep (E 1) (n - i))) ∧ Hid (MkI b o F k W Fp r wr)) (fun _ s5 _ => n - (intOf s5).toNat)
    case atStart => exact ⟨0, k, F, .nil, rfl, rfl, Nat.zero_le _, (by show _ = _; simp [Fo.ct]), (by show _ = _; simp [Fo.len]), HF, HI⟩
    case round =>
      obtain ⟨i, q, r, Fp, rfl, rfl, hin, hq, hfp, hR, hI⟩ := hrel
      by_cases hi : i < n
      · obtain ⟨x, rr, rfl, hx, hrr, -⟩ := hR.out.next hi
        have HRR := hide hrr
        have hii : (i : Int) < n := by omega
        have hct := congrArg Fo.ct hI.out.eq
        have hsz := congrArg Fo.size hI.out.eq
        clear hR hrr
        replace hx : Fit E x [.t, .s 0, .s 0] := hx
        obtain ⟨x0, F0, rfl, hx0, hx⟩ := fit_t hx
        obtain ⟨a1, n1, c1, k1, F1, rfl, hf1, hx⟩ := fit_s hx
        obtain ⟨a2, n2, c2, k2, F2, rfl, hf2, hx⟩ := fit_s hx
        obtain rfl := fit_nil hx
        have I0 : Hid (MkI b o F k W Fp (.v (.string x0) (.s a1 n1 c1 k1 (.s a2 n2 c2 k2 rr))) wr) := hI
        simp only [Fo.app, Fo.app_ct, Fo.ct] at hct
        simp only [Fo.app, Fo.app_size, Fo.size] at hsz
        have hqk : 0 < q ∧ q + (1 + k1.ct + k2.ct) ≤ 4294967296 := by have := hq.out; have := HK.out; omega
        have HQK := hide hqk
        have hv0 : q + 1 ≤ 4294967296 := by omega
        have HSZ := hide hsz
        clear hI hct hsz hqk
        have HM0 : Hid (∀ w, Calls Try.prog 59 #[.int .i64 ((q : Int))] w fun e w' => e = .returned (.string (mt (q))) ∧ Below w.heap.size w w') := fun w => by
          have e : ((q : Nat) : Int) = (q : Int) := by omega
          rw [← e]
          exact markText (q) w (by have := HQK.out; have := hq.out; omega) (by have := HQK.out; have := hq.out; omega)
        go_wp2_with fail
        refine (HM0.out wr).mono ?_
        rintro e w1 ⟨rfl, b1⟩
        have I1 := hide (I0.out.below b1)
        clear b1 HM0
        have HM1 : Hid (∀ w, Fo.Subs w (fun c => c < w.heap.size) (.s a1 n1 c1 k1 .nil) → (Fo.inn (.s a1 n1 c1 k1 .nil)).Nodup → Live w (Fo.inn (.s a1 n1 c1 k1 .nil)) → Calls Try.prog 60 #[.slice a1 n1 c1, .int .i64 ((q : Int) + 1)] w fun e w' => e = .returned (.int .i64 ((q + 1 + k1.ct : Nat) : Int)) ∧
            Fo.Subs w' (fun c => c < w.heap.size) (Fo.mks (.s a1 n1 c1 k1 .nil) (q + 1)) ∧ Kept (fun c => c ∉ Fo.inn (.s a1 n1 c1 k1 .nil)) w w' ∧ Live w' (Fo.inn (.s a1 n1 c1 k1 .nil))) := fun w h1 h2 h3 => by
          have e : ((q + 1 : Nat) : Int) = (q : Int) + 1 := by omega
          rw [← e]
          exact mk_R_StringS m k1 n1 a1 c1 (q + 1) w (by have := HM.out; have := HSZ.out; omega) hf1 (by have := HQK.out; have := hq.out; omega) (by have := HQK.out; have := hq.out; omega) h1 h2 h3
        have p1_0 : w1.cell? ⟨b, o + i * 3, none⟩ = some (.string x0) := I1.out.at_ 0 _ rfl (by have := hfp.out; (try simp only [Fo.app_len, Fo.len]); omega)
        have f1_0 := I1.out.free (o + i * 3)
        have p1_1 : w1.cell? ⟨b, o + i * 3 + 1, none⟩ = some (.slice a1 n1 c1) := I1.out.at_ 1 _ rfl (by have := hfp.out; (try simp only [Fo.app_len, Fo.len]); omega)
        obtain ⟨V2, hV2⟩ : ∃ V, (w1.setCell ⟨b, o + i * 3, none⟩ (.string (mt (q)))) = V := ⟨_, rfl⟩
        have I2 : Hid (MkI b o F k W (Fp.app (.v (.string x0) .nil)) (.s a1 n1 c1 k1 (.s a2 n2 c2 k2 rr)) V2) := by
          rw [← hV2]
          exact (I1.out.set (q := q) (by have := hfp.out; (try simp only [Fo.app_len, Fo.len]); omega) (by have := hq.out; (try simp only [Fo.app_ct, Fo.ct] at this ⊢); omega) (by first | rfl | (simp only [mkV]; congr 1; omega)))
        have HV2 := hide hV2
        clear hV2
        go_wp2_with fail
        rw [HV2.out]
        clear p1_0 f1_0 p1_1
        refine (HM1.out V2 I2.out.sub.1 I2.out.sub.2.1 I2.out.sub.2.2).mono ?_
        rintro e w3 ⟨rfl, s3, b3, l3⟩
        have I3 := hide (I2.out.call (q := q + 1) (by have := hq.out; (try simp only [Fo.app_ct, Fo.ct] at this ⊢); omega) b3 s3 l3)
        obtain ⟨q1, hq1⟩ : ∃ q1, q + 1 + k1.ct = q1 := ⟨_, rfl⟩
        rw [hq1]
        have HQ1 : Hid (k + ((Fp.app (.v (.string x0) .nil)).app (.s a1 n1 c1 k1 .nil)).ct = q1 ∧ q + 1 + k1.ct = q1) := ⟨by have := hq.out; (try simp only [Fo.app_ct, Fo.ct] at this ⊢); omega, hq1⟩
        have HE1 : Hid (k + ((Fp.app (.v (.string x0) .nil)).app (.s a1 n1 c1 k1 .nil)).ct = q1) := HQ1.out.1
        have hv2 : q1 + 0 ≤ 4294967296 := by have := HQK.out; have := HQ1.out; omega
        clear b3 s3 l3 hq1 HM1
        have HM2 : Hid (∀ w, Fo.Subs w (fun c => c < w.heap.size) (.s a2 n2 c2 k2 .nil) → (Fo.inn (.s a2 n2 c2 k2 .nil)).Nodup → Live w (Fo.inn (.s a2 n2 c2 k2 .nil)) → Calls Try.prog 60 #[.slice a2 n2 c2, .int .i64 ((q1 : Int))] w fun e w' => e = .returned (.int .i64 ((q1 + k2.ct : Nat) : Int)) ∧
            Fo.Subs w' (fun c => c < w.heap.size) (Fo.mks (.s a2 n2 c2 k2 .nil) (q1)) ∧ Kept (fun c => c ∉ Fo.inn (.s a2 n2 c2 k2 .nil)) w w' ∧ Live w' (Fo.inn (.s a2 n2 c2 k2 .nil))) := fun w h1 h2 h3 => by
          have e : ((q1 : Nat) : Int) = (q1 : Int) := by omega
          rw [← e]
          exact mk_R_StringS m k2 n2 a2 c2 (q1) w (by have := HM.out; have := HSZ.out; omega) hf2 (by have := HQK.out; have := HE1.out; omega) (by have := HQK.out; have := HE1.out; have := HQ1.out; omega) h1 h2 h3
        have p3_2 : w3.cell? ⟨b, o + i * 3 + 2, none⟩ = some (.slice a2 n2 c2) := I3.out.at_ 0 _ rfl (by have := hfp.out; (try simp only [Fo.app_len, Fo.len]); omega)
        go_wp2_with fail
        clear p3_2
        refine (HM2.out w3 I3.out.sub.1 I3.out.sub.2.1 I3.out.sub.2.2).mono ?_
        rintro e w4 ⟨rfl, s4, b4, l4⟩
        have I4 := hide (I3.out.call (q := q1) (by have := HE1.out; (try simp only [Fo.app_ct, Fo.ct] at this ⊢); omega) b4 s4 l4)
        obtain ⟨q2, hq2⟩ : ∃ q2, q1 + k2.ct = q2 := ⟨_, rfl⟩
        rw [hq2]
        have HQ2 : Hid (k + (((Fp.app (.v (.string x0) .nil)).app (.s a1 n1 c1 k1 .nil)).app (.s a2 n2 c2 k2 .nil)).ct = q2 ∧ q1 + k2.ct = q2) := ⟨by have := HE1.out; (try simp only [Fo.app_ct, Fo.ct] at this ⊢); omega, hq2⟩
        have HE2 : Hid (k + (((Fp.app (.v (.string x0) .nil)).app (.s a1 n1 c1 k1 .nil)).app (.s a2 n2 c2 k2 .nil)).ct = q2) := HQ2.out.1
        have hv3 : q2 + 0 ≤ 4294967296 := by have := HQK.out; have := HQ1.out; have := HQ2.out; omega
        clear b4 s4 l4 hq2 HM2
        go_wp2_with fail
        go_roundw
        case rel => exact ⟨i + 1, q2, rr, (((Fp.app (.v (.string x0) .nil)).app (.s a1 n1 c1 k1 .nil)).app (.s a2 n2 c2 k2 .nil)), rfl, by go_num, by omega, (by show _ = _; have := HE2.out; simp only [Fo.app_ct, Fo.ct] at this ⊢; omega), (by show _ = _; have := hfp.out; (try simp only [Fo.app_len, Fo.len]); omega), HRR, I4⟩
        case measure => simp [intOf]; omega
      · have e1 := hR.out.done hi
        subst e1
        have hin2 : i = n := by omega
        subst hin2
        have h1 := hide (hI.out.finish HCP.out.1 HCP.out.2 HL.out)
        clear hR hI
        go_wp2_with fail
        go_ret
        obtain ⟨h2, h3, h4, h5⟩ := h1.out
        subst h2
        exact ⟨by rw [hq.out]; rfl, h3, h4, h5⟩
  · have e1 : n = 0 := by omega
    subst e1
    obtain rfl := fit_nil hf
    clear hfl
    go_enter Try.func37, Try.ntmps37
    go_wp2_with fail
    go_loopw [1, 5] (fun s1 s5 wr => s1 = .int .i64 k ∧ s5 = .int .i64 0 ∧ wr = W) (fun _ _ _ => 0)
    case atStart => exact ⟨rfl, rfl, rfl⟩
    case round =>
      obtain ⟨rfl, rfl, rfl⟩ := hrel
      go_wp2_with fail
      go_ret
      exact ⟨by simp [Fo.ct], ⟨⟨hs.1.1, hs.1.2.1, fun h => by simp [Fo.mk, Fo.len] at h⟩, trivial⟩, Kept.refl _ _, hlv⟩

end Go.Proofs.Ytcflciblcdabpaa
