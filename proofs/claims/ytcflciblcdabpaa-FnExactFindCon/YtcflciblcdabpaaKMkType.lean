import Derived.Test.YtcflciblcdabpaaKx
namespace Go.Proofs.Ytcflciblcdabpaa
open Go.RowKit Go.Joins

set_option maxHeartbeats 2000000 in
set_option maxRecDepth 100000 in
theorem mk_R_TypeS_of (m : Nat) (h : MkR Try.prog E 39 (E 2) m) : MkR Try.prog E 39 (E 2) (m + 1) := by
  intro F n a cap k W hm hf hk0 hk hs hnd hlv
  have hmx : n ≤ 9223372036854775807 := by have h2 := hs.1.1; have h3 := hs.1.2.1; simp only [maxLen] at h3; omega
  have hfl : F.len = n * 4 := by rw [Fit.len hf, rep_len]; rfl
  by_cases hp : 0 < n
  · have hl : 0 < F.len := by omega
    obtain ⟨b, o, rfl, -, -, -⟩ := hs.1.2.2 hl
    have HI := hide (MkI.start (k0 := k) hl hs.1 (by simpa [Fo.inn] using hnd) (by simpa [Fo.inn] using hlv))
    have HL := hide hl
    have HF := hide hf
    have HM := hide hm
    have HK := hide hk
    have HCP := hide (And.intro hs.1.1 hs.1.2.1)
    clear hl hf hs hnd hlv hm hk hfl
    go_enter Try.func39, Try.ntmps39
    go_wp2_with fail
    go_loopw [1, 5] (fun s1 s5 wr => ∃ (i q : Nat) (r Fp : Fo), s1 = .int .i64 (q : Int) ∧ s5 = .int .i64 i ∧ i ≤ n ∧ Hid (k + Fp.ct = q) ∧ Hid (Fp.len = i * 4) ∧ Hid (Fit E r (rep (E 2) (n - i))) ∧ Hid (MkI b o F k W Fp r wr)) (fun _ s5 _ => n - (intOf s5).toNat)
    case atStart => exact ⟨0, k, F, .nil, rfl, rfl, Nat.zero_le _, (by show _ = _; simp [Fo.ct]), (by show _ = _; simp [Fo.len]), HF, HI⟩
    case round =>
      obtain ⟨i, q, r, Fp, rfl, rfl, hin, hq, hfp, hR, hI⟩ := hrel
      by_cases hi : i < n
      · obtain ⟨x, rr, rfl, hx, hrr, -⟩ := hR.out.next hi
        have HRR := hide hrr
        have hii : (i : Int) < n := by omega
        have hct := congrArg Fo.ct hI.out.eq
        have hsz := congrArg Fo.size hI.out.eq
        clear hR hrr
        replace hx : Fit E x [.i, .i, .t, .s 2] := hx
        obtain ⟨x0, F0, rfl, hx0, hx⟩ := fit_i hx
        obtain ⟨x1, F1, rfl, hx1, hx⟩ := fit_i hx
        obtain ⟨x2, F2, rfl, hx2, hx⟩ := fit_t hx
        obtain ⟨a3, n3, c3, k3, F3, rfl, hf3, hx⟩ := fit_s hx
        obtain rfl := fit_nil hx
        have I0 : Hid (MkI b o F k W Fp (.v (.int .i64 x0) (.v (.int .i64 x1) (.v (.string x2) (.s a3 n3 c3 k3 rr)))) wr) := hI
        simp only [Fo.app, Fo.app_ct, Fo.ct] at hct
        simp only [Fo.app, Fo.app_size, Fo.size] at hsz
        have hqk : 0 < q ∧ q + (1 + 1 + 1 + k3.ct) ≤ 4294967296 := by have := hq.out; have := HK.out; omega
        have HQK := hide hqk
        have hv0 : q + 3 ≤ 4294967296 := by omega
        have HSZ := hide hsz
        clear hI hct hsz hqk
        have HM2 : Hid (∀ w, Calls Try.prog 59 #[.int .i64 ((q : Int) + 1 + 1)] w fun e w' => e = .returned (.string (mt (q + 2))) ∧ Below w.heap.size w w') := fun w => by
          have e : ((q + 2 : Nat) : Int) = (q : Int) + 1 + 1 := by omega
          rw [← e]
          exact markText (q + 2) w (by have := HQK.out; have := hq.out; omega) (by have := HQK.out; have := hq.out; omega)
        have p0_0 : wr.cell? ⟨b, o + i * 4, none⟩ = some (.int .i64 x0) := I0.out.at_ 0 _ rfl (by have := hfp.out; (try simp only [Fo.app_len, Fo.len]); omega)
        have f0_0 := I0.out.free (o + i * 4)
        have p0_1 : wr.cell? ⟨b, o + i * 4 + 1, none⟩ = some (.int .i64 x1) := I0.out.at_ 1 _ rfl (by have := hfp.out; (try simp only [Fo.app_len, Fo.len]); omega)
        have f0_1 := I0.out.free (o + i * 4 + 1)
        obtain ⟨V1, hV1⟩ : ∃ V, ((wr.setCell ⟨b, o + i * 4, none⟩ (.int .i64 ((q : Int)))).setCell ⟨b, o + i * 4 + 1, none⟩ (.int .i64 ((q : Int) + 1))) = V := ⟨_, rfl⟩
        have I1 : Hid (MkI b o F k W ((Fp.app (.v (.int .i64 x0) .nil)).app (.v (.int .i64 x1) .nil)) (.v (.string x2) (.s a3 n3 c3 k3 rr)) V1) := by
          rw [← hV1]
          exact ((I0.out.set (q := q) (by have := hfp.out; (try simp only [Fo.app_len, Fo.len]); omega) (by have := hq.out; (try simp only [Fo.app_ct, Fo.ct] at this ⊢); omega) (by first | rfl | (simp only [mkV]; congr 1; omega))).set (q := q + 1) (by have := hfp.out; (try simp only [Fo.app_len, Fo.len]); omega) (by have := hq.out; (try simp only [Fo.app_ct, Fo.ct] at this ⊢); omega) (by first | rfl | (simp only [mkV]; congr 1; omega)))
        have HV1 := hide hV1
        clear hV1
        go_wp2_with fail
        rw [HV1.out]
        clear p0_0 p0_1 f0_0 f0_1
        refine (HM2.out V1).mono ?_
        rintro e w2 ⟨rfl, b2⟩
        have I2 := hide (I1.out.below b2)
        clear b2 HM2
        have HM3 : Hid (∀ w, Fo.Subs w (fun c => c < w.heap.size) (.s a3 n3 c3 k3 .nil) → (Fo.inn (.s a3 n3 c3 k3 .nil)).Nodup → Live w (Fo.inn (.s a3 n3 c3 k3 .nil)) → Calls Try.prog 39 #[.slice a3 n3 c3, .int .i64 ((q : Int) + 1 + 1 + 1)] w fun e w' => e = .returned (.int .i64 ((q + 3 + k3.ct : Nat) : Int)) ∧
            Fo.Subs w' (fun c => c < w.heap.size) (Fo.mks (.s a3 n3 c3 k3 .nil) (q + 3)) ∧ Kept (fun c => c ∉ Fo.inn (.s a3 n3 c3 k3 .nil)) w w' ∧ Live w' (Fo.inn (.s a3 n3 c3 k3 .nil))) := fun w h1 h2 h3 => by
          have e : ((q + 3 : Nat) : Int) = (q : Int) + 1 + 1 + 1 := by omega
          rw [← e]
          exact h k3 n3 a3 c3 (q + 3) w (by have := HM.out; have := HSZ.out; omega) hf3 (by have := HQK.out; have := hq.out; omega) (by have := HQK.out; have := hq.out; omega) h1 h2 h3
        have p2_2 : w2.cell? ⟨b, o + i * 4 + 2, none⟩ = some (.string x2) := I2.out.at_ 0 _ rfl (by have := hfp.out; (try simp only [Fo.app_len, Fo.len]); omega)
        have f2_2 := I2.out.free (o + i * 4 + 2)
        have p2_3 : w2.cell? ⟨b, o + i * 4 + 3, none⟩ = some (.slice a3 n3 c3) := I2.out.at_ 1 _ rfl (by have := hfp.out; (try simp only [Fo.app_len, Fo.len]); omega)
        obtain ⟨V3, hV3⟩ : ∃ V, (w2.setCell ⟨b, o + i * 4 + 2, none⟩ (.string (mt (q + 2)))) = V := ⟨_, rfl⟩
        have I3 : Hid (MkI b o F k W (((Fp.app (.v (.int .i64 x0) .nil)).app (.v (.int .i64 x1) .nil)).app (.v (.string x2) .nil)) (.s a3 n3 c3 k3 rr) V3) := by
          rw [← hV3]
          exact (I2.out.set (q := q + 2) (by have := hfp.out; (try simp only [Fo.app_len, Fo.len]); omega) (by have := hq.out; (try simp only [Fo.app_ct, Fo.ct] at this ⊢); omega) (by first | rfl | (simp only [mkV]; congr 1; omega)))
        have HV3 := hide hV3
        clear hV3
        go_wp2_with fail
        rw [HV3.out]
        clear p2_2 f2_2 p2_3
        refine (HM3.out V3 I3.out.sub.1 I3.out.sub.2.1 I3.out.sub.2.2).mono ?_
        rintro e w4 ⟨rfl, s4, b4, l4⟩
        have I4 := hide (I3.out.call (q := q + 3) (by have := hq.out; (try simp only [Fo.app_ct, Fo.ct] at this ⊢); omega) b4 s4 l4)
        obtain ⟨q3, hq3⟩ : ∃ q3, q + 3 + k3.ct = q3 := ⟨_, rfl⟩
        rw [hq3]
        have HQ3 : Hid (k + ((((Fp.app (.v (.int .i64 x0) .nil)).app (.v (.int .i64 x1) .nil)).app (.v (.string x2) .nil)).app (.s a3 n3 c3 k3 .nil)).ct = q3 ∧ q + 3 + k3.ct = q3) := ⟨by have := hq.out; (try simp only [Fo.app_ct, Fo.ct] at this ⊢); omega, hq3⟩
        have HE3 : Hid (k + ((((Fp.app (.v (.int .i64 x0) .nil)).app (.v (.int .i64 x1) .nil)).app (.v (.string x2) .nil)).app (.s a3 n3 c3 k3 .nil)).ct = q3) := HQ3.out.1
        have hv4 : q3 + 0 ≤ 4294967296 := by have := HQK.out; have := HQ3.out; omega
        clear b4 s4 l4 hq3 HM3
        go_wp2_with fail
        go_roundw
        case rel => exact ⟨i + 1, q3, rr, ((((Fp.app (.v (.int .i64 x0) .nil)).app (.v (.int .i64 x1) .nil)).app (.v (.string x2) .nil)).app (.s a3 n3 c3 k3 .nil)), rfl, by go_num, by omega, (by show _ = _; have := HE3.out; simp only [Fo.app_ct, Fo.ct] at this ⊢; omega), (by show _ = _; have := hfp.out; (try simp only [Fo.app_len, Fo.len]); omega), HRR, I4⟩
        case measure => simp [intOf]; omega
      · have e1 := hR.out.done hi
        subst e1
        have hin2 : i = n := by omega
        subst hin2
        have h1 := hide (hI.out.finish HCP.out.1 HCP.out.2 HL.out)
        clear hR hI
        go_wp2_with fail
        go_ret
        obtain ⟨h2, h3, h4, h5⟩ := h1.out
        subst h2
        exact ⟨by rw [hq.out]; rfl, h3, h4, h5⟩
  · have e1 : n = 0 := by omega
    subst e1
    obtain rfl := fit_nil hf
    clear hfl
    go_enter Try.func39, Try.ntmps39
    go_wp2_with fail
    go_loopw [1, 5] (fun s1 s5 wr => s1 = .int .i64 k ∧ s5 = .int .i64 0 ∧ wr = W) (fun _ _ _ => 0)
    case atStart => exact ⟨rfl, rfl, rfl⟩
    case round =>
      obtain ⟨rfl, rfl, rfl⟩ := hrel
      go_wp2_with fail
      go_ret
      exact ⟨by simp [Fo.ct], ⟨⟨hs.1.1, hs.1.2.1, fun h => by simp [Fo.mk, Fo.len] at h⟩, trivial⟩, Kept.refl _ _, hlv⟩

theorem mk_R_TypeS : ∀ m, MkR Try.prog E 39 (E 2) m
  | 0 => fun _ _ _ _ _ _ hm => absurd hm (Nat.not_lt_zero _)
  | m + 1 => mk_R_TypeS_of m (mk_R_TypeS m)
end Go.Proofs.Ytcflciblcdabpaa
