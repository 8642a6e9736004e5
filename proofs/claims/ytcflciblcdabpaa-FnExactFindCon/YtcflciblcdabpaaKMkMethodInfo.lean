import Derived.Test.YtcflciblcdabpaaKx
import Derived.Test.YtcflciblcdabpaaKMkPred
import Derived.Test.YtcflciblcdabpaaKMkType
namespace Go.Proofs.Ytcflciblcdabpaa
open Go.RowKit Go.Joins

set_option maxHeartbeats 2000000 in
set_option maxRecDepth 100000 in
theorem mk_R_MethodInfoS (m : Nat) : MkR Try.prog E 36 (E 7) m := by
  intro F n a cap k W hm hf hk0 hk hs hnd hlv
  have hmx : n ≤ 9223372036854775807 := by have h2 := hs.1.1; have h3 := hs.1.2.1; simp only [maxLen] at h3; omega
  have hfl : F.len = n * 8 := by rw [Fit.len hf, rep_len]; rfl
  by_cases hp : 0 < n
  · have hl : 0 < F.len := by omega
    obtain ⟨b, o, rfl, -, -, -⟩ := hs.1.2.2 hl
    have HI := hide (MkI.start (k0 := k) hl hs.1 (by simpa [Fo.inn] using hnd) (by simpa [Fo.inn] using hlv))
    have HL := hide hl
    have HF := hide hf
    have HM := hide hm
    have HK := hide hk
    have HCP := hide (And.intro hs.1.1 hs.1.2.1)
    clear hl hf hs hnd hlv hm hk hfl
    go_enter Try.func36, Try.ntmps36
    go_wp2_with fail
    go_loopw [1, 5] (fun s1 s5 wr => ∃ (i q : Nat) (r Fp : Fo), s1 = .int .i64 (q : Int) ∧ s5 = .int .i64 i ∧ i ≤ n ∧ Hid (k + Fp.ct = q) ∧ Hid (Fp.len = i * 8) ∧ Hid (Fit E r (rep (E 7) (n - i))) ∧ Hid (MkI b o F k W Fp r wr)) (fun _ s5 _ => n - (intOf s5).toNat)
    case atStart => exact ⟨0, k, F, .nil, rfl, rfl, Nat.zero_le _, (by show _ = _; simp [Fo.ct]), (by show _ = _; simp [Fo.len]), HF, HI⟩
    case round =>
      obtain ⟨i, q, r, Fp, rfl, rfl, hin, hq, hfp, hR, hI⟩ := hrel
      by_cases hi : i < n
      · obtain ⟨x, rr, rfl, hx, hrr, -⟩ := hR.out.next hi
        have HRR := hide hrr
        have hii : (i : Int) < n := by omega
        have hct := congrArg Fo.ct hI.out.eq
        have hsz := congrArg Fo.size hI.out.eq
        clear hR hrr
        replace hx : Fit E x [.t, .t, .i, .s 5, .i, .i, .t, .s 2] := hx
        obtain ⟨x0, F0, rfl, hx0, hx⟩ := fit_t hx
        obtain ⟨x1, F1, rfl, hx1, hx⟩ := fit_t hx
        obtain ⟨x2, F2, rfl, hx2, hx⟩ := fit_i hx
        obtain ⟨a3, n3, c3, k3, F3, rfl, hf3, hx⟩ := fit_s hx
        obtain ⟨x4, F4, rfl, hx4, hx⟩ := fit_i hx
        obtain ⟨x5, F5, rfl, hx5, hx⟩ := fit_i hx
        obtain ⟨x6, F6, rfl, hx6, hx⟩ := fit_t hx
        obtain ⟨a7, n7, c7, k7, F7, rfl, hf7, hx⟩ := fit_s hx
        obtain rfl := fit_nil hx
        have I0 : Hid (MkI b o F k W Fp (.v (.string x0) (.v (.string x1) (.v (.int .i64 x2) (.s a3 n3 c3 k3 (.v (.int .i64 x4) (.v (.int .i64 x5) (.v (.string x6) (.s a7 n7 c7 k7 rr)))))))) wr) := hI
        simp only [Fo.app, Fo.app_ct, Fo.ct] at hct
        simp only [Fo.app, Fo.app_size, Fo.size] at hsz
        have hqk : 0 < q ∧ q + (1 + 1 + 1 + k3.ct + 1 + 1 + 1 + k7.ct) ≤ 4294967296 := by have := hq.out; have := HK.out; omega
        have HQK := hide hqk
        have hv0 : q + 6 ≤ 4294967296 := by omega
        have HSZ := hide hsz
        clear hI hct hsz hqk
        have HM0 : Hid (∀ w, Calls Try.prog 59 #[.int .i64 ((q : Int))] w fun e w' => e = .returned (.string (mt (q))) ∧ Below w.heap.size w w') := fun w => by
          have e : ((q : Nat) : Int) = (q : Int) := by omega
          rw [← e]
          exact markText (q) w (by have := HQK.out; have := hq.out; omega) (by have := HQK.out; have := hq.out; omega)
        go_wp2_with fail
        refine (HM0.out wr).mono ?_
        rintro e w1 ⟨rfl, b1⟩
        have I1 := hide (I0.out.below b1)
        clear b1 HM0
        have HM1 : Hid (∀ w, Calls Try.prog 59 #[.int .i64 ((q : Int) + 1)] w fun e w' => e = .returned (.string (mt (q + 1))) ∧ Below w.heap.size w w') := fun w => by
          have e : ((q + 1 : Nat) : Int) = (q : Int) + 1 := by omega
          rw [← e]
          exact markText (q + 1) w (by have := HQK.out; have := hq.out; omega) (by have := HQK.out; have := hq.out; omega)
        have p1_0 : w1.cell? ⟨b, o + i * 8, none⟩ = some (.string x0) := I1.out.at_ 0 _ rfl (by have := hfp.out; (try simp only [Fo.app_len, Fo.len]); omega)
        have f1_0 := I1.out.free (o + i * 8)
        obtain ⟨V2, hV2⟩ : ∃ V, (w1.setCell ⟨b, o + i * 8, none⟩ (.string (mt (q)))) = V := ⟨_, rfl⟩
        have I2 : Hid (MkI b o F k W (Fp.app (.v (.string x0) .nil)) (.v (.string x1) (.v (.int .i64 x2) (.s a3 n3 c3 k3 (.v (.int .i64 x4) (.v (.int .i64 x5) (.v (.string x6) (.s a7 n7 c7 k7 rr))))))) V2) := by
          rw [← hV2]
          exact (I1.out.set (q := q) (by have := hfp.out; (try simp only [Fo.app_len, Fo.len]); omega) (by have := hq.out; (try simp only [Fo.app_ct, Fo.ct] at this ⊢); omega) (by first | rfl | (simp only [mkV]; congr 1; omega)))
        have HV2 := hide hV2
        clear hV2
        go_wp2_with fail
        rw [HV2.out]
        clear p1_0 f1_0
        refine (HM1.out V2).mono ?_
        rintro e w3 ⟨rfl, b3⟩
        have I3 := hide (I2.out.below b3)
        clear b3 HM1
        have HM3 : Hid (∀ w, Fo.Subs w (fun c => c < w.heap.size) (.s a3 n3 c3 k3 .nil) → (Fo.inn (.s a3 n3 c3 k3 .nil)).Nodup → Live w (Fo.inn (.s a3 n3 c3 k3 .nil)) → Calls Try.prog 61 #[.slice a3 n3 c3, .int .i64 ((q : Int) + 1 + 1 + 1)] w fun e w' => e = .returned (.int .i64 ((q + 3 + k3.ct : Nat) : Int)) ∧
            Fo.Subs w' (fun c => c < w.heap.size) (Fo.mks (.s a3 n3 c3 k3 .nil) (q + 3)) ∧ Kept (fun c => c ∉ Fo.inn (.s a3 n3 c3 k3 .nil)) w w' ∧ Live w' (Fo.inn (.s a3 n3 c3 k3 .nil))) := fun w h1 h2 h3 => by
          have e : ((q + 3 : Nat) : Int) = (q : Int) + 1 + 1 + 1 := by omega
          rw [← e]
          exact mk_R_PredS m k3 n3 a3 c3 (q + 3) w (by have := HM.out; have := HSZ.out; omega) hf3 (by have := HQK.out; have := hq.out; omega) (by have := HQK.out; have := hq.out; omega) h1 h2 h3
        have p3_1 : w3.cell? ⟨b, o + i * 8 + 1, none⟩ = some (.string x1) := I3.out.at_ 0 _ rfl (by have := hfp.out; (try simp only [Fo.app_len, Fo.len]); omega)
        have f3_1 := I3.out.free (o + i * 8 + 1)
        have p3_2 : w3.cell? ⟨b, o + i * 8 + 2, none⟩ = some (.int .i64 x2) := I3.out.at_ 1 _ rfl (by have := hfp.out; (try simp only [Fo.app_len, Fo.len]); omega)
        have f3_2 := I3.out.free (o + i * 8 + 2)
        have p3_3 : w3.cell? ⟨b, o + i * 8 + 3, none⟩ = some (.slice a3 n3 c3) := I3.out.at_ 2 _ rfl (by have := hfp.out; (try simp only [Fo.app_len, Fo.len]); omega)
        obtain ⟨V4, hV4⟩ : ∃ V, ((w3.setCell ⟨b, o + i * 8 + 1, none⟩ (.string (mt (q + 1)))).setCell ⟨b, o + i * 8 + 2, none⟩ (.int .i64 ((q : Int) + 1 + 1))) = V := ⟨_, rfl⟩
        have I4 : Hid (MkI b o F k W (((Fp.app (.v (.string x0) .nil)).app (.v (.string x1) .nil)).app (.v (.int .i64 x2) .nil)) (.s a3 n3 c3 k3 (.v (.int .i64 x4) (.v (.int .i64 x5) (.v (.string x6) (.s a7 n7 c7 k7 rr))))) V4) := by
          rw [← hV4]
          exact ((I3.out.set (q := q + 1) (by have := hfp.out; (try simp only [Fo.app_len, Fo.len]); omega) (by have := hq.out; (try simp only [Fo.app_ct, Fo.ct] at this ⊢); omega) (by first | rfl | (simp only [mkV]; congr 1; omega))).set (q := q + 2) (by have := hfp.out; (try simp only [Fo.app_len, Fo.len]); omega) (by have := hq.out; (try simp only [Fo.app_ct, Fo.ct] at this ⊢); omega) (by first | rfl | (simp only [mkV]; congr 1; omega)))
        have HV4 := hide hV4
        clear hV4
        go_wp2_with fail
        rw [HV4.out]
        clear p3_1 p3_2 f3_1 f3_2 p3_3
        refine (HM3.out V4 I4.out.sub.1 I4.out.sub.2.1 I4.out.sub.2.2).mono ?_
        rintro e w5 ⟨rfl, s5, b5, l5⟩
        have I5 := hide (I4.out.call (q := q + 3) (by have := hq.out; (try simp only [Fo.app_ct, Fo.ct] at this ⊢); omega) b5 s5 l5)
        obtain ⟨q3, hq3⟩ : ∃ q3, q + 3 + k3.ct = q3 := ⟨_, rfl⟩
        rw [hq3]
        have HQ3 : Hid (k + ((((Fp.app (.v (.string x0) .nil)).app (.v (.string x1) .nil)).app (.v (.int .i64 x2) .nil)).app (.s a3 n3 c3 k3 .nil)).ct = q3 ∧ q + 3 + k3.ct = q3) := ⟨by have := hq.out; (try simp only [Fo.app_ct, Fo.ct] at this ⊢); omega, hq3⟩
        have HE3 : Hid (k + ((((Fp.app (.v (.string x0) .nil)).app (.v (.string x1) .nil)).app (.v (.int .i64 x2) .nil)).app (.s a3 n3 c3 k3 .nil)).ct = q3) := HQ3.out.1
        have hv4 : q3 + 3 ≤ 4294967296 := by have := HQK.out; have := HQ3.out; omega
        clear b5 s5 l5 hq3 HM3
        have HM6 : Hid (∀ w, Calls Try.prog 59 #[.int .i64 ((q3 : Int) + 1 + 1)] w fun e w' => e = .returned (.string (mt (q3 + 2))) ∧ Below w.heap.size w w') := fun w => by
          have e : ((q3 + 2 : Nat) : Int) = (q3 : Int) + 1 + 1 := by omega
          rw [← e]
          exact markText (q3 + 2) w (by have := HQK.out; have := HE3.out; omega) (by have := HQK.out; have := HE3.out; have := HQ3.out; omega)
        have p5_4 : w5.cell? ⟨b, o + i * 8 + 4, none⟩ = some (.int .i64 x4) := I5.out.at_ 0 _ rfl (by have := hfp.out; (try simp only [Fo.app_len, Fo.len]); omega)
        have f5_4 := I5.out.free (o + i * 8 + 4)
        have p5_5 : w5.cell? ⟨b, o + i * 8 + 5, none⟩ = some (.int .i64 x5) := I5.out.at_ 1 _ rfl (by have := hfp.out; (try simp only [Fo.app_len, Fo.len]); omega)
        have f5_5 := I5.out.free (o + i * 8 + 5)
        obtain ⟨V6, hV6⟩ : ∃ V, ((w5.setCell ⟨b, o + i * 8 + 4, none⟩ (.int .i64 ((q3 : Int)))).setCell ⟨b, o + i * 8 + 5, none⟩ (.int .i64 ((q3 : Int) + 1))) = V := ⟨_, rfl⟩
        have I6 : Hid (MkI b o F k W ((((((Fp.app (.v (.string x0) .nil)).app (.v (.string x1) .nil)).app (.v (.int .i64 x2) .nil)).app (.s a3 n3 c3 k3 .nil)).app (.v (.int .i64 x4) .nil)).app (.v (.int .i64 x5) .nil)) (.v (.string x6) (.s a7 n7 c7 k7 rr)) V6) := by
          rw [← hV6]
          exact ((I5.out.set (q := q3) (by have := hfp.out; (try simp only [Fo.app_len, Fo.len]); omega) (by have := HE3.out; (try simp only [Fo.app_ct, Fo.ct] at this ⊢); omega) (by first | rfl | (simp only [mkV]; congr 1; omega))).set (q := q3 + 1) (by have := hfp.out; (try simp only [Fo.app_len, Fo.len]); omega) (by have := HE3.out; (try simp only [Fo.app_ct, Fo.ct] at this ⊢); omega) (by first | rfl | (simp only [mkV]; congr 1; omega)))
        have HV6 := hide hV6
        clear hV6
        go_wp2_with fail
        rw [HV6.out]
        clear p5_4 p5_5 f5_4 f5_5
        refine (HM6.out V6).mono ?_
        rintro e w7 ⟨rfl, b7⟩
        have I7 := hide (I6.out.below b7)
        clear b7 HM6
        have HM7 : Hid (∀ w, Fo.Subs w (fun c => c < w.heap.size) (.s a7 n7 c7 k7 .nil) → (Fo.inn (.s a7 n7 c7 k7 .nil)).Nodup → Live w (Fo.inn (.s a7 n7 c7 k7 .nil)) → Calls Try.prog 39 #[.slice a7 n7 c7, .int .i64 ((q3 : Int) + 1 + 1 + 1)] w fun e w' => e = .returned (.int .i64 ((q3 + 3 + k7.ct : Nat) : Int)) ∧
            Fo.Subs w' (fun c => c < w.heap.size) (Fo.mks (.s a7 n7 c7 k7 .nil) (q3 + 3)) ∧ Kept (fun c => c ∉ Fo.inn (.s a7 n7 c7 k7 .nil)) w w' ∧ Live w' (Fo.inn (.s a7 n7 c7 k7 .nil))) := fun w h1 h2 h3 => by
          have e : ((q3 + 3 : Nat) : Int) = (q3 : Int) + 1 + 1 + 1 := by omega
          rw [← e]
          exact mk_R_TypeS m k7 n7 a7 c7 (q3 + 3) w (by have := HM.out; have := HSZ.out; omega) hf7 (by have := HQK.out; have := HE3.out; omega) (by have := HQK.out; have := HE3.out; have := HQ3.out; omega) h1 h2 h3
        have p7_6 : w7.cell? ⟨b, o + i * 8 + 6, none⟩ = some (.string x6) := I7.out.at_ 0 _ rfl (by have := hfp.out; (try simp only [Fo.app_len, Fo.len]); omega)
        have f7_6 := I7.out.free (o + i * 8 + 6)
        have p7_7 : w7.cell? ⟨b, o + i * 8 + 7, none⟩ = some (.slice a7 n7 c7) := I7.out.at_ 1 _ rfl (by have := hfp.out; (try simp only [Fo.app_len, Fo.len]); omega)
        obtain ⟨V8, hV8⟩ : ∃ V, (w7.setCell ⟨b, o + i * 8 + 6, none⟩ (.string (mt (q3 + 2)))) = V := ⟨_, rfl⟩
        have I8 : Hid (MkI b o F k W (((((((Fp.app (.v (.string x0) .nil)).app (.v (.string x1) .nil)).app (.v (.int .i64 x2) .nil)).app (.s a3 n3 c3 k3 .nil)).app (.v (.int .i64 x4) .nil)).app (.v (.int .i64 x5) .nil)).app (.v (.string x6) .nil)) (.s a7 n7 c7 k7 rr) V8) := by
          rw [← hV8]
          exact (I7.out.set (q := q3 + 2) (by have := hfp.out; (try simp only [Fo.app_len, Fo.len]); omega) (by have := HE3.out; (try simp only [Fo.app_ct, Fo.ct] at this ⊢); omega) (by first | rfl | (simp only [mkV]; congr 1; omega)))
        have HV8 := hide hV8
        clear hV8
        go_wp2_with fail
        rw [HV8.out]
        clear p7_6 f7_6 p7_7
        refine (HM7.out V8 I8.out.sub.1 I8.out.sub.2.1 I8.out.sub.2.2).mono ?_
        rintro e w9 ⟨rfl, s9, b9, l9⟩
        have I9 := hide (I8.out.call (q := q3 + 3) (by have := HE3.out; (try simp only [Fo.app_ct, Fo.ct] at this ⊢); omega) b9 s9 l9)
        obtain ⟨q7, hq7⟩ : ∃ q7, q3 + 3 + k7.ct = q7 := ⟨_, rfl⟩
        rw [hq7]
        have HQ7 : Hid (k + ((((((((Fp.app (.v (.string x0) .nil)).app (.v (.string x1) .nil)).app (.v (.int .i64 x2) .nil)).app (.s a3 n3 c3 k3 .nil)).app (.v (.int .i64 x4) .nil)).app (.v (.int .i64 x5) .nil)).app (.v (.string x6) .nil)).app (.s a7 n7 c7 k7 .nil)).ct = q7 ∧ q3 + 3 + k7.ct = q7) := ⟨by have := HE3.out; (try simp only [Fo.app_ct, Fo.ct] at this ⊢); omega, hq7⟩
        have HE7 : Hid (k + ((((((((Fp.app (.v (.string x0) .nil)).app (.v (.string x1) .nil)).app (.v (.int .i64 x2) .nil)).app (.s a3 n3 c3 k3 .nil)).app (.v (.int .i64 x4) .nil)).app (.v (.int .i64 x5) .nil)).app (.v (.string x6) .nil)).app (.s a7 n7 c7 k7 .nil)).ct = q7) := HQ7.out.1
        have hv8 : q7 + 0 ≤ 4294967296 := by have := HQK.out; have := HQ3.out; have := HQ7.out; omega
        clear b9 s9 l9 hq7 HM7
        go_wp2_with fail
        go_roundw
        case rel => exact ⟨i + 1, q7, rr, ((((((((Fp.app (.v (.string x0) .nil)).app (.v (.string x1) .nil)).app (.v (.int .i64 x2) .nil)).app (.s a3 n3 c3 k3 .nil)).app (.v (.int .i64 x4) .nil)).app (.v (.int .i64 x5) .nil)).app (.v (.string x6) .nil)).app (.s a7 n7 c7 k7 .nil)), rfl, by go_num, by omega, (by show _ = _; have := HE7.out; simp only [Fo.app_ct, Fo.ct] at this ⊢; omega), (by show _ = _; have := hfp.out; (try simp only [Fo.app_len, Fo.len]); omega), HRR, I9⟩
        case measure => simp [intOf]; omega
      · have e1 := hR.out.done hi
        subst e1
        have hin2 : i = n := by omega
        subst hin2
        have h1 := hide (hI.out.finish HCP.out.1 HCP.out.2 HL.out)
        clear hR hI
        go_wp2_with fail
        go_ret
        obtain ⟨h2, h3, h4, h5⟩ := h1.out
        subst h2
        exact ⟨by rw [hq.out]; rfl, h3, h4, h5⟩
  · have e1 : n = 0 := by omega
    subst e1
    obtain rfl := fit_nil hf
    clear hfl
    go_enter Try.func36, Try.ntmps36
    go_wp2_with fail
    go_loopw [1, 5] (fun s1 s5 wr => s1 = .int .i64 k ∧ s5 = .int .i64 0 ∧ wr = W) (fun _ _ _ => 0)
    case atStart => exact ⟨rfl, rfl, rfl⟩
    case round =>
      obtain ⟨rfl, rfl, rfl⟩ := hrel
      go_wp2_with fail
      go_ret
      exact ⟨by simp [Fo.ct], ⟨⟨hs.1.1, hs.1.2.1, fun h => by simp [Fo.mk, Fo.len] at h⟩, trivial⟩, Kept.refl _ _, hlv⟩

end Go.Proofs.Ytcflciblcdabpaa
