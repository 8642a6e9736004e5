import Derived.Test.YtjlefdalobgdfaaKx
import Derived.Test.YtjlefdalobgdfaaKe
import Derived.Test.YtjlefdalobgdfaaKEqType
namespace Go.Proofs.Ytjlefdalobgdfaa.U
open Go.RowKit Go.Joins

set_option maxHeartbeats 2000000 in
set_option maxRecDepth 100000 in
theorem mk_R_TypeS_of (m : Nat) (h : MkR Try.prog E 51 (E 0) m) : MkR Try.prog E 51 (E 0) (m + 1) := by
  intro F n a cap k W hm hf hk0 hk hs hnd hlv
  have hmx : n ≤ 9223372036854775807 := by have h2 := hs.1.1; have h3 := hs.1.2.1; simp only [maxLen] at h3; omega
  have hfl : F.len = n * 4 := by rw [Fit.len hf, rep_len]; rfl
  by_cases hp : 0 < n
  · have hl : 0 < F.len := by omega
    obtain ⟨b, o, rfl, -, -, -⟩ := hs.1.2.2 hl
    have HI := hide (MkI.start (k0 := k) hl hs.1 (by simpa [Fo.inn] using hnd) (by simpa [Fo.inn] using hlv))
    have HL := hide hl
    have HF := hide hf
    have HM := hide hm
    have HK := hide hk
    have HCP := hide (And.intro hs.1.1 hs.1.2.1)
    clear hl hf hs hnd hlv hm hk hfl
    go_enter Try.func51, Try.ntmps51
    go_wp2_with fail
    go_loopw [1, 5] (fun s1 s5 wr => ∃ (i q : Nat) (r Fp : Fo), s1 = .int .i64 (q : Int) ∧ s5 = .int .i64 i ∧ i ≤ n ∧ Hid (k + Fp.ct = q) ∧ Hid (Fp.len = i * 4) ∧ Hid (Fit E r (rep (E 0) (n - i))) ∧ Hid (MkI b o F k W Fp r wr)) (fun _ s5 _ => n - (intOf s5).toNat)
    case atStart => exact ⟨0, k, F, .nil, rfl, rfl, Nat.zero_le _, (by show _ = _; simp [Fo.ct]), (by show _ = _; simp [Fo.len]), HF, HI⟩
    case round =>
      obtain ⟨i, q, r, Fp, rfl, rfl, hin, hq, hfp, hR, hI⟩ := hrel
      by_cases hi : i < n
      · obtain ⟨x, rr, rfl, hx, hrr, -⟩ := hR.out.next hi
        have HRR := hide hrr
        have hii : (i : Int) < n := by omega
        have hct := congrArg Fo.ct hI.out.eq
        have hsz := congrArg Fo.size hI.out.eq
        clear hR hrr
        replace hx : Fit E x [.i, .i, .t, .s 0] := hx
        obtain ⟨x0, F0, rfl, hx0, hx⟩ := fit_i hx
        obtain ⟨x1, F1, rfl, hx1, hx⟩ := fit_i hx
        obtain ⟨x2, F2, rfl, hx2, hx⟩ := fit_t hx
        obtain ⟨a3, n3, c3, k3, F3, rfl, hf3, hx⟩ := fit_s hx
        obtain rfl := fit_nil hx
        have I0 : Hid (MkI b o F k W Fp (.v (.int .i64 x0) (.v (.int .i64 x1) (.v (.string x2) (.s a3 n3 c3 k3 rr)))) wr) := hI
        simp only [Fo.app, Fo.app_ct, Fo.ct] at hct
        simp only [Fo.app, Fo.app_size, Fo.size] at hsz
        have hqk : 0 < q ∧ q + (1 + 1 + 1 + k3.ct) ≤ 4294967296 := by have := hq.out; have := HK.out; omega
        have HQK := hide hqk
        have hv0 : q + 3 ≤ 4294967296 := by omega
        have HSZ := hide hsz
        clear hI hct hsz hqk
        have HM2 : Hid (∀ w, Calls Try.prog 61 #[.int .i64 ((q : Int) + 1 + 1)] w fun e w' => e = .returned (.string (mt (q + 2))) ∧ Below w.heap.size w w') := fun w => by
          have e : ((q + 2 : Nat) : Int) = (q : Int) + 1 + 1 := by omega
          rw [← e]
          exact markText (q + 2) w (by have := HQK.out; have := hq.out; omega) (by have := HQK.out; have := hq.out; omega)
        have p0_0 : wr.cell? ⟨b, o + i * 4, none⟩ = some (.int .i64 x0) := I0.out.at_ 0 _ rfl (by have := hfp.out; (try simp only [Fo.app_len, Fo.len]); omega)
        have f0_0 := I0.out.free (o + i * 4)
        have p0_1 : wr.cell? ⟨b, o + i * 4 + 1, none⟩ = some (.int .i64 x1) := I0.out.at_ 1 _ rfl (by have := hfp.out; (try simp only [Fo.app_len, Fo.len]); omega)
        have f0_1 := I0.out.free (o + i * 4 + 1)
        obtain ⟨V1, hV1⟩ : ∃ V, ((wr.setCell ⟨b, o + i * 4, none⟩ (.int .i64 ((q : Int)))).setCell ⟨b, o + i * 4 + 1, none⟩ (.int .i64 ((q : Int) + 1))) = V := ⟨_, rfl⟩
        have I1 : Hid (MkI b o F k W ((Fp.app (.v (.int .i64 x0) .nil)).app (.v (.int .i64 x1) .nil)) (.v (.string x2) (.s a3 n3 c3 k3 rr)) V1) := by
          rw [← hV1]
          exact ((I0.out.set (q := q) (by have := hfp.out; (try simp only [Fo.app_len, Fo.len]); omega) (by have := hq.out; (try simp only [Fo.app_ct, Fo.ct] at this ⊢); omega) (by first | rfl | (simp only [mkV]; congr 1; omega))).set (q := q + 1) (by have := hfp.out; (try simp only [Fo.app_len, Fo.len]); omega) (by have := hq.out; (try simp only [Fo.app_ct, Fo.ct] at this ⊢); omega) (by first | rfl | (simp only [mkV]; congr 1; omega)))
        have HV1 := hide hV1
        clear hV1
        go_wp2_with fail
        rw [HV1.out]
        clear p0_0 p0_1 f0_0 f0_1
        refine (HM2.out V1).mono ?_
        rintro e w2 ⟨rfl, b2⟩
        have I2 := hide (I1.out.below b2)
        clear b2 HM2
        have HM3 : Hid (∀ w, Fo.Subs w (fun c => c < w.heap.size) (.s a3 n3 c3 k3 .nil) → (Fo.inn (.s a3 n3 c3 k3 .nil)).Nodup → Live w (Fo.inn (.s a3 n3 c3 k3 .nil)) → Calls Try.prog 51 #[.slice a3 n3 c3, .int .i64 ((q : Int) + 1 + 1 + 1)] w fun e w' => e = .returned (.int .i64 ((q + 3 + k3.ct : Nat) : Int)) ∧
            Fo.Subs w' (fun c => c < w.heap.size) (Fo.mks (.s a3 n3 c3 k3 .nil) (q + 3)) ∧ Kept (fun c => c ∉ Fo.inn (.s a3 n3 c3 k3 .nil)) w w' ∧ Live w' (Fo.inn (.s a3 n3 c3 k3 .nil))) := fun w h1 h2 h3 => by
          have e : ((q + 3 : Nat) : Int) = (q : Int) + 1 + 1 + 1 := by omega
          rw [← e]
          exact h k3 n3 a3 c3 (q + 3) w (by have := HM.out; have := HSZ.out; omega) hf3 (by have := HQK.out; have := hq.out; omega) (by have := HQK.out; have := hq.out; omega) h1 h2 h3
        have p2_2 : w2.cell? ⟨b, o + i * 4 + 2, none⟩ = some (.string x2) := I2.out.at_ 0 _ rfl (by have := hfp.out; (try simp only [Fo.app_len, Fo.len]); omega)
        have f2_2 := I2.out.free (o + i * 4 + 2)
        have p2_3 : w2.cell? ⟨b, o + i * 4 + 3, none⟩ = some (.slice a3 n3 c3) := I2.out.at_ 1 _ rfl (by have := hfp.out; (try simp only [Fo.app_len, Fo.len]); omega)
        obtain ⟨V3, hV3⟩ : ∃ V, (w2.setCell ⟨b, o + i * 4 + 2, none⟩ (.string (mt (q + 2)))) = V := ⟨_, rfl⟩
        have I3 : Hid (MkI b o F k W (((Fp.app (.v (.int .i64 x0) .nil)).app (.v (.int .i64 x1) .nil)).app (.v (.string x2) .nil)) (.s a3 n3 c3 k3 rr) V3) := by
          rw [← hV3]
          exact (I2.out.set (q := q + 2) (by have := hfp.out; (try simp only [Fo.app_len, Fo.len]); omega) (by have := hq.out; (try simp only [Fo.app_ct, Fo.ct] at this ⊢); omega) (by first | rfl | (simp only [mkV]; congr 1; omega)))
        have HV3 := hide hV3
        clear hV3
        go_wp2_with fail
        rw [HV3.out]
        clear p2_2 f2_2 p2_3
        refine (HM3.out V3 I3.out.sub.1 I3.out.sub.2.1 I3.out.sub.2.2).mono ?_
        rintro e w4 ⟨rfl, s4, b4, l4⟩
        have I4 := hide (I3.out.call (q := q + 3) (by have := hq.out; (try simp only [Fo.app_ct, Fo.ct] at this ⊢); omega) b4 s4 l4)
        obtain ⟨q3, hq3⟩ : ∃ q3, q + 3 + k3.ct = q3 := ⟨_, rfl⟩
        rw [hq3]
        have HQ3 : Hid (k + ((((Fp.app (.v (.int .i64 x0) .nil)).app (.v (.int .i64 x1) .nil)).app (.v (.string x2) .nil)).app (.s a3 n3 c3 k3 .nil)).ct = q3 ∧ q + 3 + k3.ct = q3) := ⟨by have := hq.out; (try simp only [Fo.app_ct, Fo.ct] at this ⊢); omega, hq3⟩
        have HE3 : Hid (k + ((((Fp.app (.v (.int .i64 x0) .nil)).app (.v (.int .i64 x1) .nil)).app (.v (.string x2) .nil)).app (.s a3 n3 c3 k3 .nil)).ct = q3) := HQ3.out.1
        have hv4 : q3 + 0 ≤ 4294967296 := by have := HQK.out; have := HQ3.out; omega
        clear b4 s4 l4 hq3 HM3
        go_wp2_with fail
        go_roundw
        case rel => exact ⟨i + 1, q3, rr, ((((Fp.app (.v (.int .i64 x0) .nil)).app (.v (.int .i64 x1) .nil)).app (.v (.string x2) .nil)).app (.s a3 n3 c3 k3 .nil)), rfl, by go_num, by omega, (by show _ = _; have := HE3.out; simp only [Fo.app_ct, Fo.ct] at this ⊢; omega), (by show _ = _; have := hfp.out; (try simp only [Fo.app_len, Fo.len]); omega), HRR, I4⟩
        case measure => simp [intOf]; omega
      · have e1 := hR.out.done hi
        subst e1
        have hin2 : i = n := by omega
        subst hin2
        have h1 := hide (hI.out.finish HCP.out.1 HCP.out.2 HL.out)
        clear hR hI
        go_wp2_with fail
        go_ret
        obtain ⟨h2, h3, h4, h5⟩ := h1.out
        subst h2
        exact ⟨by rw [hq.out]; rfl, h3, h4, h5⟩
  · have e1 : n = 0 := by omega
    subst e1
    obtain rfl := fit_nil hf
    clear hfl
    go_enter Try.func51, Try.ntmps51
    go_wp2_with fail
    go_loopw [1, 5] (fun s1 s5 wr => s1 = .int .i64 k ∧ s5 = .int .i64 0 ∧ wr = W) (fun _ _ _ => 0)
    case atStart => exact ⟨rfl, rfl, rfl⟩
    case round =>
      obtain ⟨rfl, rfl, rfl⟩ := hrel
      go_wp2_with fail
      go_ret
      exact ⟨by simp [Fo.ct], ⟨⟨hs.1.1, hs.1.2.1, fun h => by simp [Fo.mk, Fo.len] at h⟩, trivial⟩, Kept.refl _ _, hlv⟩

theorem mk_R_TypeS : ∀ m, MkR Try.prog E 51 (E 0) m
  | 0 => fun _ _ _ _ _ _ hm => absurd hm (Nat.not_lt_zero _)
  | m + 1 => mk_R_TypeS_of m (mk_R_TypeS m)
set_option maxHeartbeats 2000000 in
set_option maxRecDepth 100000 in
theorem mk_C_Type (m : Nat) : MkC Try.prog E 19 (E 0) m := by
  intro F k W hm hf hk0 hk hs hnd hlv
  have HI := hide (MkS.start (k0 := k) hs hnd hlv)
  clear hs hnd hlv
  replace hf : Fit E F [.i, .i, .t, .s 0] := hf
  obtain ⟨x0, F0, rfl, hx0, hf⟩ := fit_i hf
  obtain ⟨x1, F1, rfl, hx1, hf⟩ := fit_i hf
  obtain ⟨x2, F2, rfl, hx2, hf⟩ := fit_t hf
  obtain ⟨a3, n3, c3, k3, F3, rfl, hf3, hf⟩ := fit_s hf
  obtain rfl := fit_nil hf
  simp only [Fo.size] at hm
  simp only [Fo.sct] at hk ⊢
  simp only [Fo.vals]
  have HK := hide hk
  clear hk
  have HV0 := hide (below_alloc1 W (.cells #[.int .i64 x0, .int .i64 x1, .string x2, .slice a3 n3 c3] 29))
  have Q0 := hide (Bx.new W [.int .i64 x0, .int .i64 x1, .string x2, .slice a3 n3 c3] 29)
  have I0 := hide (HI.out.below HV0.out)
  obtain ⟨w0, hw0⟩ : ∃ V, W.alloc (.cells #[.int .i64 x0, .int .i64 x1, .string x2, .slice a3 n3 c3] 29) = V := ⟨_, rfl⟩
  rw [hw0] at Q0 I0 HV0
  have HE0 := hide hw0
  clear hw0 HI
  go_enter Try.func19, Try.ntmps19
  have hq : Hid (k + Fo.sct .nil = k) := rfl
  have I0_0 := hide (I0.out.skip)
  have hq_0 : Hid (k + ((Fo.nil).app (.v (.int .i64 x0) .nil)).sct = k) := by
    have := hq.out
    show _ = _
    simp only [Fo.app_sct, Fo.sct] at this ⊢
    omega
  have I0_1 := hide (I0_0.out.skip)
  have hq_1 : Hid (k + (((Fo.nil).app (.v (.int .i64 x0) .nil)).app (.v (.int .i64 x1) .nil)).sct = k) := by
    have := hq_0.out
    show _ = _
    simp only [Fo.app_sct, Fo.sct] at this ⊢
    omega
  have I0_2 := hide (I0_1.out.skip)
  have hq_2 : Hid (k + ((((Fo.nil).app (.v (.int .i64 x0) .nil)).app (.v (.int .i64 x1) .nil)).app (.v (.string x2) .nil)).sct = k) := by
    have := hq_1.out
    show _ = _
    simp only [Fo.app_sct, Fo.sct] at this ⊢
    omega
  go_wp2_with fail
  rw [HE0.out]
  have hb1 : k + Fo.sct (.s a3 n3 c3 k3 .nil) ≤ 4294967296 := by have := HK.out; have := hq_2.out; simp only [Fo.app_sct, Fo.sct] at this ⊢;  omega
  have S1 := MkS.sub (X := (.s a3 n3 c3 k3 .nil)) I0_2.out
  have HC1 := mk_R_TypeS (k3.size + 1) k3 n3 a3 c3 k w0 (Nat.lt_succ_self _) hf3 (by  omega) (by simp only [Fo.sct] at hb1; omega) S1.1 S1.2.1 S1.2.2
  refine HC1.mono ?_
  clear HC1 S1
  rintro e w1 ⟨rfl, s1, b1, l1⟩
  have I1 := hide (MkS.call (X := (.s a3 n3 c3 k3 .nil)) I0_2.out hq_2.out b1 s1 l1)
  obtain ⟨q1, hq1⟩ : ∃ q1, k + k3.ct = q1 := ⟨_, rfl⟩
  rw [hq1]
  have Q1 := hide (Q0.out.kept b1 (MkS.away (X := (.s a3 n3 c3 k3 .nil)) I0_2.out (Nat.le_refl _)))
  have HN1 : Hid (k + k3.ct = q1) := by
    have := hq1
    show _ = _
    skip
    omega
  have hqq1 : Hid (k + (((((Fo.nil).app (.v (.int .i64 x0) .nil)).app (.v (.int .i64 x1) .nil)).app (.v (.string x2) .nil)).app (.s a3 n3 c3 k3 .nil)).sct = q1) := by
    have := hq_2.out
    have := HN1.out
    show _ = _
    simp only [Fo.app_sct, Fo.sct] at *
    omega
  clear b1 s1 l1 hq1 hb1
  have h1 := hide (I1.out.finish)
  go_wp2_with fail
  go_ret
  exact ⟨ret_int (by have := HN1.out; omega), h1.out.1, h1.out.2.1, h1.out.2.2⟩

end Go.Proofs.Ytjlefdalobgdfaa.U

namespace Go.Proofs.Ytjlefdalobgdfaa.U
open Go.RowKit Go.Joins

set_option maxHeartbeats 2000000 in
set_option maxRecDepth 100000 in
theorem hd_R_TypeS_of (m : Nat) (h : HdR Try.prog E 62 (E 0) m) : HdR Try.prog E 62 (E 0) (m + 1) := by
  intro F n nb a cap k W hm hf hn hk0 hk hs
  have hmx : n ≤ 9223372036854775807 := by have h2 := hs.1; have h3 := hs.2.1; simp only [maxLen] at h3; omega
  have HR := hide (RdM.start hf hs)
  have HM := hide hm
  have HK := hide hk
  clear hf hs hm hk
  go_enter Try.func62, Try.ntmps62
  go_wp2_with fail
  go_loopw [1, 5] (fun s1 s5 wr => ∃ (i q : Nat) (r : Fo), s1 = .int .i64 (q : Int) ∧ s5 = .int .i64 i ∧ i ≤ n ∧ Hid (0 < q ∧ q + r.ct = k + F.ct) ∧ Hid (r.size ≤ F.size) ∧ Hid (RdM E (E 0) n nb a i q r wr) ∧ Hid (Below W.heap.size W wr)) (fun _ s5 _ => n - (intOf s5).toNat)
  case atStart => exact ⟨0, k, F, rfl, rfl, Nat.zero_le _, ⟨hk0, rfl⟩, Nat.le_refl _, HR, Below.refl _ _⟩
  case round =>
    obtain ⟨i, q, r, rfl, rfl, hin, hq, hrs, hR, hB⟩ := hrel
    by_cases hi : i < n
    · obtain ⟨x, rr, b, o, rfl, hx, rfl, hb, hc, hxs, hR1⟩ := hR.out.next hi (by decide)
      have hii : (i : Int) < n := by omega
      have hct := hq.out
      have hsz := hrs.out
      have hbz := hB.out.size
      clear hR hq hrs
      replace hx : Fit E x [.i, .i, .t, .s 0] := hx
      obtain ⟨x0, F0, rfl, hx0, hx⟩ := fit_i hx
      obtain ⟨x1, F1, rfl, hx1, hx⟩ := fit_i hx
      obtain ⟨x2, F2, rfl, hx2, hx⟩ := fit_t hx
      obtain ⟨a3, n3, c3, k3, F3, rfl, hf3, hx⟩ := fit_s hx
      obtain rfl := fit_nil hx
      simp only [Fo.app_ct, Fo.ct] at hct
      simp only [Fo.app_size, Fo.size] at hsz
      simp only [Fo.ct] at hR1
      have hqk : 0 < q ∧ q + (1 + 1 + 1 + k3.ct) ≤ 4294967296 := by have := HK.out; omega
      have HQK := hide hqk
      have hv0 : q + 3 ≤ 4294967296 := by omega
      have HCT := hide hct
      have HSZ := hide hsz
      have HBZ := hide hbz
      have HR1 := hide hR1
      have C0 := hide hc
      obtain ⟨hs3, -⟩ := hxs
      have HS3 := hide hs3
      clear hs3
      clear hc hct hsz hqk hbz hR1
      have HG0 := hide (Below.refl wr.heap.size wr)
      have p0_0 : wr.cell? ⟨b, o + i * 4, none⟩ = some (.int .i64 ((q : Int))) := by
        have h1 : wr.cell? ⟨b, o + i * 4, none⟩ = some (.int .i64 ((q : Nat) : Int)) := C0.out 0 _ rfl
        skip
        refine h1.trans ?_
        skip
        first | rfl | (congr 2; done) | (congr 2; omega) | (congr 3; omega) | (congr 4; omega)
      have p0_1 : wr.cell? ⟨b, o + i * 4 + 1, none⟩ = some (.int .i64 ((q : Int) + 1)) := by
        have h1 : wr.cell? ⟨b, o + i * 4 + 1, none⟩ = some (.int .i64 ((q + 1 : Nat) : Int)) := C0.out 1 _ rfl
        skip
        refine h1.trans ?_
        skip
        first | rfl | (congr 2; done) | (congr 2; omega) | (congr 3; omega) | (congr 4; omega)
      have p0_2 : wr.cell? ⟨b, o + i * 4 + 2, none⟩ = some (.string (mt (q + 2))) := by
        have h1 : wr.cell? ⟨b, o + i * 4 + 2, none⟩ = some (.string (mt (q + 1 + 1))) := C0.out 2 _ rfl
        skip
        refine h1.trans ?_
        skip
        first | rfl | (congr 2; done) | (congr 2; omega) | (congr 3; omega) | (congr 4; omega)
      have hd2 : Hid (Below wr.heap.size wr wr.drew) := (Below.refl _ _).drew
      have HM2 : Hid (Calls Try.prog 61 #[.int .i64 ((q : Int) + 1 + 1)] wr.drew fun e w' => e = .returned (.string (mt (q + 2))) ∧ Below wr.drew.heap.size wr.drew w') := by
        have e : ((q + 2 : Nat) : Int) = (q : Int) + 1 + 1 := by omega
        unfold Hid
        rw [← e]
        exact markText (q + 2) wr.drew (by have := HQK.out;  omega) (by have := HQK.out;  omega)
      have HX2 : Hid (∀ V, Below wr.heap.size wr V → V.cell? ⟨b, o + i * 4 + 2, none⟩ = some (.string (mt (q + 2)))) := fun V bV => (bV.cell (p := ⟨b, o + i * 4 + 2, none⟩) (by have := HBZ.out; have := HG0.out.size; show b < _; omega)).trans p0_2
      have kk0 := HX2.out wr.drew hd2.out
      go_wp2_with fail
      go_region_held3 (fun V => V.cell? ⟨b, o + i * 4 + 2, none⟩ = some (.string (mt (q + 2))))
        (first | with_reducible exact kk1 | with_reducible exact kk0)
        (first | (go_at_call 61; refine HM2.out.mono ?_; rintro e w1 ⟨rfl, f1⟩; have G1 := hd2.out.trans (show Below wr.heap.size wr.drew w1 from f1); have kk1 := HX2.out w1 G1))
      have HG1 := hide (HG0.out.trans (G1.mono HG0.out.size))
      have C1 := hide (C0.out.below G1 (by have := HBZ.out; have := HG0.out.size; omega))
      clear G1 f1 kk1 kk0 p0_2 HX2 HM2 hd2
      have p1_3 : w1.cell? ⟨b, o + i * 4 + 3, none⟩ = some (.slice a3 n3 c3) := C1.out 3 _ rfl
      have HM3 : Hid (Calls Try.prog 62 #[.slice a3 n3 c3, .int .i64 ((q : Int) + 1 + 1 + 1)] w1 fun e w' => e = .returned (.int .i64 ((q + 3 + k3.ct : Nat) : Int)) ∧ Below w1.heap.size w1 w') := by
        have e : ((q + 3 : Nat) : Int) = (q : Int) + 1 + 1 + 1 := by omega
        unfold Hid
        rw [← e]
        have hsj := HS3.out
        have eN : q + 1 + 1 + 1 = q + 3 := by  omega
        rw [eN] at hsj
        exact h k3 n3 nb a3 c3 (q + 3) w1 (by have := HM.out; have := HSZ.out; omega) hf3 (by have := HBZ.out; have := HG1.out.size; omega) (by have := HQK.out;  omega) (by have := HQK.out;  omega) (Fo.Sub.below HG1.out (fun c hc => by have := HBZ.out; omega) hsj)
      go_wp2_with fail
      refine HM3.out.mono ?_
      rintro e w2 ⟨rfl, G2⟩
      have HG2 := hide (HG1.out.trans (G2.mono HG1.out.size))
      have C2 := hide (C1.out.below G2 (by have := HBZ.out; have := HG1.out.size; omega))
      obtain ⟨q3, hq3⟩ : ∃ q3, q + 3 + k3.ct = q3 := ⟨_, rfl⟩
      rw [hq3]
      have HQ3 := hide hq3
      have hnn3 : ¬ (q3 : Int) < 0 := by omega
      have hv4 : q3 + 0 ≤ 4294967296 := by have := HQK.out; have := HQ3.out; omega
      clear G2 hq3 HM3 p1_3
      go_wp2_with fail
      go_roundw
      case rel =>
        have eN : q + ((((k3.ct + (0)) + 1) + 1) + 1) = q3 := by have := HQ3.out; omega
        have hr := HR1.out
        rw [eN] at hr
        exact ⟨i + 1, q3, rr, rfl, by go_num, by omega, ⟨by have := HQK.out; have := HQ3.out; omega, by have := HCT.out; have := HQ3.out; omega⟩, (by show _ ≤ _; have := HSZ.out; omega), hr.below HG2.out (by have := HBZ.out; omega), hB.out.trans (HG2.out.mono HBZ.out)⟩
      case measure => simp [intOf]; omega
    · obtain ⟨rfl, rfl⟩ := hR.out.done hi
      have h1 := hq.out.2
      simp only [Fo.ct] at h1
      have H1 := hide h1
      clear hR hq hrs h1
      go_wp2_with fail
      go_ret
      exact ⟨ret_int (by have := H1.out; omega), hB.out⟩

theorem hd_R_TypeS : ∀ m, HdR Try.prog E 62 (E 0) m
  | 0 => fun _ _ _ _ _ _ _ hm => absurd hm (Nat.not_lt_zero _)
  | m + 1 => hd_R_TypeS_of m (hd_R_TypeS m)
set_option maxHeartbeats 2000000 in
set_option maxRecDepth 100000 in
theorem hd_C_Type (m : Nat) : HdC Try.prog E 28 (E 0) m := by
  intro F nb k W hm hf hn hk0 hk hs
  replace hf : Fit E F [.i, .i, .t, .s 0] := hf
  obtain ⟨x0, F0, rfl, hx0, hf⟩ := fit_i hf
  obtain ⟨x1, F1, rfl, hx1, hf⟩ := fit_i hf
  obtain ⟨x2, F2, rfl, hx2, hf⟩ := fit_t hf
  obtain ⟨a3, n3, c3, k3, F3, rfl, hf3, hf⟩ := fit_s hf
  obtain rfl := fit_nil hf
  simp only [Fo.size] at hm
  simp only [Fo.sct] at hk ⊢
  simp only [Fo.vals]
  have HK := hide hk
  clear hk
  obtain ⟨hs3, -⟩ := hs
  have HS3 := hide hs3
  clear hs3
  have HB0 := hide (below_alloc1 W (.cells #[.int .i64 x0, .int .i64 x1, .string x2, .slice a3 n3 c3] 29))
  have Q0 := hide (Bx.new W [.int .i64 x0, .int .i64 x1, .string x2, .slice a3 n3 c3] 29)
  obtain ⟨w0, hw0⟩ : ∃ V, W.alloc (.cells #[.int .i64 x0, .int .i64 x1, .string x2, .slice a3 n3 c3] 29) = V := ⟨_, rfl⟩
  rw [hw0] at Q0 HB0
  have HE0 := hide hw0
  clear hw0
  go_enter Try.func28, Try.ntmps28
  go_wp2_with fail
  rw [HE0.out]
  have hsj1 := HS3.out
  have eN1 : k = k := by  omega
  skip
  have HC1 := hd_R_TypeS (k3.size + 1) k3 n3 nb a3 c3 k w0 (Nat.lt_succ_self _) hf3 (by have := HB0.out.size; omega) (by  omega) (by have := HK.out;  omega) (Fo.Sub.below HB0.out (fun c hc => by omega) hsj1)
  refine HC1.mono ?_
  clear HC1
  rintro e w1 ⟨rfl, b1⟩
  have HB1 := hide (HB0.out.trans (b1.mono HB0.out.size))
  have Q1 := hide (Q0.out.below b1)
  obtain ⟨q1, hq1⟩ : ∃ q1, k + k3.ct = q1 := ⟨_, rfl⟩
  rw [hq1]
  have HN1 := hide hq1
  have hnn1 : ¬ (q1 : Int) < 0 := by omega
  clear b1 hq1
  go_wp2_with fail
  go_ret
  exact ⟨ret_int (by have := HN1.out; omega), HB1.out⟩

end Go.Proofs.Ytjlefdalobgdfaa.U

namespace Go.Proofs.Ytjlefdalobgdfaa.U
open Go.RowKit Go.Joins

set_option maxHeartbeats 2000000 in
set_option maxRecDepth 100000 in
theorem eq_C_Bind (m : Nat) : EqC Try.prog E 60 (E 1) m := by
  intro F G nb W hm hf hn hsim hs ht
  replace hf : Fit E F [.i, .i, .i, .t, .s 0] := hf
  obtain ⟨x0, F0, rfl, hx0, hf⟩ := fit_i hf
  obtain ⟨x1, F1, rfl, hx1, hf⟩ := fit_i hf
  obtain ⟨x2, F2, rfl, hx2, hf⟩ := fit_i hf
  obtain ⟨x3, F3, rfl, hx3, hf⟩ := fit_t hf
  obtain ⟨a4, n4, c4, k4, F4, rfl, hf4, hf⟩ := fit_s hf
  obtain rfl := fit_nil hf
  obtain ⟨u0, rfl, s_1⟩ := Fo.sim_v hsim
  obtain ⟨u1, rfl, s_2⟩ := Fo.sim_v s_1
  obtain ⟨u2, rfl, s_3⟩ := Fo.sim_v s_2
  obtain ⟨u3, rfl, s_4⟩ := Fo.sim_v s_3
  obtain ⟨d4, e4, t4, u4, rfl, r4, s_5⟩ := Fo.sim_s s_4
  obtain rfl := Fo.sim_nil s_5
  clear hsim s_1 s_2 s_3 s_4 s_5
  obtain ⟨hs4, -⟩ := hs
  obtain ⟨ht4, -⟩ := ht
  simp only [Fo.size] at hm
  simp only [Fo.vals]
  have HS4 : Hid (Fo.Sub W (fun c => c < nb) a4 n4 c4 k4) := hs4
  have HT4 : Hid (Fo.Sub W (fun c => c < nb) d4 n4 e4 t4) := ht4
  clear hs4 ht4
  obtain ⟨w0, hV0⟩ : ∃ V0, (W.alloc (.cells #[.int .i64 x0, .int .i64 x1, .int .i64 x2, .string x3, .slice a4 n4 c4] 92)).alloc (.cells #[.int .i64 x0, .int .i64 x1, .int .i64 x2, .string x3, .slice d4 n4 e4] 92) = V0 := ⟨_, rfl⟩
  have HB0 : Hid (Below W.heap.size W w0) := by rw [← hV0]; exact below_alloc2 _ _ _
  have Q0 : Hid (Bx w0 W.heap.size [.int .i64 x0, .int .i64 x1, .int .i64 x2, .string x3, .slice a4 n4 c4]) := by
    rw [← hV0]
    exact (Bx.new _ _ _).kept (Kept.alloc (fun _ => True) _ _) trivial
  have R0 : Hid (Bx w0 (W.heap.size + 1) [.int .i64 x0, .int .i64 x1, .int .i64 x2, .string x3, .slice d4 n4 e4]) := by
    rw [← hV0]
    have := Bx.new (W.alloc (.cells #[.int .i64 x0, .int .i64 x1, .int .i64 x2, .string x3, .slice a4 n4 c4] 92)) [.int .i64 x0, .int .i64 x1, .int .i64 x2, .string x3, .slice d4 n4 e4] 92
    rwa [World.size_alloc] at this
  have HV0 := hide hV0
  clear hV0
  go_enter Try.func60, Try.ntmps60
  go_wp2_with fail
  rw [HV0.out]
  clear HV0
  have HC1 := eq_C_Type_all m (.v (.int .i64 x1) (.v (.int .i64 x2) (.v (.string x3) (.s a4 n4 c4 k4 .nil)))) (.v (.int .i64 x1) (.v (.int .i64 x2) (.v (.string x3) (.s d4 n4 e4 t4 .nil)))) nb w0 (by simp only [Fo.size]; omega) ⟨hx1, hx2, hx3, hf4, trivial⟩ (by have := HB0.out.size; omega) ⟨rfl, rfl, rfl, rfl, r4, trivial⟩ ⟨(HS4.out.below HB0.out (fun c hc => by omega)), trivial⟩ ⟨(HT4.out.below HB0.out (fun c hc => by omega)), trivial⟩
  simp only [Fo.vals] at HC1
  refine HC1.mono ?_
  clear HC1
  rintro e w1 ⟨rfl, b1⟩
  have HB1 := hide (HB0.out.trans (b1.mono HB0.out.size))
  have Q1 := hide (Q0.out.below b1)
  have R1 := hide (R0.out.below b1)
  clear b1
  go_wp2_with fail
  go_ret
  exact ⟨rfl, HB1.out⟩

set_option maxHeartbeats 2000000 in
set_option maxRecDepth 100000 in
theorem eq_R_BindS_of (m : Nat) (h : EqC Try.prog E 60 (E 1) m) : EqR Try.prog E 26 (E 1) m := by
  intro F G n nb W a b cap dap hm hf hn hsim hs ht
  have hmx : n ≤ 9223372036854775807 := by have h2 := hs.1; have h3 := hs.2.1; simp only [maxLen] at h3; omega
  have HR := hide (Rd.start hf hs)
  have HR' := hide (Rd.start (hsim.fit hf) ht)
  have HM := hide hm
  have HSI := hide hsim
  clear hf hs hm ht hsim
  go_enter Try.func26, Try.ntmps26
  go_wp2_with fail
  go_loopw [5] (fun s5 wr => ∃ (i : Nat) (r q : Fo), s5 = .int .i64 i ∧ i ≤ n ∧ Hid (r.size ≤ F.size) ∧ Hid (q.sim r) ∧ Hid (Rd E (E 1) n nb a i r wr) ∧ Hid (Rd E (E 1) n nb b i q wr) ∧ Hid (Below W.heap.size W wr)) (fun s5 _ => n - (intOf s5).toNat)
  case atStart => exact ⟨0, F, G, rfl, Nat.zero_le _, Nat.le_refl _, HSI, HR, HR', Below.refl _ _⟩
  case round =>
    obtain ⟨i, r, q, rfl, hin, hrs, hrq, hR, hR', hB⟩ := hrel
    by_cases hi : i < n
    · obtain ⟨x, rr, g, o, rfl, hx, rfl, hg, hc, hxs, hR1⟩ := hR.out.next hi (by decide)
      obtain ⟨y, qq, g', o', rfl, hy, rfl, hg', hc', hys, hR1'⟩ := hR'.out.next hi (by decide)
      have HR1 := hide hR1
      have HR1' := hide hR1'
      obtain ⟨hxy, hqr⟩ := Fo.sim.split (x := x) (y := y) (by rw [Fit.len hx, Fit.len hy]) hrq.out
      have HQ := hide hqr
      have HZ := hrs.out
      rw [Fo.app_size] at HZ
      have hbz := hB.out.size
      have hii : (i : Int) < n := by omega
      clear hR hR' hR1 hR1' hrs hrq hqr hy
      replace hx : Fit E x [.i, .i, .i, .t, .s 0] := hx
      have HC : Hid (∀ V, Below wr.heap.size wr V → Calls Try.prog 60 #[.agg x.vals.toArray, .agg y.vals.toArray] V fun e W' => e = .returned (.bool true) ∧ Below V.heap.size V W') := fun V bV => h x y nb V (by have := HM.out; omega) hx (by have := bV.size; omega) hxy (hxs.below bV (fun c hc => by omega)) (hys.below bV (fun c hc => by omega))
      have HZ1 := hide HZ
      have HBZ := hide hbz
      clear HZ hbz hxs hys
      obtain ⟨x0, F0, rfl, hx0, hx⟩ := fit_i hx
      obtain ⟨x1, F1, rfl, hx1, hx⟩ := fit_i hx
      obtain ⟨x2, F2, rfl, hx2, hx⟩ := fit_i hx
      obtain ⟨x3, F3, rfl, hx3, hx⟩ := fit_t hx
      obtain ⟨a4, n4, c4, k4, F4, rfl, hf4, hx⟩ := fit_s hx
      obtain rfl := fit_nil hx
      obtain ⟨u0, rfl, s_1⟩ := Fo.sim_v hxy
      obtain ⟨u1, rfl, s_2⟩ := Fo.sim_v s_1
      obtain ⟨u2, rfl, s_3⟩ := Fo.sim_v s_2
      obtain ⟨u3, rfl, s_4⟩ := Fo.sim_v s_3
      obtain ⟨d4, e4, t4, u4, rfl, r4, s_5⟩ := Fo.sim_s s_4
      obtain rfl := Fo.sim_nil s_5
      clear hxy s_1 s_2 s_3 s_4 s_5
      simp only [Fo.vals] at HC hc hc'
      have HS : Hid (∀ V, Below wr.heap.size wr V → V.cell? ⟨g, o + i * 5, none⟩ = some (.int .i64 x0) ∧ V.cell? ⟨g, o + i * 5 + 1, none⟩ = some (.int .i64 x1) ∧ V.cell? ⟨g, o + i * 5 + 2, none⟩ = some (.int .i64 x2) ∧ V.cell? ⟨g, o + i * 5 + 3, none⟩ = some (.string x3) ∧ V.cell? ⟨g, o + i * 5 + 4, none⟩ = some (.slice a4 n4 c4) ∧ V.cell? ⟨g', o' + i * 5, none⟩ = some (.int .i64 x0) ∧ V.cell? ⟨g', o' + i * 5 + 1, none⟩ = some (.int .i64 x1) ∧ V.cell? ⟨g', o' + i * 5 + 2, none⟩ = some (.int .i64 x2) ∧ V.cell? ⟨g', o' + i * 5 + 3, none⟩ = some (.string x3) ∧ V.cell? ⟨g', o' + i * 5 + 4, none⟩ = some (.slice d4 n4 e4)) := fun V bV => by
        have h1 := hc.below bV (by have := HBZ.out; omega)
        have h2 := hc'.below bV (by have := HBZ.out; omega)
        exact ⟨h1 0 _ rfl, h1 1 _ rfl, h1 2 _ rfl, h1 3 _ rfl, h1 4 _ rfl, h2 0 _ rfl, h2 1 _ rfl, h2 2 _ rfl, h2 3 _ rfl, h2 4 _ rfl⟩
      clear hc hc'
      have hd0 : Hid (Below wr.heap.size wr wr.drew) := (Below.refl _ wr).drew
      have kk0 := HS.out wr.drew hd0.out
      have kk00 := HS.out wr (Below.refl _ _)
      have HC0 := hide (HC.out wr.drew hd0.out)
      obtain ⟨p0, p1, p2, p3, p4, p5, p6, p7, p8, p9⟩ := kk00
      clear HC
      go_wp2_with fail
      go_region_held3 (fun V => V.cell? ⟨g, o + i * 5, none⟩ = some (.int .i64 x0) ∧ V.cell? ⟨g, o + i * 5 + 1, none⟩ = some (.int .i64 x1) ∧ V.cell? ⟨g, o + i * 5 + 2, none⟩ = some (.int .i64 x2) ∧ V.cell? ⟨g, o + i * 5 + 3, none⟩ = some (.string x3) ∧ V.cell? ⟨g, o + i * 5 + 4, none⟩ = some (.slice a4 n4 c4) ∧ V.cell? ⟨g', o' + i * 5, none⟩ = some (.int .i64 x0) ∧ V.cell? ⟨g', o' + i * 5 + 1, none⟩ = some (.int .i64 x1) ∧ V.cell? ⟨g', o' + i * 5 + 2, none⟩ = some (.int .i64 x2) ∧ V.cell? ⟨g', o' + i * 5 + 3, none⟩ = some (.string x3) ∧ V.cell? ⟨g', o' + i * 5 + 4, none⟩ = some (.slice d4 n4 e4))
        (first | with_reducible exact kk1 | with_reducible exact kk0)
        (first | (go_at_call 60; refine HC0.out.mono ?_; rintro e w1 ⟨rfl, b1⟩; have HB1 : Hid (Below wr.heap.size wr w1) := hd0.out.trans b1; have kk1 := HS.out w1 HB1.out; clear b1))
      all_goals
        go_wp2_with fail
        go_roundw
        case rel => exact ⟨i + 1, rr, qq, by go_num, by omega, (by show _ ≤ _; have := HZ1.out; omega), HQ, HR1.out.below HB1.out (by have := HBZ.out; omega), HR1'.out.below HB1.out (by have := HBZ.out; omega), hB.out.trans (HB1.out.mono HBZ.out)⟩
        case measure => simp [intOf]; omega
    · obtain ⟨-, rfl⟩ := hR.out.done hi
      clear hR hR' hrs hrq
      go_wp2_with fail
      go_ret
      exact ⟨rfl, hB.out⟩

theorem eq_R_BindS (m : Nat) : EqR Try.prog E 26 (E 1) m := eq_R_BindS_of m (eq_C_Bind m)
end Go.Proofs.Ytjlefdalobgdfaa.U

namespace Go.Proofs.Ytjlefdalobgdfaa.U
open Go.RowKit Go.Joins

set_option maxHeartbeats 2000000 in
set_option maxRecDepth 100000 in
theorem mk_R_BindS (m : Nat) : MkR Try.prog E 27 (E 1) m := by
  intro F n a cap k W hm hf hk0 hk hs hnd hlv
  have hmx : n ≤ 9223372036854775807 := by have h2 := hs.1.1; have h3 := hs.1.2.1; simp only [maxLen] at h3; omega
  have hfl : F.len = n * 5 := by rw [Fit.len hf, rep_len]; rfl
  by_cases hp : 0 < n
  · have hl : 0 < F.len := by omega
    obtain ⟨b, o, rfl, -, -, -⟩ := hs.1.2.2 hl
    have HI := hide (MkI.start (k0 := k) hl hs.1 (by simpa [Fo.inn] using hnd) (by simpa [Fo.inn] using hlv))
    have HL := hide hl
    have HF := hide hf
    have HM := hide hm
    have HK := hide hk
    have HCP := hide (And.intro hs.1.1 hs.1.2.1)
    clear hl hf hs hnd hlv hm hk hfl
    go_enter Try.func27, Try.ntmps27
    go_wp2_with fail
    go_loopw [1, 5] (fun s1 s5 wr => ∃ (i q : Nat) (r Fp : Fo), s1 = .int .i64 (q : Int) ∧ s5 = .int .i64 i ∧ i ≤ n ∧ Hid (k + Fp.ct = q) ∧ Hid (Fp.len = i * 5) ∧ Hid (Fit E r (rep (E 1) (n - i))) ∧ Hid (MkI b o F k W Fp r wr)) (fun _ s5 _ => n - (intOf s5).toNat)
    case atStart => exact ⟨0, k, F, .nil, rfl, rfl, Nat.zero_le _, (by show _ = _; simp [Fo.ct]), (by show _ = _; simp [Fo.len]), HF, HI⟩
    case round =>
      obtain ⟨i, q, r, Fp, rfl, rfl, hin, hq, hfp, hR, hI⟩ := hrel
      by_cases hi : i < n
      · obtain ⟨x, rr, rfl, hx, hrr, -⟩ := hR.out.next hi
        have HRR := hide hrr
        have hii : (i : Int) < n := by omega
        have hct := congrArg Fo.ct hI.out.eq
        have hsz := congrArg Fo.size hI.out.eq
        clear hR hrr
        replace hx : Fit E x [.i, .i, .i, .t, .s 0] := hx
        obtain ⟨x0, F0, rfl, hx0, hx⟩ := fit_i hx
        obtain ⟨x1, F1, rfl, hx1, hx⟩ := fit_i hx
        obtain ⟨x2, F2, rfl, hx2, hx⟩ := fit_i hx
        obtain ⟨x3, F3, rfl, hx3, hx⟩ := fit_t hx
        obtain ⟨a4, n4, c4, k4, F4, rfl, hf4, hx⟩ := fit_s hx
        obtain rfl := fit_nil hx
        have I0 : Hid (MkI b o F k W Fp (.v (.int .i64 x0) (.v (.int .i64 x1) (.v (.int .i64 x2) (.v (.string x3) (.s a4 n4 c4 k4 rr))))) wr) := hI
        simp only [Fo.app, Fo.app_ct, Fo.ct] at hct
        simp only [Fo.app, Fo.app_size, Fo.size] at hsz
        have hqk : 0 < q ∧ q + (1 + 1 + 1 + 1 + k4.ct) ≤ 4294967296 := by have := hq.out; have := HK.out; omega
        have HQK := hide hqk
        have hv0 : q + 4 ≤ 4294967296 := by omega
        have HSZ := hide hsz
        clear hI hct hsz hqk
        have HM3 : Hid (∀ w, Calls Try.prog 61 #[.int .i64 ((q : Int) + 1 + 1 + 1)] w fun e w' => e = .returned (.string (mt (q + 3))) ∧ Below w.heap.size w w') := fun w => by
          have e : ((q + 3 : Nat) : Int) = (q : Int) + 1 + 1 + 1 := by omega
          rw [← e]
          exact markText (q + 3) w (by have := HQK.out; have := hq.out; omega) (by have := HQK.out; have := hq.out; omega)
        have p0_0 : wr.cell? ⟨b, o + i * 5, none⟩ = some (.int .i64 x0) := I0.out.at_ 0 _ rfl (by have := hfp.out; (try simp only [Fo.app_len, Fo.len]); omega)
        have f0_0 := I0.out.free (o + i * 5)
        have p0_1 : wr.cell? ⟨b, o + i * 5 + 1, none⟩ = some (.int .i64 x1) := I0.out.at_ 1 _ rfl (by have := hfp.out; (try simp only [Fo.app_len, Fo.len]); omega)
        have f0_1 := I0.out.free (o + i * 5 + 1)
        have p0_2 : wr.cell? ⟨b, o + i * 5 + 2, none⟩ = some (.int .i64 x2) := I0.out.at_ 2 _ rfl (by have := hfp.out; (try simp only [Fo.app_len, Fo.len]); omega)
        have f0_2 := I0.out.free (o + i * 5 + 2)
        obtain ⟨V1, hV1⟩ : ∃ V, (((wr.setCell ⟨b, o + i * 5, none⟩ (.int .i64 ((q : Int)))).setCell ⟨b, o + i * 5 + 1, none⟩ (.int .i64 ((q : Int) + 1))).setCell ⟨b, o + i * 5 + 2, none⟩ (.int .i64 ((q : Int) + 1 + 1))) = V := ⟨_, rfl⟩
        have I1 : Hid (MkI b o F k W (((Fp.app (.v (.int .i64 x0) .nil)).app (.v (.int .i64 x1) .nil)).app (.v (.int .i64 x2) .nil)) (.v (.string x3) (.s a4 n4 c4 k4 rr)) V1) := by
          rw [← hV1]
          exact (((I0.out.set (q := q) (by have := hfp.out; (try simp only [Fo.app_len, Fo.len]); omega) (by have := hq.out; (try simp only [Fo.app_ct, Fo.ct] at this ⊢); omega) (by first | rfl | (simp only [mkV]; congr 1; omega))).set (q := q + 1) (by have := hfp.out; (try simp only [Fo.app_len, Fo.len]); omega) (by have := hq.out; (try simp only [Fo.app_ct, Fo.ct] at this ⊢); omega) (by first | rfl | (simp only [mkV]; congr 1; omega))).set (q := q + 2) (by have := hfp.out; (try simp only [Fo.app_len, Fo.len]); omega) (by have := hq.out; (try simp only [Fo.app_ct, Fo.ct] at this ⊢); omega) (by first | rfl | (simp only [mkV]; congr 1; omega)))
        have HV1 := hide hV1
        clear hV1
        go_wp2_with fail
        rw [HV1.out]
        clear p0_0 p0_1 p0_2 f0_0 f0_1 f0_2
        refine (HM3.out V1).mono ?_
        rintro e w2 ⟨rfl, b2⟩
        have I2 := hide (I1.out.below b2)
        clear b2 HM3
        have HM4 : Hid (∀ w, Fo.Subs w (fun c => c < w.heap.size) (.s a4 n4 c4 k4 .nil) → (Fo.inn (.s a4 n4 c4 k4 .nil)).Nodup → Live w (Fo.inn (.s a4 n4 c4 k4 .nil)) → Calls Try.prog 51 #[.slice a4 n4 c4, .int .i64 ((q : Int) + 1 + 1 + 1 + 1)] w fun e w' => e = .returned (.int .i64 ((q + 4 + k4.ct : Nat) : Int)) ∧
            Fo.Subs w' (fun c => c < w.heap.size) (Fo.mks (.s a4 n4 c4 k4 .nil) (q + 4)) ∧ Kept (fun c => c ∉ Fo.inn (.s a4 n4 c4 k4 .nil)) w w' ∧ Live w' (Fo.inn (.s a4 n4 c4 k4 .nil))) := fun w h1 h2 h3 => by
          have e : ((q + 4 : Nat) : Int) = (q : Int) + 1 + 1 + 1 + 1 := by omega
          rw [← e]
          exact mk_R_TypeS m k4 n4 a4 c4 (q + 4) w (by have := HM.out; have := HSZ.out; omega) hf4 (by have := HQK.out; have := hq.out; omega) (by have := HQK.out; have := hq.out; omega) h1 h2 h3
        have p2_3 : w2.cell? ⟨b, o + i * 5 + 3, none⟩ = some (.string x3) := I2.out.at_ 0 _ rfl (by have := hfp.out; (try simp only [Fo.app_len, Fo.len]); omega)
        have f2_3 := I2.out.free (o + i * 5 + 3)
        have p2_4 : w2.cell? ⟨b, o + i * 5 + 4, none⟩ = some (.slice a4 n4 c4) := I2.out.at_ 1 _ rfl (by have := hfp.out; (try simp only [Fo.app_len, Fo.len]); omega)
        obtain ⟨V3, hV3⟩ : ∃ V, (w2.setCell ⟨b, o + i * 5 + 3, none⟩ (.string (mt (q + 3)))) = V := ⟨_, rfl⟩
        have I3 : Hid (MkI b o F k W ((((Fp.app (.v (.int .i64 x0) .nil)).app (.v (.int .i64 x1) .nil)).app (.v (.int .i64 x2) .nil)).app (.v (.string x3) .nil)) (.s a4 n4 c4 k4 rr) V3) := by
          rw [← hV3]
          exact (I2.out.set (q := q + 3) (by have := hfp.out; (try simp only [Fo.app_len, Fo.len]); omega) (by have := hq.out; (try simp only [Fo.app_ct, Fo.ct] at this ⊢); omega) (by first | rfl | (simp only [mkV]; congr 1; omega)))
        have HV3 := hide hV3
        clear hV3
        go_wp2_with fail
        rw [HV3.out]
        clear p2_3 f2_3 p2_4
        refine (HM4.out V3 I3.out.sub.1 I3.out.sub.2.1 I3.out.sub.2.2).mono ?_
        rintro e w4 ⟨rfl, s4, b4, l4⟩
        have I4 := hide (I3.out.call (q := q + 4) (by have := hq.out; (try simp only [Fo.app_ct, Fo.ct] at this ⊢); omega) b4 s4 l4)
        obtain ⟨q4, hq4⟩ : ∃ q4, q + 4 + k4.ct = q4 := ⟨_, rfl⟩
        rw [hq4]
        have HQ4 : Hid (k + (((((Fp.app (.v (.int .i64 x0) .nil)).app (.v (.int .i64 x1) .nil)).app (.v (.int .i64 x2) .nil)).app (.v (.string x3) .nil)).app (.s a4 n4 c4 k4 .nil)).ct = q4 ∧ q + 4 + k4.ct = q4) := ⟨by have := hq.out; (try simp only [Fo.app_ct, Fo.ct] at this ⊢); omega, hq4⟩
        have HE4 : Hid (k + (((((Fp.app (.v (.int .i64 x0) .nil)).app (.v (.int .i64 x1) .nil)).app (.v (.int .i64 x2) .nil)).app (.v (.string x3) .nil)).app (.s a4 n4 c4 k4 .nil)).ct = q4) := HQ4.out.1
        have hv5 : q4 + 0 ≤ 4294967296 := by have := HQK.out; have := HQ4.out; omega
        clear b4 s4 l4 hq4 HM4
        go_wp2_with fail
        go_roundw
        case rel => exact ⟨i + 1, q4, rr, (((((Fp.app (.v (.int .i64 x0) .nil)).app (.v (.int .i64 x1) .nil)).app (.v (.int .i64 x2) .nil)).app (.v (.string x3) .nil)).app (.s a4 n4 c4 k4 .nil)), rfl, by go_num, by omega, (by show _ = _; have := HE4.out; simp only [Fo.app_ct, Fo.ct] at this ⊢; omega), (by show _ = _; have := hfp.out; (try simp only [Fo.app_len, Fo.len]); omega), HRR, I4⟩
        case measure => simp [intOf]; omega
      · have e1 := hR.out.done hi
        subst e1
        have hin2 : i = n := by omega
        subst hin2
        have h1 := hide (hI.out.finish HCP.out.1 HCP.out.2 HL.out)
        clear hR hI
        go_wp2_with fail
        go_ret
        obtain ⟨h2, h3, h4, h5⟩ := h1.out
        subst h2
        exact ⟨by rw [hq.out]; rfl, h3, h4, h5⟩
  · have e1 : n = 0 := by omega
    subst e1
    obtain rfl := fit_nil hf
    clear hfl
    go_enter Try.func27, Try.ntmps27
    go_wp2_with fail
    go_loopw [1, 5] (fun s1 s5 wr => s1 = .int .i64 k ∧ s5 = .int .i64 0 ∧ wr = W) (fun _ _ _ => 0)
    case atStart => exact ⟨rfl, rfl, rfl⟩
    case round =>
      obtain ⟨rfl, rfl, rfl⟩ := hrel
      go_wp2_with fail
      go_ret
      exact ⟨by simp [Fo.ct], ⟨⟨hs.1.1, hs.1.2.1, fun h => by simp [Fo.mk, Fo.len] at h⟩, trivial⟩, Kept.refl _ _, hlv⟩

end Go.Proofs.Ytjlefdalobgdfaa.U
