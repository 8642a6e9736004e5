import Derived.Test.YtjlefdalobgdfaaAi
namespace Go.Proofs.Ytjlefdalobgdfaa
open Go.RowKit Go.Joins

theorem sk_drew (A : World) : SK A A.drew ∧ SK A.drew A := ⟨⟨rfl, rfl, rfl, Nat.le_refl _, fun _ _ _ => rfl, fun _ h => ⟨h, fun _ _ _ h => h⟩⟩, ⟨rfl, rfl, rfl, Nat.le_refl _, fun _ _ _ => rfl, fun _ h => ⟨h, fun _ _ _ h => h⟩⟩⟩

theorem SK.cell {A B : World} (s : SK A B) {c t : Nat} (h : Ty A c t) (ht : t ≠ 103) (j : Nat) : B.cell? ⟨c, j, none⟩ = A.cell? ⟨c, j, none⟩ :=
  World.cell?_of_block (w := A) (s.block c h.lt (fun g => ht (h.uniq g)))

/-- What measuring tells. -/
def MeP (lo : Nat → Prop) (p lv : Nat) (ks : Fo) (W W' : World) (b : Bool) : Prop :=
  SK W W' ∧ MM lo W' ∧ Kept (fun c => ¬ lo c) W W' ∧ (b = true → 1 + ks.dep ≤ lv ∧ 1 + ks.size ≤ 20000 ∧ ∀ f, Fn W p f → W.cell? ⟨f, 0, none⟩ = some (.pointer none) → W'.cell? ⟨f, 5, none⟩ = some (.int .i64 (1 + ks.size)) ∧ W'.cell? ⟨f, 6, none⟩ = some (.int .i64 (1 + ks.dep))) ∧ (b = false → ¬ (1 + ks.dep ≤ lv ∧ 1 + ks.size ≤ 20000))

set_option maxHeartbeats 4000000 in
set_option maxRecDepth 100000 in
theorem mea_any (ub : Nat) (lo : Nat → Prop) : ∀ (m : Nat) (ks : Fo), ks.size < m → ∀ (k ix : Int) (nm : ByteArray) (a' : Option Addr) (cap' p lv : Nat) (W : World), lv ≤ 200 → W.cell? ⟨ub, 0, none⟩ = some (.int .i64 1) → Ty W ub 105 → MM lo W → NvL lo W [p] (.cons k ix nm a' cap' ks .nil) →
    Calls Try.prog 58 #[.pointer (some ⟨ub, 0, none⟩), .pointer (some ⟨p, 0, none⟩), .int .i64 (lv : Int)] W fun e W' => ∃ b, e = .returned (.bool b) ∧ MeP lo p lv ks W W' b := by
  intro m
  induction m with
  | zero => intro F hF; omega
  | succ m ih =>
    intro ks hF k ix nm a' cap' p lv W hlv hub hut hMM hnv
    obtain ⟨f, qs, a, cap, hlo, fn, nc, pt, h1⟩ : ∃ f qs a cap, lo f ∧ Fn W p f ∧ NC W f k ix nm a qs.length cap ∧ Pt W a cap qs ∧ NvL lo W qs ks := by
      cases hnv with
      | cons hl fn nc pt h1 h2 => exact ⟨_, _, _, _, hl, fn, nc, pt, h1⟩
    have hql : qs.length = ks.len := h1.len
    have hmx : ks.len ≤ 9223372036854775807 := by have h2 := pt.le; have h3 := pt.mx; simp only [maxLen] at h3; omega
    obtain ⟨s, d, rn, m1, m2, m3, m4⟩ := hMM f k ix nm a cap qs ks hlo nc pt h1
    have HFI := hide (find_any p f W fn nc.ab)
    have HFU : Hid (∀ g, Fn W p g → W.cell? ⟨g, 0, none⟩ = some (.pointer none) → g = f) := fun g hg hc => hg.uniq fn hc nc.ab
    have HMV : Hid (MM lo W.drew) := hMM.back (sk_drew W).2 (fun _ _ _ _ => rfl)
    have HNC := hide nc
    have HPT := hide pt
    have H1 := hide h1
    have HIH := hide ih
    have HUT := hide hut
    clear ih hnv fn nc pt h1 hMM
    by_cases hrn : rn = 1
    · subst hrn
      obtain ⟨e1, e2, e3⟩ : s = 1 + ks.size ∧ d = 1 + ks.dep ∧ 1 + ks.size ≤ 20000 := by
        rcases m4 with h | ⟨-, h⟩
        · cases h
        · exact h
      have HS : Hid (s = 1 + ks.size ∧ 1 + ks.size ≤ 20000) := ⟨e1, e3⟩
      have HM : Hid (W.cell? ⟨f, 5, none⟩ = some (.int .i64 s) ∧ W.cell? ⟨f, 6, none⟩ = some (.int .i64 d)) := ⟨m1, m2⟩
      have m2d : W.drew.cell? ⟨f, 6, none⟩ = some (.int .i64 d) := m2
      have HD := hide e2
      clear m4 e1 e2 e3 m1
      go_enter Try.func58, Try.ntmps58
      go_wp2_with fail
      refine HFI.out.mono ?_
      rintro e w2 ⟨rfl, rfl⟩
      go_upto_region 2 with fail
      go_region
      go_wp2_with fail
      go_ret
      refine ⟨decide (d ≤ lv), rfl, (sk_drew w2).1, HMV.out, Kept.drew _ _, fun hb => ?_, fun hb => ?_⟩
      · have hb' : d ≤ lv := by simpa using hb
        rw [HD.out] at hb'
        refine ⟨by omega, HS.out.2, fun g hg hc => ?_⟩
        have := HFU.out g hg hc
        subst this
        exact ⟨by rw [← HS.out.1]; exact HM.out.1, by rw [← HD.out]; exact HM.out.2⟩
      · have hb' : ¬ d ≤ lv := by simpa using hb
        rw [HD.out] at hb'
        intro h
        omega
    · obtain ⟨rfl⟩ : rn = 0 := by
        rcases m4 with h | ⟨h, -⟩
        · exact h
        · exact absurd h hrn
      clear m4 hrn m1 m2
      by_cases hl0 : lv = 0
      · subst hl0
        go_enter Try.func58, Try.ntmps58
        go_wp2_with fail
        refine HFI.out.mono ?_
        rintro e w2 ⟨rfl, rfl⟩
        go_upto_region 2 with fail
        go_region
        go_wp2_with fail
        go_ret
        exact ⟨false, rfl, (sk_drew w2).1, HMV.out, Kept.drew _ _, fun hb => (by cases hb), fun _ h => by omega⟩
      · obtain ⟨V, hV⟩ : ∃ V, W.drew = V := ⟨_, rfl⟩
        have sV : SK W V := by rw [← hV]; exact (sk_drew W).1
        have HKV : Hid (Kept (fun c => ¬ lo c) W V) := by unfold Hid; rw [← hV]; exact Kept.drew _ _
        have ncV := HNC.out.sk sV
        have ptV := HPT.out.sk sV
        have HNV := hide (H1.out.sk sV)
        have hubV : V.cell? ⟨ub, 0, none⟩ = some (.int .i64 1) := by rw [← hV]; exact hub
        have HUV := hide (sV.ty HUT.out)
        have HUC := hide hubV
        rw [hV] at HMV
        have c4 := ncV.c4
        rw [hql] at c4
        have hl0b : ((lv : Int) == 0) = false := by simpa using hl0
        have HSV := hide sV
        have HNCV := hide ncV
        have HPTV := hide ptV
        have HV := hide hV
        clear sV ncV ptV hubV HNC HPT H1 HUT hV
        go_enter Try.func58, Try.ntmps58
        go_wp2_with fail
        refine HFI.out.mono ?_
        rintro e w2 ⟨rfl, rfl⟩
        go_upto_region 2 with fail
        go_region
        rw [HV.out]
        clear HV
        go_wp2_with fail
        go_loopw [8, 9, 39] (fun s8 s9 s39 wr => ∃ (i : Nat) (Fp r : Fo), s8 = .int .i64 (1 + Fp.size) ∧ s9 = .int .i64 (1 + Fp.dep) ∧ s39 = .int .i64 i ∧ i ≤ ks.len ∧ Hid (Fp.app r = ks ∧ Fp.len = i ∧ 1 + Fp.size ≤ 20000 ∧ Fp.dep ≤ lv - 1 ∧ NvL lo V (qs.drop i) r) ∧ Hid (SK V wr ∧ MM lo wr ∧ Kept (fun c => ¬ lo c) V wr)) (fun _ _ s39 _ => ks.len - (intOf s39).toNat)
        case atStart => exact ⟨0, .nil, ks, rfl, rfl, rfl, Nat.zero_le _, ⟨rfl, rfl, by simp [Fo.size], Nat.zero_le _, by simpa using HNV.out⟩, SK.refl _, HMV.out, Kept.refl _ _⟩
        case round =>
          obtain ⟨i, Fp, r, rfl, rfl, rfl, hi, hP, hS⟩ := hrel
          obtain ⟨p1, p2, p3, p4, p5⟩ := hP.out
          obtain ⟨s1, s2, s3⟩ := hS.out
          have hlen : i + r.len = ks.len := by rw [← p1, Fo.app_len, p2]
          have u1 : wr.cell? ⟨ub, 0, none⟩ = some (.int .i64 1) := (s1.cell HUV.out (by decide) 0).trans HUC.out
          cases r with
          | nil =>
            simp only [Fo.len] at hlen
            have hii : ¬ (i : Int) < ks.len := by omega
            have hFp : Fp = ks := by rwa [Fo.app_nil] at p1
            subst hFp
            have ncr := HNCV.out.sk s1
            obtain ⟨t1, t2, t3, t4⟩ := MM.note s2 ncr (HPTV.out.sk s1) (HNV.out.sk s1) p3 hlo (S := 1 + (Fp.size : Int)) (D := 1 + (Fp.dep : Int)) (by omega) (by omega)
            obtain ⟨x, y, z, n1, n2, n3, -⟩ := s2 f k ix nm a cap qs Fp hlo ncr (HPTV.out.sk s1) (HNV.out.sk s1)
            have f5 := ncr.ty.live 5
            have f6 := ncr.ty.live 6
            have f7 := ncr.ty.live 7
            have HE : Hid (MeP lo p lv Fp w2 (((wr.setCell ⟨f, 5, none⟩ (.int .i64 (1 + Fp.size))).setCell ⟨f, 6, none⟩ (.int .i64 (1 + Fp.dep))).setCell ⟨f, 7, none⟩ (.int .i64 1)) true) :=
              ⟨(HSV.out.trans s1).trans t1, t2, (HKV.out.trans s3).trans (((Kept.setCell _ _ _ _ (fun h => h hlo)).trans (Kept.setCell _ _ _ _ (fun h => h hlo))).trans (Kept.setCell _ _ _ _ (fun h => h hlo))), fun _ => ⟨by omega, p3, fun g hg hc => by rw [HFU.out g hg hc]; exact ⟨t3, t4⟩⟩, fun h => (by cases h)⟩
            clear hP hS ncr t1 t2 t3 t4 s1 s2 s3 p5
            go_wp2_with fail
            go_ret
            first | exact ⟨true, rfl, HE.out⟩ | exact .inr ⟨rfl, HE.out⟩
          | cons k' ix' nm' ka kcap ks' r =>
            simp only [Fo.len] at hlen
            have hii : (i : Int) < ks.len := by omega
            obtain ⟨q, qr, hqr⟩ : ∃ q qr, qs.drop i = q :: qr := by
              cases e : qs.drop i with
              | nil => rw [e] at p5; cases p5
              | cons q qr => exact ⟨q, qr, rfl⟩
            rw [hqr] at p5
            have hqi : qs[i]? = some q := by
              have : (qs.drop i)[0]? = some q := by rw [hqr]; rfl
              simpa using this
            have hqd : qs.drop (i + 1) = qr := by
              have : (qs.drop i).drop 1 = qr := by rw [hqr]; rfl
              simpa using this
            have hszr : Fp.size + (1 + ks'.size + r.size) = ks.size := by rw [← p1, Fo.app_size]; rfl
            have hdpr : ks.dep = max Fp.dep (max (1 + ks'.dep) r.dep) := by rw [← p1, Fo.dep_app]; rfl
            obtain ⟨g, qs', ka', kc', gl, gfn, gnc, gpt, gh1, gh2⟩ : ∃ g qs' ka' kc', lo g ∧ Fn V q g ∧ NC V g k' ix' nm' ka' qs'.length kc' ∧ Pt V ka' kc' qs' ∧ NvL lo V qs' ks' ∧ NvL lo V qr r := by
              cases p5 with
              | cons hl fn nc pt h1 h2 => exact ⟨_, _, _, _, hl, fn, nc, pt, h1, h2⟩
            obtain ⟨b, rfl, htb, hcb⟩ := (HPTV.out.sk s1).at_ (by rw [hql]; omega)
            have y : wr.cell? ⟨b, i, none⟩ = some (.pointer (some ⟨q, 0, none⟩)) := hcb i q hqi
            have elv : ((lv - 1 : Nat) : Int) = (lv : Int) - 1 := by omega
            have hcl := HIH.out ks' (by omega) k' ix' nm' ka kcap q (lv - 1) wr (by omega) u1 (s1.ty HUV.out) s2 (.cons gl (gfn.sk s1) (gnc.sk s1) (gpt.sk s1) (gh1.sk s1) .nil)
            rw [elv] at hcl
            have HCL := hide hcl
            have HNX : Hid (NvL lo V (qs.drop (i + 1)) r) := by unfold Hid; rw [hqd]; exact gh2
            have HGF : Hid (∀ wx, SK wr wx → Fn wx q g ∧ wx.cell? ⟨g, 0, none⟩ = some (.pointer none)) := fun wx sx => ⟨(gfn.sk s1).sk sx, ((gnc.sk s1).sk sx).ab⟩
            have HGW : Hid (Fn wr q g ∧ wr.cell? ⟨g, 0, none⟩ = some (.pointer none)) := ⟨gfn.sk s1, (gnc.sk s1).ab⟩
            have HP := hide hP.out
            have HS1 := hide s1
            have HK3 := hide s3
            clear hcl hP hS p5 s1 s2 s3 gfn gnc gpt gh1 gh2 hqr hqi hqd hcb elv
            go_wp2_with fail
            refine HCL.out.mono ?_
            rintro e w3 ⟨bb, rfl, ⟨t1, t2, tk, t3, t4⟩⟩
            cases bb with
            | false =>
              have HE : Hid (MeP lo p lv ks w2 w3 false) := ⟨(HSV.out.trans HS1.out).trans t1, t2, (HKV.out.trans HK3.out).trans tk, fun h => (by cases h), fun _ h => t4 rfl ⟨by omega, by omega⟩⟩
              clear t1 t2 t3 t4 tk HCL
              go_wp2_with fail
              go_ret
              exact ⟨false, rfl, HE.out⟩
            | true =>
              obtain ⟨t5, t6, t7⟩ := t3 rfl
              obtain ⟨e5, e6⟩ := t7 g HGW.out.1 HGW.out.2
              have HFG := hide (find_any q g w3 (HGF.out w3 t1).1 (HGF.out w3 t1).2)
              have HS3 : Hid (SK V w3 ∧ MM lo w3 ∧ Kept (fun c => ¬ lo c) V w3) := ⟨HS1.out.trans t1, t2, HK3.out.trans tk⟩
              have hsum : (1 + (Fp.size : Int)) + (1 + ks'.size) = 1 + ((Fp.app (.cons k' ix' nm' ka kcap ks' .nil)).size : Nat) := by rw [Fo.app_size]; simp only [Fo.size]; omega
              have hdp : max (1 + (Fp.dep : Int)) (1 + (ks'.dep : Int) + 1) = 1 + ((Fp.app (.cons k' ix' nm' ka kcap ks' .nil)).dep : Nat) := by rw [Fo.dep_app]; simp only [Fo.dep]; omega
              have hsz2 : (Fp.app (.cons k' ix' nm' ka kcap ks' .nil)).size = Fp.size + (1 + ks'.size) := by rw [Fo.app_size]; simp only [Fo.size]; omega
              have hdp2 : (Fp.app (.cons k' ix' nm' ka kcap ks' .nil)).dep = max Fp.dep (1 + ks'.dep) := by rw [Fo.dep_app]; simp only [Fo.dep]; omega
              clear t1 t2 t3 t4 t7 tk HCL
              by_cases hbig : 20000 < 1 + Fp.size + (1 + ks'.size)
              · have hbi : (20000 : Int) < 1 + (Fp.size : Int) + (1 + ks'.size) := by omega
                have HE : Hid (MeP lo p lv ks w2 w3 false) := ⟨HSV.out.trans HS3.out.1, HS3.out.2.1, HKV.out.trans HS3.out.2.2, fun h => (by cases h), fun _ h => by omega⟩
                go_wp2_with fail
                refine HFG.out.mono ?_
                rintro e w4 ⟨rfl, rfl⟩
                go_wp2_with fail
                go_ret
                exact ⟨false, rfl, HE.out⟩
              · have hbi : ¬ (20000 : Int) < 1 + (Fp.size : Int) + (1 + ks'.size) := by omega
                have HN : Hid ((Fp.app (.cons k' ix' nm' ka kcap ks' .nil)).app r = ks ∧ (Fp.app (.cons k' ix' nm' ka kcap ks' .nil)).len = i + 1 ∧ 1 + (Fp.app (.cons k' ix' nm' ka kcap ks' .nil)).size ≤ 20000 ∧ (Fp.app (.cons k' ix' nm' ka kcap ks' .nil)).dep ≤ lv - 1 ∧ NvL lo V (qs.drop (i + 1)) r) :=
                  ⟨by rw [Fo.app_assoc]; exact HP.out.1, by rw [Fo.app_len, HP.out.2.1]; rfl, by rw [hsz2]; omega, by rw [hdp2]; omega, HNX.out⟩
                have HSU := hide hsum
                have HDP := hide hdp
                clear hsum hdp hsz2 hdp2 HP hdpr hszr
                go_wp2_with fail
                refine HFG.out.mono ?_
                rintro e w4 ⟨rfl, rfl⟩
                go_wp2_with fail
                go_roundw
                case rel => exact ⟨i + 1, _, r, by rw [← HSU.out], by rw [← HDP.out], by go_num, by omega, HN.out, HS3.out⟩
                case measure => simp [intOf]; omega

end Go.Proofs.Ytjlefdalobgdfaa
