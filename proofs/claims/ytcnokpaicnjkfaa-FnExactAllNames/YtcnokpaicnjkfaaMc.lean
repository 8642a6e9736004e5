import Derived.Test.YtcnokpaicnjkfaaMb
namespace Go.Proofs.Ytcnokpaicnjkfaa
open Go.RowKit Go.Joins

theorem all_all (nb : Nat) : ∀ m, AllC nb m
  | 0 => fun F _ _ _ hm hf => absurd (Fit.len hf) (by have := F.len_le; show ¬ F.len = 7; omega)
  | m + 1 => all_step nb m (all_all nb m)

open Classical in
/-- All names of a term. -/
noncomputable def allN (t : Tm) : List ByteArray := if okC t then adds [] t.all else []

/-- What AllNames answers: a row of texts behind what was there. -/
def FnP (t : Tm) (W : World) (e : Ending) (W' : World) : Prop := ∃ a c, e = .returned (.slice a (allN t).length c) ∧ W'.ownsRow W.heap.size 9 1 (.slice a (allN t).length c) (allN t).length ((allN t).map Value.string) ∧ Below W.heap.size W W'

set_option maxHeartbeats 4000000 in
set_option maxRecDepth 100000 in
theorem m_allnames (F : Fo) (W : World) (hf : Fit E F (E 3)) (hwt : F.wt ≤ 1048576) (hs : F.Subs W (fun c => c < W.heap.size)) (hg : okC (rdK F)) :
    Calls Try.prog 18 #[.agg F.vals.toArray] W (FnP (rdK F) W) := by
  have hsz := (Fit.bounds E_len F (E 3) hf).2.2
  have hfl : F.len = 7 := Fit.len hf
  obtain ⟨V0, hV0⟩ : ∃ V, W.alloc (.cells F.vals.toArray 36) = V := ⟨_, rfl⟩
  have b0 : Below W.heap.size W V0 := by rw [← hV0]; exact below_alloc1 _ _
  have z0 : V0.heap.size = W.heap.size + 1 := by rw [← hV0]; simp
  have q0 : Bx V0 W.heap.size F.vals := by rw [← hV0]; exact Bx.new _ _ _
  have bV : Below V0.heap.size V0 (V0.alloc (.cells #[] 9)) := below_alloc1 _ _
  have hE := BR.empty V0 V0 (Kept.refl _ _)
  have HC := hide (all_all W.heap.size F.size F (V0.alloc (.cells #[] 9)) (.slice (some ⟨V0.heap.size, 0, none⟩) 0 0) [] (Nat.le_refl _) hf ((hs.below b0 (fun c hc => hc)).below bV (fun c hc => by omega)) (by simp; omega) (fun g e => by have e2 : V0.heap.size = g := Option.some.inj e; omega) hE.own (by simp only [List.length_nil]; omega))
  have HF : Hid (∀ e W', FrP (.slice (some ⟨V0.heap.size, 0, none⟩) 0 0) (adds [] (rdK F).all) (V0.alloc (.cells #[] 9)) e W' → FnP (rdK F) W e W') := by
    rintro e W' ⟨a, c, h1, h2, h3, h4⟩
    have e1 : allN (rdK F) = adds [] (rdK F).all := by
      unfold allN
      rw [if_pos hg]
    unfold FnP
    rw [e1]
    refine ⟨a, c, h1, own_up h2 (fun g hg => ?_), ?_⟩
    · rcases h4 g hg with e2 | e2
      · have e3 : V0.heap.size = g := Option.some.inj e2
        omega
      · simp at e2
        omega
    · refine Below.kept (b0.trans (bV.mono b0.size)) h3 (fun c hc e2 => ?_) (Nat.le_refl _)
      have e3 : V0.heap.size = c := Option.some.inj e2
      omega
  obtain ⟨k, nm, mn, la, ln, lc, lk, na, nn, nc, nk, ka, kn, kc, kk, aa, an, ac, ak, hxe, -⟩ := core_open hf
  obtain ⟨T, hT⟩ : ∃ T, rdK F = T := ⟨_, rfl⟩
  rw [hT] at HC HF ⊢
  rw [hxe] at hV0 q0 HC ⊢
  simp only [Fo.vals] at hV0 q0 HC ⊢
  have c0 := q0.cel 0 _ rfl
  have c1 := q0.cel 1 _ rfl
  have c2 := q0.cel 2 _ rfl
  have c3 := q0.cel 3 _ rfl
  have c4 := q0.cel 4 _ rfl
  have c5 := q0.cel 5 _ rfl
  have c6 := q0.cel 6 _ rfl
  have HV0 := hide hV0
  clear hV0 b0 q0 z0 bV hE hsz hfl hf hwt hs hg hxe hT
  go_enter Try.func18, Try.ntmps18
  go_upto_region 1 with fail
  rw [HV0.out]
  clear HV0
  go_wp2_with fail
  refine HC.out.mono ?_
  rintro e w1 hfr
  have HFR := hide (HF.out e w1 hfr)
  obtain ⟨a, c, rfl, -⟩ := hfr
  clear HC HF
  go_wp2_with fail
  go_ret
  exact HFR.out

set_option maxHeartbeats 4000000 in
set_option maxRecDepth 100000 in
theorem m_all (F : Fo) (W : World) (hf : Fit E F (E 3)) (hwt : F.wt ≤ 1048576) (hs : F.Subs W (fun c => c < W.heap.size)) :
    Calls Try.prog 5 #[.agg F.vals.toArray] W (FnP (rdK F) W) := by
  obtain ⟨V0, hV0⟩ : ∃ V, W.alloc (.cells F.vals.toArray 36) = V := ⟨_, rfl⟩
  have b0 : Below W.heap.size W V0 := by rw [← hV0]; exact below_alloc1 _ _
  have q0 : Bx V0 W.heap.size F.vals := by rw [← hV0]; exact Bx.new _ _ _
  have hlt : ∀ c, c < W.heap.size → c < V0.heap.size := fun c hc => Nat.lt_of_lt_of_le hc b0.size
  have HC1 := hide (m_fault F V0 hf hwt ((hs.below b0 (fun c hc => hc)).mono hlt))
  have HC2 : Hid (∀ V, Below V0.heap.size V0 V → okC (rdK F) → Calls Try.prog 18 #[.agg F.vals.toArray] V (FnP (rdK F) V)) := fun V bV hg => m_allnames F V hf hwt (((hs.below b0 (fun c hc => hc)).below bV hlt).mono (fun c hc => Nat.lt_of_lt_of_le (hlt c hc) bV.size)) hg
  have HQ0 : Hid (∀ V, Below V0.heap.size V0 V → Bx V W.heap.size F.vals) := fun V bV => q0.below bV
  have HBW : Hid (∀ V, Below V0.heap.size V0 V → Below W.heap.size W V) := fun V k => b0.trans (k.mono b0.size)
  obtain ⟨k, nm, mn, la, ln, lc, lk, na, nn, nc, nk, ka, kn, kc, kk, aa, an, ac, ak, hxe, -⟩ := core_open hf
  obtain ⟨T, hT⟩ : ∃ T, rdK F = T := ⟨_, rfl⟩
  rw [hT] at HC1 HC2 ⊢
  rw [hxe] at hV0 q0 HC1 HC2 HQ0 ⊢
  simp only [Fo.vals] at hV0 q0 HC1 HC2 HQ0 ⊢
  have c0 := q0.cel 0 _ rfl
  have c1 := q0.cel 1 _ rfl
  have c2 := q0.cel 2 _ rfl
  have c3 := q0.cel 3 _ rfl
  have c4 := q0.cel 4 _ rfl
  have c5 := q0.cel 5 _ rfl
  have c6 := q0.cel 6 _ rfl
  have HV0 := hide hV0
  clear hV0 b0 q0 hf hwt hs hxe hT hlt
  go_enter Try.func5, Try.ntmps5
  go_upto_region 1 with fail
  rw [HV0.out]
  clear HV0
  go_wp2_with fail
  refine HC1.out.mono ?_
  clear HC1 c0 c1 c2 c3 c4 c5 c6
  rintro e w1 ⟨cd, rfl, hcd, b1⟩
  have HB1 := hide b1
  by_cases h0 : cd = 0
  · have HOK : Hid (okC T) := hcd.1 h0
    subst h0
    have q1 := HQ0.out w1 b1
    have c0 := q1.cel 0 _ rfl
    have c1 := q1.cel 1 _ rfl
    have c2 := q1.cel 2 _ rfl
    have c3 := q1.cel 3 _ rfl
    have c4 := q1.cel 4 _ rfl
    have c5 := q1.cel 5 _ rfl
    have c6 := q1.cel 6 _ rfl
    have HC3 := hide (HC2.out w1 b1 HOK.out)
    clear hcd b1 q1 HC2
    go_wp2_with fail
    refine HC3.out.mono ?_
    rintro e w2 ⟨a, c, rfl, h1, h2⟩
    have HFR : Hid (FnP T W (.returned (.slice a (allN T).length c)) w2) := by
      have hb := HBW.out w1 HB1.out
      refine ⟨a, c, rfl, own_up h1 (fun g hg => ?_), hb.trans (h2.mono hb.size)⟩
      rcases h1.2 with ⟨h3, -⟩ | ⟨g', cap, cur, h3, h4, -⟩
      · rw [h3] at hg; cases hg
      · rw [h3] at hg
        have e2 : g' = g := Option.some.inj hg
        have := hb.size
        omega
    obtain ⟨n, hn⟩ : ∃ n, (allN T).length = n := ⟨_, rfl⟩
    rw [hn] at HFR ⊢
    clear HC3 h1 h2 hn
    go_wp2_with fail
    go_ret
    exact HFR.out
  · have h0' : (cd != 0) = true := by rw [bne_iff_ne]; exact h0
    have HNO : Hid (allN T = []) := by
      unfold Hid allN
      rw [if_neg (fun h => h0 (hcd.2 h))]
    have HFR : Hid (FnP T W (.returned (.slice (some ⟨w1.heap.size, 0, none⟩) 0 0)) (w1.alloc (.cells #[] 9))) := by
      have hb := HBW.out w1 HB1.out
      unfold Hid FnP
      rw [HNO.out]
      exact ⟨_, _, rfl, own_up (KW.empty w1).own (fun g e => by have e2 : w1.heap.size = g := Option.some.inj e; have := hb.size; omega), hb.trans ((below_alloc1 _ _).mono hb.size)⟩
    clear hcd b1 HC2
    go_wp2_with fail
    go_ret
    exact HFR.out

end Go.Proofs.Ytcnokpaicnjkfaa
