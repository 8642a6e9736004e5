import Derived.Test.YtcnbnhoeobdbnaaWl
namespace Go.Proofs.Ytcnbnhoeobdbnaa
open Go.RowKit Go.Joins

/-- The greatest place of a row, if it is more than m. -/
def Fo.mst : Fo → Int → Int
  | .nil, m => m
  | .cons k ix _ _ _ ks r, m => r.mst (if ks.mst (if k = 2 then ix else -1) > m then ks.mst (if k = 2 then ix else -1) else m)

/-- All places are less than C. -/
def Fo.pls (C : Int) : Fo → Prop
  | .nil => True
  | .cons k ix _ _ _ ks r => (k = 2 → ix < C) ∧ ks.pls C ∧ r.pls C

theorem Fo.mst_lt {C : Int} (hC : 0 ≤ C) : ∀ (F : Fo) (m : Int), F.mst m < C ↔ m < C ∧ F.pls C
  | .nil, m => by simp [Fo.mst, Fo.pls]
  | .cons k ix nm a cap ks r, m => by
    have h1 := Fo.mst_lt hC ks (if k = 2 then ix else -1)
    rw [Fo.mst, Fo.mst_lt hC r]
    simp only [Fo.pls]
    have h2 : (if k = 2 then ix else -1) < C ↔ (k = 2 → ix < C) := by
      by_cases hk : k = 2
      · simp [hk]
      · simp only [if_neg hk]
        exact ⟨fun _ h => absurd h hk, fun _ => by omega⟩
    rw [h2] at h1
    by_cases hm : ks.mst (if k = 2 then ix else -1) > m
    · rw [if_pos hm, h1]
      constructor
      · rintro ⟨⟨a1, a2⟩, a3⟩
        exact ⟨by have := h1.2 ⟨a1, a2⟩; omega, a1, a2, a3⟩
      · rintro ⟨_, a1, a2, a3⟩
        exact ⟨⟨a1, a2⟩, a3⟩
    · rw [if_neg hm]
      constructor
      · rintro ⟨a0, a3⟩
        obtain ⟨a1, a2⟩ := h1.1 (by omega)
        exact ⟨a0, a1, a2, a3⟩
      · rintro ⟨a0, _, _, a3⟩
        exact ⟨a0, a3⟩

set_option maxHeartbeats 2000000 in
set_option maxRecDepth 100000 in
theorem most_node : ∀ (m : Nat) (ks : Fo), ks.size < m → ∀ (k ix : Int) (nm : ByteArray) (n0 : Nat) (W : World) (a : Option Addr) (cap : Nat), n0 ≤ W.heap.size → ks.Sl W (fun b => b < n0) a cap →
    Calls Try.prog 73 #[nodeV k ix nm a ks.len cap] W fun e W' => e = .returned (.int .i64 (ks.mst (if k = 2 then ix else -1))) ∧ Below W.heap.size W W' := by
  intro m
  induction m with
  | zero => intro F hF; omega
  | succ m ih =>
    intro ks hF k ix nm n0 W a cap hn hs
    have hmx : ks.len ≤ 9223372036854775807 := by have h2 := hs.1; have h3 := hs.2.1; simp only [maxLen] at h3; omega
    unfold nodeV
    have q0 := Box4.new W (.int .i64 k) (.int .i64 ix) (.string nm) (.slice a ks.len cap) 29
    have b0 := below_alloc1 W (.cells #[.int .i64 k, .int .i64 ix, .string nm, .slice a ks.len cap] 29)
    have hs0 := hs.below b0 (fun b x => by omega)
    obtain ⟨M0, hM0⟩ : ∃ M0, (if k = 2 then ix else -1) = M0 := ⟨_, rfl⟩
    rw [hM0]
    have HM := hide hM0
    have HIH := hide ih
    have HQ := hide q0
    have HB := hide b0
    have HS := hide hs0
    clear ih q0 b0 hs0 hs hM0
    have key : ∀ s3 : Int, s3 = M0 → True := fun _ _ => trivial
    clear key
    by_cases hk : k = 2
    · have hkb : (k == 2) = true := by simp [hk]
      have e0 : ix = M0 := by have := HM.out; rw [if_pos hk] at this; exact this
      subst e0
      clear hk HM
      go_enter Try.func73, Try.ntmps73
      go_wp2_with fail
      generalize W.alloc (.cells #[.int .i64 k, .int .i64 ix, .string nm, .slice a ks.len cap] 29) = W0 at *
      go_loopw [3, 4] (fun s3 s4 wr => ∃ (i : Nat) (r : Fo) (M : Int), s3 = .int .i64 M ∧ s4 = .int .i64 i ∧ r.len + i = ks.len ∧ r.size ≤ ks.size ∧ Hid (r.mst M = ks.mst ix) ∧ Hid (0 < r.len → ∃ b o, a = some ⟨b, o, none⟩ ∧ b < n0 ∧ r.Row wr (fun b => b < n0) b (o + i * 4)) ∧ Hid (Box4 wr W.heap.size (.int .i64 k) (.int .i64 ix) (.string nm) (.slice a ks.len cap)) ∧ Hid (Below W.heap.size W wr)) (fun _ s4 _ => ks.len - (intOf s4).toNat)
      case atStart => exact ⟨0, ks, ix, rfl, rfl, rfl, Nat.le_refl _, rfl, HS.out.2.2, HQ.out, HB.out⟩
      case round =>
        obtain ⟨i, r, M, rfl, rfl, hri, hrs, HF, HR, HQ1, HB1⟩ := hrel
        obtain ⟨-, d0, di, d1, d2, -, -, -, -⟩ := HQ1.out
        cases r with
        | nil =>
          simp only [Fo.len] at hri
          have hlt' : ¬ (i : Int) < ks.len := by omega
          go_wp2_with fail
          go_ret
          have h1 := HF.out
          simp only [Fo.mst] at h1
          exact ⟨by rw [← h1]; rfl, HB1.out⟩
        | cons k' ix' nm' ka kcap ks' r =>
          simp only [Fo.len, Fo.size] at hri hrs
          obtain ⟨b, o, rfl, hb, hk', hix', hnm', c1, ci, c2, c3, h4, h5, h6, h7⟩ := HR.out (by simp [Fo.len])
          have hlt' : (i : Int) < ks.len := by omega
          have hzr := HB1.out.size
          have hql := HQ1.out.lt
          have HC := hide (HIH.out ks' (by omega) k' ix' nm' n0 wr ka kcap (by omega) ⟨h4, h5, h6⟩)
          unfold nodeV at HC
          have H7 := hide h7
          have HF' : Hid (r.mst (if ks'.mst (if k' = 2 then ix' else -1) > M then ks'.mst (if k' = 2 then ix' else -1) else M) = ks.mst ix) := HF.out
          generalize ks'.mst (if k' = 2 then ix' else -1) = Z at HC HF'
          clear h4 h5 h6 h7 hk' hix' hnm' HF HR
          by_cases hZ : M < Z
          · have HF2 : Hid (r.mst Z = ks.mst ix) := by have := HF'.out; rwa [if_pos (show Z > M from hZ)] at this
            go_wp2_with fail
            refine HC.out.mono ?_
            rintro e w1 ⟨rfl, b1⟩
            have HB2 := hide (HB1.out.trans (b1.mono hzr))
            have HQ2 := hide (HQ1.out.below b1 hql)
            have HR2 : Hid (r.Row w1 (fun b => b < n0) b (o + (i + 1) * 4)) := by
              have e : o + (i + 1) * 4 = o + i * 4 + 4 := by omega
              unfold Hid
              rw [e]
              exact H7.out.below b1 (fun b x => by omega) (by omega)
            clear b1
            go_wp2_with fail
            go_roundw
            case rel => exact ⟨i + 1, r, Z, rfl, by go_num, by omega, by omega, HF2, fun _ => ⟨b, o, rfl, hb, HR2.out⟩, HQ2, HB2⟩
            case measure => simp [intOf]; omega
          · have HF2 : Hid (r.mst M = ks.mst ix) := by have := HF'.out; rwa [if_neg (show ¬ Z > M from hZ)] at this
            go_wp2_with fail
            refine HC.out.mono ?_
            rintro e w1 ⟨rfl, b1⟩
            have HB2 := hide (HB1.out.trans (b1.mono hzr))
            have HQ2 := hide (HQ1.out.below b1 hql)
            have HR2 : Hid (r.Row w1 (fun b => b < n0) b (o + (i + 1) * 4)) := by
              have e : o + (i + 1) * 4 = o + i * 4 + 4 := by omega
              unfold Hid
              rw [e]
              exact H7.out.below b1 (fun b x => by omega) (by omega)
            clear b1
            go_wp2_with fail
            go_roundw
            case rel => exact ⟨i + 1, r, M, rfl, by go_num, by omega, by omega, HF2, fun _ => ⟨b, o, rfl, hb, HR2.out⟩, HQ2, HB2⟩
            case measure => simp [intOf]; omega
    · have hkb : (k == 2) = false := by simpa using hk
      have e0 : (-1 : Int) = M0 := by have := HM.out; rw [if_neg hk] at this; exact this
      subst e0
      clear hk HM
      go_enter Try.func73, Try.ntmps73
      go_wp2_with fail
      generalize W.alloc (.cells #[.int .i64 k, .int .i64 ix, .string nm, .slice a ks.len cap] 29) = W0 at *
      go_loopw [3, 4] (fun s3 s4 wr => ∃ (i : Nat) (r : Fo) (M : Int), s3 = .int .i64 M ∧ s4 = .int .i64 i ∧ r.len + i = ks.len ∧ r.size ≤ ks.size ∧ Hid (r.mst M = ks.mst (-1)) ∧ Hid (0 < r.len → ∃ b o, a = some ⟨b, o, none⟩ ∧ b < n0 ∧ r.Row wr (fun b => b < n0) b (o + i * 4)) ∧ Hid (Box4 wr W.heap.size (.int .i64 k) (.int .i64 ix) (.string nm) (.slice a ks.len cap)) ∧ Hid (Below W.heap.size W wr)) (fun _ s4 _ => ks.len - (intOf s4).toNat)
      case atStart => exact ⟨0, ks, -1, rfl, rfl, rfl, Nat.le_refl _, rfl, HS.out.2.2, HQ.out, HB.out⟩
      case round =>
        obtain ⟨i, r, M, rfl, rfl, hri, hrs, HF, HR, HQ1, HB1⟩ := hrel
        obtain ⟨-, d0, di, d1, d2, -, -, -, -⟩ := HQ1.out
        cases r with
        | nil =>
          simp only [Fo.len] at hri
          have hlt' : ¬ (i : Int) < ks.len := by omega
          go_wp2_with fail
          go_ret
          have h1 := HF.out
          simp only [Fo.mst] at h1
          exact ⟨by rw [← h1]; rfl, HB1.out⟩
        | cons k' ix' nm' ka kcap ks' r =>
          simp only [Fo.len, Fo.size] at hri hrs
          obtain ⟨b, o, rfl, hb, hk', hix', hnm', c1, ci, c2, c3, h4, h5, h6, h7⟩ := HR.out (by simp [Fo.len])
          have hlt' : (i : Int) < ks.len := by omega
          have hzr := HB1.out.size
          have hql := HQ1.out.lt
          have HC := hide (HIH.out ks' (by omega) k' ix' nm' n0 wr ka kcap (by omega) ⟨h4, h5, h6⟩)
          unfold nodeV at HC
          have H7 := hide h7
          have HF' : Hid (r.mst (if ks'.mst (if k' = 2 then ix' else -1) > M then ks'.mst (if k' = 2 then ix' else -1) else M) = ks.mst (-1)) := HF.out
          generalize ks'.mst (if k' = 2 then ix' else -1) = Z at HC HF'
          clear h4 h5 h6 h7 hk' hix' hnm' HF HR
          by_cases hZ : M < Z
          · have HF2 : Hid (r.mst Z = ks.mst (-1)) := by have := HF'.out; rwa [if_pos (show Z > M from hZ)] at this
            go_wp2_with fail
            refine HC.out.mono ?_
            rintro e w1 ⟨rfl, b1⟩
            have HB2 := hide (HB1.out.trans (b1.mono hzr))
            have HQ2 := hide (HQ1.out.below b1 hql)
            have HR2 : Hid (r.Row w1 (fun b => b < n0) b (o + (i + 1) * 4)) := by
              have e : o + (i + 1) * 4 = o + i * 4 + 4 := by omega
              unfold Hid
              rw [e]
              exact H7.out.below b1 (fun b x => by omega) (by omega)
            clear b1
            go_wp2_with fail
            go_roundw
            case rel => exact ⟨i + 1, r, Z, rfl, by go_num, by omega, by omega, HF2, fun _ => ⟨b, o, rfl, hb, HR2.out⟩, HQ2, HB2⟩
            case measure => simp [intOf]; omega
          · have HF2 : Hid (r.mst M = ks.mst (-1)) := by have := HF'.out; rwa [if_neg (show ¬ Z > M from hZ)] at this
            go_wp2_with fail
            refine HC.out.mono ?_
            rintro e w1 ⟨rfl, b1⟩
            have HB2 := hide (HB1.out.trans (b1.mono hzr))
            have HQ2 := hide (HQ1.out.below b1 hql)
            have HR2 : Hid (r.Row w1 (fun b => b < n0) b (o + (i + 1) * 4)) := by
              have e : o + (i + 1) * 4 = o + i * 4 + 4 := by omega
              unfold Hid
              rw [e]
              exact H7.out.below b1 (fun b x => by omega) (by omega)
            clear b1
            go_wp2_with fail
            go_roundw
            case rel => exact ⟨i + 1, r, M, rfl, by go_num, by omega, by omega, HF2, fun _ => ⟨b, o, rfl, hb, HR2.out⟩, HQ2, HB2⟩
            case measure => simp [intOf]; omega

end Go.Proofs.Ytcnbnhoeobdbnaa
