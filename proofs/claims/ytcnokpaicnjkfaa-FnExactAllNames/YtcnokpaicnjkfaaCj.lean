import Derived.Test.YtcnokpaicnjkfaaCi
namespace Go.Proofs.Ytcnokpaicnjkfaa
open Go.RowKit Go.Joins

/-- A term without fault. -/
def okC (t : Tm) : Prop := (t.cnt ≤ 20000 ∧ t.dep ≤ 1000) ∧ t.good

/-- What CoreFault answers: 0 of a term without fault alone. -/
def CfP (t : Tm) (W : World) (e : Ending) (W' : World) : Prop := ∃ c : Int, e = .returned (.int .i64 c) ∧ (c = 0 ↔ okC t) ∧ Below W.heap.size W W'

set_option maxHeartbeats 4000000 in
set_option maxRecDepth 100000 in
theorem m_fault (F : Fo) (W : World) (hf : Fit E F (E 3)) (hwt : F.wt ≤ 1048576) (hs : F.Subs W (fun c => c < W.heap.size)) :
    Calls Try.prog 17 #[.agg F.vals.toArray] W (CfP (rdK F) W) := by
  have hsz := siz_all F.size F W.heap.size
  have hsh := shps_all F.size F W.heap.size
  obtain ⟨q2, hq2⟩ := truth (rdK F).good
  obtain ⟨T, hT⟩ : ∃ T, rdK F = T := ⟨_, rfl⟩
  rw [hT] at hsz hsh hq2 ⊢
  obtain ⟨V0, hV0⟩ : ∃ V, W.alloc (.cells F.vals.toArray 36) = V := ⟨_, rfl⟩
  have b0 : Below W.heap.size W V0 := by rw [← hV0]; exact below_alloc1 _ _
  have z0 : V0.heap.size = W.heap.size + 1 := by rw [← hV0]; simp
  have q0 : Bx V0 W.heap.size F.vals := by rw [← hV0]; exact Bx.new _ _ _
  obtain ⟨V1, hV1⟩ : ∃ V, V0.alloc (.cells #[.int .i64 20000] 2) = V := ⟨_, rfl⟩
  have b1 : Below V0.heap.size V0 V1 := by
    rw [← hV1]
    exact below_alloc1 _ _
  have n1 : NumB V1 V0.heap.size 20000 := by
    rw [← hV1]
    exact ⟨by simp, by simp, by simp⟩
  have bW : Below W.heap.size W V1 := b0.trans (b1.mono b0.size)
  have HC1 := hide (hsz V1 1 20000 V0.heap.size (Nat.le_refl _) hf (by omega) hwt (hs.below bW (fun _ h => h)) n1 (by omega) (by omega) (by omega))
  have HC2 : Hid (∀ V, Below W.heap.size W V → Calls Try.prog 41 #[.agg F.vals.toArray] V fun e W' => e = .returned (.bool q2) ∧ Below V.heap.size V W') := fun V bV => hsh V q2 (Nat.le_refl _) hf bV.size hwt (hs.below bV (fun _ h => h)) hq2
  have HE := hide (Tm.sz_eq T 1 20000 (by omega) (by omega))
  have HQ2 := hide hq2
  have HQ0 : Hid (∀ V, Kept (fun c => c ≠ V0.heap.size) V1 V → Bx V W.heap.size F.vals) := fun V k => (q0.below b1).kept k (by show W.heap.size ≠ _; omega)
  have HBW : Hid (∀ V, Kept (fun c => c ≠ V0.heap.size) V1 V → Below W.heap.size W V) := fun V k => Below.kept bW k (fun c hc => by show c ≠ _; omega) (Nat.le_refl _)
  obtain ⟨k, nm, mn, la, ln, lc, lk, na, nn, nc, nk, ka, kn, kc, kk, aa, an, ac, ak, rfl, -⟩ := core_open hf
  simp only [Fo.vals] at HC1 HC2 HQ0 hV0 ⊢
  have HV0 := hide hV0
  have HV1 := hide hV1
  have HC : Hid (∀ V, Kept (fun c => c ≠ V0.heap.size) V1 V → V.cell? ⟨W.heap.size, 0, none⟩ = some (.int .i64 k) ∧ V.cell? ⟨W.heap.size, 1, none⟩ = some (.string nm) ∧ V.cell? ⟨W.heap.size, 2, none⟩ = some (.bool mn) ∧ V.cell? ⟨W.heap.size, 3, none⟩ = some (.slice la ln lc) ∧ V.cell? ⟨W.heap.size, 4, none⟩ = some (.slice na nn nc) ∧ V.cell? ⟨W.heap.size, 5, none⟩ = some (.slice ka kn kc) ∧ V.cell? ⟨W.heap.size, 6, none⟩ = some (.slice aa an ac)) := fun V k =>
    have h := HQ0.out V k
    ⟨h.cel 0 _ rfl, h.cel 1 _ rfl, h.cel 2 _ rfl, h.cel 3 _ rfl, h.cel 4 _ rfl, h.cel 5 _ rfl, h.cel 6 _ rfl⟩
  obtain ⟨c0, c1, c2, c3, c4, c5, c6⟩ := HC.out V1 (Kept.refl _ _)
  clear hsz hsh hf hwt hs hV0 hV1 b0 b1 n1 bW q0 z0 hq2 hT HQ0
  go_enter Try.func17, Try.ntmps17
  go_upto_region 1 with fail
  rw [HV0.out]
  go_upto_region 2 with fail
  rw [HV1.out]
  clear HV0 HV1
  go_wp2_with fail
  refine HC1.out.mono ?_
  clear HC1 c0 c1 c2 c3 c4 c5 c6
  rintro e w1 ⟨q, rfl, hqt, hqf, k1⟩
  have HK1 := hide k1
  cases q with
  | false =>
    have HF : Hid ((1 : Int) = 0 ↔ okC T) := by
      have h1 := hqf rfl
      rw [HE.out] at h1
      refine ⟨fun h => by omega, fun h => ?_⟩
      rw [if_pos ⟨by have := h.1; omega, by have := h.1; omega⟩] at h1
      cases h1
    clear hqt hqf k1
    go_wp2_with fail
    go_ret
    exact ⟨1, rfl, HF.out, HBW.out w1 HK1.out⟩
  | true =>
    have HG : Hid (T.cnt ≤ 20000 ∧ T.dep ≤ 1000) := by
      obtain ⟨L', h1, -⟩ := hqt rfl
      rw [HE.out] at h1
      by_cases g : (T.cnt : Int) ≤ 20000 ∧ 1 + T.dep ≤ 1001
      · exact ⟨by omega, by omega⟩
      · rw [if_neg g] at h1; cases h1
    obtain ⟨c0, c1, c2, c3, c4, c5, c6⟩ := HC.out w1 HK1.out
    have HC3 := hide (HC2.out w1 (HBW.out w1 HK1.out))
    clear hqt hqf k1 HC2 HE
    go_wp2_with fail
    refine HC3.out.mono ?_
    clear HC3 c0 c1 c2 c3 c4 c5 c6
    rintro e w2 ⟨rfl, b2⟩
    have HB2 : Hid (Below W.heap.size W w2) := (HBW.out w1 HK1.out).trans (b2.mono (HBW.out w1 HK1.out).size)
    cases q2 with
    | false =>
      have HF : Hid ((2 : Int) = 0 ↔ okC T) := ⟨fun h => by omega, fun h => absurd (HQ2.out.2 h.2) (by simp)⟩
      clear b2
      go_wp2_with fail
      go_ret
      exact ⟨2, rfl, HF.out, HB2.out⟩
    | true =>
      have HF : Hid (okC T) := ⟨HG.out, HQ2.out.1 rfl⟩
      clear b2
      go_wp2_with fail
      go_ret
      exact ⟨0, rfl, ⟨fun _ => HF.out, fun _ => rfl⟩, HB2.out⟩

end Go.Proofs.Ytcnokpaicnjkfaa
