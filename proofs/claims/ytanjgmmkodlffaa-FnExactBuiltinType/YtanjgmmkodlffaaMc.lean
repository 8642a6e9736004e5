import Derived.Test.YtanjgmmkodlffaaMb
namespace Go.Proofs.Ytanjgmmkodlffaa.U
open Go.RowKit Go.Joins

theorem char_sub (V : World) (S : Nat → Prop) : (ty4 3 0 sChar none 0 0 .nil).Subs V S := ⟨⟨Nat.le_refl _, Nat.zero_le _, fun h => by simp [Fo.len] at h⟩, trivial⟩

theorem text_sub {S : Nat → Prop} {V : World} {g1 : Nat} (hg : S g1) (hx : Bx V g1 [.int .i64 3, .int .i64 0, .string sChar, .slice none 0 0]) : (ty4 3 0 sList (some ⟨g1, 0, none⟩) 1 1 (ty4 3 0 sChar none 0 0 .nil)).Subs V S :=
  ⟨⟨Nat.le_refl _, by unfold maxLen; omega, fun _ => ⟨g1, 0, rfl, hg, hx.cel_cells, char_sub V _⟩⟩, trivial⟩

theorem text_fit (g1 : Nat) : Fit E (ty4 3 0 sList (some ⟨g1, 0, none⟩) 1 1 (ty4 3 0 sChar none 0 0 .nil)) (E 1) := ⟨by decide, by decide, by decide, ⟨by decide, by decide, by decide, trivial, trivial⟩, trivial⟩

theorem want_text {z : Nat} {V : World} {g1 : Nat} (hg : z ≤ g1) (hx : Bx V g1 [.int .i64 3, .int .i64 0, .string sChar, .slice none 0 0]) : Want z V (some ⟨g1, 0, none⟩) 1 1 sList (ty4 3 0 sChar none 0 0 .nil) :=
  ⟨text_fit g1, text_sub ⟨hg, hx.lt⟩ hx, fun c hc j => by
    have e : c = g1 := by simpa [ty4, Fo.inn, Fo.len, blk] using hc
    subst e
    exact hx.live j⟩

theorem want_fun {z : Nat} {V : World} {g g1 : Nat} (hg : z ≤ g) (hx : Bx V g [.int .i64 3, .int .i64 0, .string sList, .slice (some ⟨g1, 0, none⟩) 1 1, .int .i64 3, .int .i64 0, .string sList, .slice (some ⟨g1, 0, none⟩) 1 1]) (hg1 : z ≤ g1) (hx1 : Bx V g1 [.int .i64 3, .int .i64 0, .string sChar, .slice none 0 0]) : Want z V (some ⟨g, 0, none⟩) 2 2 sArrow ((ty4 3 0 sList (some ⟨g1, 0, none⟩) 1 1 (ty4 3 0 sChar none 0 0 .nil)).app (ty4 3 0 sList (some ⟨g1, 0, none⟩) 1 1 (ty4 3 0 sChar none 0 0 .nil))) :=
  ⟨⟨by decide, by decide, by decide, (text_fit g1).app (text_fit g1), trivial⟩, ⟨⟨Nat.le_refl _, by unfold maxLen; omega, fun _ => ⟨g, 0, rfl, ⟨hg, hx.lt⟩, hx.cel_cells, (text_sub ⟨hg1, hx1.lt⟩ hx1).app (text_sub ⟨hg1, hx1.lt⟩ hx1)⟩⟩, trivial⟩, fun c hc j => by
    have e : c = g ∨ c = g1 ∨ c = g1 := by simpa [ty4, Fo.app, Fo.inn, Fo.len, blk] using hc
    rcases e with e | e | e
    · subst e; exact hx.live j
    · subst e; exact hx1.live j
    · subst e; exact hx1.live j⟩

theorem text_sim (a : Option Addr) (c : Nat) (a' : Option Addr) (c' : Nat) : (ty4 3 0 sList a 1 c (ty4 3 0 sChar a' 0 c' .nil)).sim textT := ⟨rfl, rfl, rfl, rfl, ⟨rfl, rfl, rfl, rfl, trivial, trivial⟩, trivial⟩

theorem fun_sim {A B : Fo} (hA : A.sim textT) (hB : B.sim textT) (a : Option Addr) (c : Nat) : (ty4 3 0 sArrow a 2 c (A.app B)).sim funT := ⟨rfl, rfl, rfl, rfl, hA.app hB, trivial⟩

set_option maxHeartbeats 4000000 in
set_option maxRecDepth 100000 in
/-- The program's MainKind. -/
theorem i_MainKind {lo : Nat} (F : Fo) (V : World) (hf : Fit E F [.i, .t, .s 2, .s 3]) (hwt : F.wt ≤ 1048576) (ho : Own lo V F) :
    Calls Try.prog 14 #[.agg F.vals.toArray] V fun e V' => e = .returned (.int .i64 (mainK F)) ∧ Below V.heap.size V V' := by
  obtain ⟨x0, F0, rfl, -, hf⟩ := fit_i hf
  obtain ⟨x1, F1, rfl, -, hf⟩ := fit_t hf
  obtain ⟨a, n, cap, T, F2, rfl, hT, hf⟩ := fit_s hf
  obtain ⟨a3, n3, c3, K3, F3, rfl, -, hf⟩ := fit_s hf
  obtain rfl := fit_nil hf
  show Calls Try.prog 14 #[.agg #[.int .i64 x0, .string x1, .slice a n cap, .slice a3 n3 c3]] V fun e V' => e = .returned (.int .i64 (mainT T)) ∧ Below V.heap.size V V'
  have hsT : T.Sub V (fun c => c < V.heap.size) a n cap := (ho.subs.mono (fun _ x => x.2)).1
  have hnd : T.inn.Nodup := by
    have h := ho.nodup
    simp only [Fo.inn, List.append_assoc] at h
    exact (List.nodup_append.1 (List.nodup_append.1 h).2.1).1
  have hlv : Live V T.inn := fun c hc => ho.live c (by simp [Fo.inn, hc])
  have hTl : ∀ c ∈ T.inn, c < V.heap.size := fun c hc => by
    have h1 : Fo.Subs V (fun c => c < V.heap.size) (.s a n cap T .nil) := ⟨hsT, trivial⟩
    exact h1.inn_of c (by simp [Fo.inn, hc])
  have hwT : T.wt ≤ 1048576 := by simp only [Fo.wt] at hwt; omega
  have HM : Hid (∀ (A : World) (wa : Option Addr) (wn wc : Nat) (wnm : ByteArray) (WK : Fo), Below V.heap.size V A → Want V.heap.size A wa wn wc wnm WK → Calls Try.prog 38 #[.agg #[.int .i64 x0, .string x1, .slice a n cap, .slice a3 n3 c3], .agg #[.int .i64 3, .int .i64 0, .string wnm, .slice wa wn wc]] A fun e W' => e = .returned (.bool (hasM (ty4 3 0 wnm wa wn wc WK) T)) ∧ Below A.heap.size A W') := fun A wa wn wc wnm WK hb hw =>
    i_hasMain x0 x1 a n cap a3 n3 c3 T V.heap.size wa wn wc wnm WK A hT hb.size hwT (hsT.below hb (fun _ x => x)) hnd (hlv.below hb hTl) hw
  have HS1 : Hid (∀ g1, hasM (ty4 3 0 sList (some ⟨g1, 0, none⟩) 1 1 (ty4 3 0 sChar none 0 0 .nil)) T = hasM textT T) := fun g1 => hasM_sim (text_sim _ _ _ _) _ (Nat.le_refl _) hT (Fo.sim.refl _)
  have HS2 : Hid (∀ g1 g, hasM (ty4 3 0 sArrow (some ⟨g, 0, none⟩) 2 2 ((ty4 3 0 sList (some ⟨g1, 0, none⟩) 1 1 (ty4 3 0 sChar none 0 0 .nil)).app (ty4 3 0 sList (some ⟨g1, 0, none⟩) 1 1 (ty4 3 0 sChar none 0 0 .nil)))) T = hasM funT T) := fun g1 g => hasM_sim (fun_sim (text_sim _ _ _ _) (text_sim _ _ _ _) _ _) _ (Nat.le_refl _) hT (Fo.sim.refl _)
  obtain ⟨V1, hV1⟩ : ∃ W, V.alloc (.cells #[.int .i64 x0, .string x1, .slice a n cap, .slice a3 n3 c3] 41) = W := ⟨_, rfl⟩
  have b1 : Below V.heap.size V V1 := by rw [← hV1]; exact below_alloc1 _ _
  have q1 : Bx V1 V.heap.size [.int .i64 x0, .string x1, .slice a n cap, .slice a3 n3 c3] := by rw [← hV1]; exact Bx.new _ _ _
  have z1 : V1.heap.size = V.heap.size + 1 := by rw [← hV1]; simp
  have HB1 := hide b1
  have HQ1 := hide q1
  have HZ1 := hide z1
  have HV1 := hide hV1
  clear hV1 b1 q1 z1 hf hT hsT hnd hlv hTl hwt hwT ho
  go_enter Try.func14, Try.ntmps14
  go_upto_region 1 with fail
  rw [HV1.out]
  clear HV1
  go_wp2_with fail
  refine (i_named sChar none 0 0 V1).mono ?_
  rintro e w1 ⟨rfl, b2⟩
  have HB2 := hide b2
  clear b2
  go_wp2_with fail
  refine (i_named sList (some ⟨w1.heap.size, 0, none⟩) 1 1 _).mono ?_
  rintro e w2 ⟨rfl, b3⟩
  have HB3 := hide b3
  clear b3
  obtain ⟨V3, hV3⟩ : ∃ W, w2.alloc (.cells #[.int .i64 3, .int .i64 0, .string sList, .slice (some ⟨w1.heap.size, 0, none⟩) 1 1] 25) = W := ⟨_, rfl⟩
  have k13 : Kept (fun _ => True) V1 V3 := by rw [← hV3]; exact (((kt HB2.out).trans (Kept.alloc _ _ _)).trans (kt HB3.out)).trans (Kept.alloc _ _ _)
  have qc : Bx V3 w1.heap.size [.int .i64 3, .int .i64 0, .string sChar, .slice none 0 0] := by
    rw [← hV3]
    exact ((Bx.new w1 [.int .i64 3, .int .i64 0, .string sChar, .slice none 0 0] 25).below HB3.out).kept (Kept.alloc (fun _ => True) _ _) trivial
  have q3 : Bx V3 w2.heap.size [.int .i64 3, .int .i64 0, .string sList, .slice (some ⟨w1.heap.size, 0, none⟩) 1 1] := by rw [← hV3]; exact Bx.new _ _ _
  have hg1 : V.heap.size ≤ w1.heap.size := by have := HB2.out.size; have := HZ1.out; omega
  have HK13 := hide k13
  have HQC := hide qc
  have HQ3 := hide q3
  have HG1 := hide hg1
  have HV3 := hide hV3
  have bV3 : Below V.heap.size V V3 := HB1.out.trans ((k13.below (n := V1.heap.size) (fun _ _ => trivial) (Nat.le_refl _)).mono HB1.out.size)
  have HBV := hide bV3
  have q1 := HQ1.out.kept k13 trivial
  have HQ1' := hide q1
  have y0 := q1.cel 0 _ rfl
  have y1 := q1.cel 1 _ rfl
  have y2 := q1.cel 2 _ rfl
  have y3 := q1.cel 3 _ rfl
  have t0 := q3.cel 0 _ rfl
  have t1 := q3.cel 1 _ rfl
  have t2 := q3.cel 2 _ rfl
  have t3 := q3.cel 3 _ rfl
  have HC := hide (HM.out V3 (some ⟨w1.heap.size, 0, none⟩) 1 1 sList (ty4 3 0 sChar none 0 0 .nil) bV3 (want_text hg1 qc))
  rw [show hasM (ty4 3 0 sList (some ⟨w1.heap.size, 0, none⟩) 1 1 (ty4 3 0 sChar none 0 0 .nil)) T = hasM textT T from HS1.out _] at HC
  clear hV3 k13 qc q3 hg1 bV3 q1
  go_upto_region 2 with fail
  rw [HV3.out]
  clear HV3
  go_wp2_with fail
  refine HC.out.mono ?_
  rintro e w4 ⟨rfl, b4⟩
  have HB4 := hide b4
  clear b4 HC
  obtain ⟨qq, hqq⟩ : ∃ qq, hasM textT T = qq := ⟨_, rfl⟩
  rw [hqq]
  have HQQ := hide hqq
  have HB14 : Hid (Below V.heap.size V w4) := HBV.out.trans (HB4.out.mono HBV.out.size)
  clear hqq y0 y1 y2 y3 t0 t1 t2 t3
  cases qq with
  | true =>
    have HA : Hid (mainT T = 1) := by unfold Hid mainT; rw [HQQ.out]; rfl
    go_wp2_with fail
    go_ret
    exact ⟨by rw [HA.out]; rfl, HB14.out⟩
  | false =>
    have HQ1w := hide (HQ1'.out.below HB4.out)
    have HQ3w := hide (HQ3.out.below HB4.out)
    have HQCw := hide (HQC.out.below HB4.out)
    have HKV : Hid (Kept (fun _ => True) V w4) := kt HB14.out
    have HC26 : Hid (∀ W, Kept (fun _ => True) w4 W → Bx W w4.heap.size [.int .i64 3, .int .i64 0, .string sList, .slice (some ⟨w1.heap.size, 0, none⟩) 1 1] → Calls Try.prog 26 #[.agg #[.int .i64 3, .int .i64 0, .string sList, .slice (some ⟨w1.heap.size, 0, none⟩) 1 1], .slice (some ⟨w4.heap.size, 0, none⟩) 1 1] W fun e w' => ∃ v, e = .returned v ∧ (∃ g, v = .agg #[.int .i64 3, .int .i64 0, .string sArrow, .slice (some ⟨g, 0, none⟩) 2 2] ∧ Kept (fun _ => True) w4 w' ∧ V.heap.size ≤ g ∧ Bx w' g [.int .i64 3, .int .i64 0, .string sList, .slice (some ⟨w1.heap.size, 0, none⟩) 1 1, .int .i64 3, .int .i64 0, .string sList, .slice (some ⟨w1.heap.size, 0, none⟩) 1 1])) := fun W kW hx => (i_fun1 3 0 sList (some ⟨w1.heap.size, 0, none⟩) 1 1 3 0 sList (some ⟨w1.heap.size, 0, none⟩) 1 1 w4.heap.size 0 W hx.lt hx.cel_cells).mono (fun e w' h => by
      obtain ⟨g, h1, h2, h3, h4⟩ := h
      have := HB14.out.size
      have := kW.size
      exact ⟨_, h1, g, rfl, kW.trans (kt h2), by omega, h4⟩)
    have HC38 : Hid (∀ (g : Nat) W, Kept (fun _ => True) w4 W → V.heap.size ≤ g → Bx W g [.int .i64 3, .int .i64 0, .string sList, .slice (some ⟨w1.heap.size, 0, none⟩) 1 1, .int .i64 3, .int .i64 0, .string sList, .slice (some ⟨w1.heap.size, 0, none⟩) 1 1] → Calls Try.prog 38 #[.agg #[.int .i64 x0, .string x1, .slice a n cap, .slice a3 n3 c3], .agg #[.int .i64 3, .int .i64 0, .string sArrow, .slice (some ⟨g, 0, none⟩) 2 2]] W fun e w' => ∃ v, e = .returned v ∧ (v = .bool (hasM funT T) ∧ Below V.heap.size V w')) := fun g W kW hg hx => by
      have bW : Below V.heap.size V W := (HKV.out.trans kW).below (fun _ _ => trivial) (Nat.le_refl _)
      have h := HM.out W (some ⟨g, 0, none⟩) 2 2 sArrow ((ty4 3 0 sList (some ⟨w1.heap.size, 0, none⟩) 1 1 (ty4 3 0 sChar none 0 0 .nil)).app (ty4 3 0 sList (some ⟨w1.heap.size, 0, none⟩) 1 1 (ty4 3 0 sChar none 0 0 .nil))) bW (want_fun hg hx HG1.out (HQCw.out.kept kW trivial))
      rw [HS2.out] at h
      exact h.mono (fun e w' h => ⟨_, h.1, rfl, bW.trans (h.2.mono bW.size)⟩)
    have HY : Hid (∀ W, Kept (fun _ => True) w4 W → (W.cell? ⟨V.heap.size, 0, none⟩ = some (.int .i64 x0) ∧ W.cell? ⟨V.heap.size, 1, none⟩ = some (.string x1) ∧ W.cell? ⟨V.heap.size, 2, none⟩ = some (.slice a n cap) ∧ W.cell? ⟨V.heap.size, 3, none⟩ = some (.slice a3 n3 c3)) ∧ W.cell? ⟨w2.heap.size, 0, none⟩ = some (.int .i64 3) ∧ W.cell? ⟨w2.heap.size, 1, none⟩ = some (.int .i64 0) ∧ W.cell? ⟨w2.heap.size, 2, none⟩ = some (.string sList) ∧ W.cell? ⟨w2.heap.size, 3, none⟩ = some (.slice (some ⟨w1.heap.size, 0, none⟩) 1 1)) := fun W kW => by
      have q := HQ1w.out.kept kW trivial
      have r := HQ3w.out.kept kW trivial
      exact ⟨⟨q.cel 0 _ rfl, q.cel 1 _ rfl, q.cel 2 _ rfl, q.cel 3 _ rfl⟩, r.cel 0 _ rfl, r.cel 1 _ rfl, r.cel 2 _ rfl, r.cel 3 _ rfl⟩
    obtain ⟨⟨y0, y1, y2, y3⟩, t0, t1, t2, t3⟩ := HY.out w4 (Kept.refl _ _)
    obtain ⟨⟨y0', y1', y2', y3'⟩, t0', t1', t2', t3'⟩ := HY.out (w4.alloc (.cells #[.int .i64 3, .int .i64 0, .string sList, .slice (some ⟨w1.heap.size, 0, none⟩) 1 1] 25)) (Kept.alloc _ _ _)
    go_upto_region 4 with fail
    go_cut [11] (fun s11 wx => s11 = .bool (hasM funT T) ∧ Below V.heap.size V wx)
    case first =>
      go_region_law (first
        | (refine step_call (by rfl) 26 #[.agg #[.int .i64 3, .int .i64 0, .string sList, .slice (some ⟨w1.heap.size, 0, none⟩) 1 1], .slice (some ⟨w4.heap.size, 0, none⟩) 1 1] (by simp [go_sem]) _ (HC26.out _ (by repeat (first | exact Kept.refl _ _ | refine Kept.trans ?_ (Kept.alloc _ _ _) | refine Kept.trans ?_ (Kept.drew _ _))) (by first | exact Bx.new _ _ _ | exact (Bx.new _ _ _).kept (Kept.drew (fun _ => True) _) trivial)) ?_; rintro v w5 ⟨g, rfl, k5, hg5, hx5⟩; have HK5 := hide k5; have HG5 := hide hg5; have HX5 := hide hx5; obtain ⟨⟨y0x, y1x, y2x, y3x⟩, -⟩ := HY.out w5 k5; clear k5 hg5 hx5)
        | (refine step_call (by rfl) 38 #[.agg #[.int .i64 x0, .string x1, .slice a n cap, .slice a3 n3 c3], .agg #[.int .i64 3, .int .i64 0, .string sArrow, .slice (some ⟨g, 0, none⟩) 2 2]] (by simp [go_sem]) _ (HC38.out _ _ HK5.out HG5.out HX5.out) ?_; rintro v w6 ⟨rfl, b6⟩; have HB6 := hide b6; clear b6))
      all_goals
        go_wp2_with fail
        go_meet
        case rel => exact ⟨rfl, HB6.out⟩
    case rest =>
      obtain ⟨rfl, hcb⟩ := hcut
      rename World => wx
      have HBx : Hid (Below V.heap.size V wx) := hcb
      obtain ⟨q2, hq2⟩ : ∃ q2, hasM funT T = q2 := ⟨_, rfl⟩
      rw [hq2]
      have HQ2 := hide hq2
      clear hq2 hcb HC26 HC38
      cases q2 with
      | true =>
        have HA : Hid (mainT T = 2) := by unfold Hid mainT; rw [HQQ.out, HQ2.out]; rfl
        go_wp2_with fail
        go_ret
        exact ⟨by rw [HA.out]; rfl, HBx.out⟩
      | false =>
        have HA : Hid (mainT T = 0) := by unfold Hid mainT; rw [HQQ.out, HQ2.out]; rfl
        go_wp2_with fail
        go_ret
        exact ⟨by rw [HA.out]; rfl, HBx.out⟩

end Go.Proofs.Ytanjgmmkodlffaa.U
