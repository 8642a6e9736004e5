import Derived.Test.YtanjgmmkodlffaaBc
import Derived.Deep.RegionLaw
namespace Go.Proofs.Ytanjgmmkodlffaa.U
open Go.RowKit Go.Joins

theorem base_sim {k ix : Int} {nm : ByteArray} {a : Option Addr} {c : Nat} : (ty4 k ix nm a 0 c .nil).sim (ty4 k ix nm none 0 0 .nil) := ⟨rfl, rfl, rfl, rfl, trivial, trivial⟩
theorem fun_sim2 {A B X Y : Fo} (hA : A.sim X) (hB : B.sim Y) (a : Option Addr) (c : Nat) : (ty4 3 0 sArrow a 2 c (A.app B)).sim (tF X Y) := ⟨rfl, rfl, rfl, rfl, hA.app hB, trivial⟩
theorem list_sim2 {A X : Fo} (hA : A.sim X) (a : Option Addr) (c : Nat) : (ty4 3 0 sList a 1 c A).sim (tL X) := ⟨rfl, rfl, rfl, rfl, hA, trivial⟩

theorem fin7 {V VP V4 wn V7 : World} {nm : ByteArray} {p : Option Addr} {q : Nat} {K : Fo} (q2 : Bx VP V.heap.size [.int .i64 0, .slice none 0 0, .int .i64 0, .int .i64 0, .string ⟨#[]⟩, .slice none 0 0]) (q7 : Bx VP V4.heap.size [.int .i64 0, .int .i64 0, .string ⟨#[]⟩, .slice none 0 0]) (hz : V.heap.size < V4.heap.size ∧ V4.heap.size < VP.heap.size) (kp : Kept (fun _ => True) V VP) (k : Kept (fun _ => True) VP wn) (hs : (ty4 3 0 nm p 2 q K).Subs wn (fun c => VP.heap.size ≤ c ∧ c < wn.heap.size)) (cnt : Int)
    (h7 : (((wn.setCell ⟨V4.heap.size, 0, none⟩ (.int .i64 3)).setCell ⟨V4.heap.size, 1, none⟩ (.int .i64 0)).setCell ⟨V4.heap.size, 2, none⟩ (.string nm)).setCell ⟨V4.heap.size, 3, none⟩ (.slice p 2 q) = V7) :
    Bx V7 V.heap.size [.int .i64 0, .slice none 0 0, .int .i64 0, .int .i64 0, .string ⟨#[]⟩, .slice none 0 0] ∧ Bx V7 V4.heap.size [.int .i64 3, .int .i64 0, .string nm, .slice p 2 q] ∧ ∀ W, Kept (fun c => c ≠ V.heap.size) V7 W → Below V.heap.size V W ∧ (sch cnt (ty4 3 0 nm p 2 q K)).Subs W (fun c => c < W.heap.size) := by
  have k7 : Kept (fun c => c ≠ V4.heap.size) wn V7 := by
    rw [← h7]
    exact ((((Kept.refl _ _).set (by simp)).set (by simp)).set (by simp)).set (by simp)
  have zk := k.size
  refine ⟨(q2.kept k trivial).kept k7 (by omega), ?_, fun W kW => ⟨?_, ?_⟩⟩
  · rw [← h7]
    exact ((((q7.kept k trivial).put 0 (.int .i64 3) (by simp)).put 1 (.int .i64 0) (by simp)).put 2 (.string nm) (by simp)).put 3 (.slice p 2 q) (by simp)
  · have h1 : Below V.heap.size V wn := (kp.trans k).below (fun _ _ => trivial) (Nat.le_refl _)
    exact Below.kept (Below.kept h1 k7 (fun c hc => by omega) (Nat.le_refl _)) kW (fun c hc => by omega) (Nat.le_refl _)
  · have z7 := k7.size
    have zW := kW.size
    refine ⟨⟨Nat.le_refl _, Nat.zero_le _, fun hl => by simp [Fo.len] at hl⟩, ?_⟩
    exact ((hs.kept k7 (fun c hc => ⟨by omega, hc.2⟩)).kept kW (fun c hc => ⟨by omega, by omega⟩)).mono (fun c hc => by omega)

set_option maxHeartbeats 16000000 in
set_option maxRecDepth 100000 in
theorem m_bt (s : ByteArray) (AN : Fo) (hBT : BT s AN) (V : World) : Calls Try.prog 6 #[.string s] V fun e V' => ∃ R : Fo, e = .returned (.agg R.vals.toArray) ∧ R.sim AN ∧ Below V.heap.size V V' ∧ R.Subs V' (fun c => c < V'.heap.size) := by
  obtain ⟨V0, hV0⟩ : ∃ W, V.alloc (.cells #[.int .i64 0, .slice none 0 0, .int .i64 0, .int .i64 0, .string ⟨#[]⟩, .slice none 0 0] 27) = W := ⟨_, rfl⟩
  have k0 : Kept (fun _ => True) V V0 := by rw [← hV0]; exact Kept.alloc _ _ _
  have q2 : Bx V0 V.heap.size [.int .i64 0, .slice none 0 0, .int .i64 0, .int .i64 0, .string ⟨#[]⟩, .slice none 0 0] := by rw [← hV0]; exact Bx.new _ _ _
  have HK0' := hide k0
  have HQ2' := hide q2
  have HV0 := hide hV0
  clear hV0 k0 q2
  go_enter Try.func6, Try.ntmps6
  go_upto_region 1 with fail
  rw [HV0.out]
  clear HV0
  go_wp2_with fail
  refine (m_base sInt V0).mono ?_
  rintro e w1 ⟨ai, ci, rfl, bb, ss⟩
  obtain ⟨V1, hV1⟩ : ∃ W, w1.alloc (.cells #[.int .i64 3, .int .i64 0, .string sInt, .slice ai 0 ci] 25) = W := ⟨_, rfl⟩
  have k1 : Kept (fun _ => True) V0 V1 := by rw [← hV1]; exact (kt bb).trans (Kept.alloc _ _ _)
  have q1 : Bx V1 w1.heap.size [.int .i64 3, .int .i64 0, .string sInt, .slice ai 0 ci] := by rw [← hV1]; exact Bx.new _ _ _
  have hz1 : V0.heap.size ≤ w1.heap.size ∧ V1.heap.size = w1.heap.size + 1 := ⟨bb.size, by rw [← hV1]; simp⟩
  have HK1' := hide k1
  have HI' := hide q1
  have HZ1' := hide hz1
  have HSI := hide ss
  have HV1 := hide hV1
  clear hV1 k1 q1 hz1 bb ss
  go_upto_region 2 with fail
  rw [HV1.out]
  clear HV1
  go_wp2_with fail
  refine (m_base sChar V1).mono ?_
  rintro e w2 ⟨ac, cc, rfl, bb, ss⟩
  obtain ⟨V2, hV2⟩ : ∃ W, w2.alloc (.cells #[.int .i64 3, .int .i64 0, .string sChar, .slice ac 0 cc] 25) = W := ⟨_, rfl⟩
  have k2 : Kept (fun _ => True) V1 V2 := by rw [← hV2]; exact (kt bb).trans (Kept.alloc _ _ _)
  have q2 : Bx V2 w2.heap.size [.int .i64 3, .int .i64 0, .string sChar, .slice ac 0 cc] := by rw [← hV2]; exact Bx.new _ _ _
  have hz2 : V1.heap.size ≤ w2.heap.size ∧ V2.heap.size = w2.heap.size + 1 := ⟨bb.size, by rw [← hV2]; simp⟩
  have HK2' := hide k2
  have HC' := hide q2
  have HZ2' := hide hz2
  have HSC := hide ss
  have HV2 := hide hV2
  clear hV2 k2 q2 hz2 bb ss
  go_upto_region 3 with fail
  rw [HV2.out]
  clear HV2
  go_wp2_with fail
  refine (m_base sBool V2).mono ?_
  rintro e w3 ⟨ab, cb, rfl, bb, ss⟩
  obtain ⟨V3, hV3⟩ : ∃ W, w3.alloc (.cells #[.int .i64 3, .int .i64 0, .string sBool, .slice ab 0 cb] 25) = W := ⟨_, rfl⟩
  have k3 : Kept (fun _ => True) V2 V3 := by rw [← hV3]; exact (kt bb).trans (Kept.alloc _ _ _)
  have q3 : Bx V3 w3.heap.size [.int .i64 3, .int .i64 0, .string sBool, .slice ab 0 cb] := by rw [← hV3]; exact Bx.new _ _ _
  have hz3 : V2.heap.size ≤ w3.heap.size ∧ V3.heap.size = w3.heap.size + 1 := ⟨bb.size, by rw [← hV3]; simp⟩
  have HK3' := hide k3
  have HB' := hide q3
  have HZ3' := hide hz3
  have HSB := hide ss
  have HV3 := hide hV3
  clear hV3 k3 q3 hz3 bb ss
  go_upto_region 4 with fail
  rw [HV3.out]
  clear HV3
  go_wp2_with fail
  refine (m_gen 0 V3).mono ?_
  rintro e w4 ⟨rfl, bb⟩
  obtain ⟨V4, hV4⟩ : ∃ W, w4.alloc (.cells #[.int .i64 2, .int .i64 0, .string ⟨#[]⟩, .slice none 0 0] 25) = W := ⟨_, rfl⟩
  have k4 : Kept (fun _ => True) V3 V4 := by rw [← hV4]; exact (kt bb).trans (Kept.alloc _ _ _)
  have q4 : Bx V4 w4.heap.size [.int .i64 2, .int .i64 0, .string ⟨#[]⟩, .slice none 0 0] := by rw [← hV4]; exact Bx.new _ _ _
  have hz4 : V3.heap.size ≤ w4.heap.size ∧ V4.heap.size = w4.heap.size + 1 := ⟨bb.size, by rw [← hV4]; simp⟩
  have HK4' := hide k4
  have HG' := hide q4
  have HZ4' := hide hz4
  have HV4 := hide hV4
  clear hV4 k4 q4 hz4 bb
  go_upto_region 5 with fail
  rw [HV4.out]
  clear HV4
  obtain ⟨VP, hVP⟩ : ∃ W, V4.alloc (.cells #[.int .i64 0, .int .i64 0, .string ⟨#[]⟩, .slice none 0 0] 25) = W := ⟨_, rfl⟩
  have kP : Kept (fun _ => True) V4 VP := by rw [← hVP]; exact Kept.alloc _ _ _
  have HQ7 : Hid (Bx VP V4.heap.size [.int .i64 0, .int .i64 0, .string ⟨#[]⟩, .slice none 0 0]) := by unfold Hid; rw [← hVP]; exact Bx.new _ _ _
  have zP : VP.heap.size = V4.heap.size + 1 := by rw [← hVP]; simp
  have HKP : Hid (Kept (fun _ => True) V VP) := ((((HK0'.out.trans HK1'.out).trans HK2'.out).trans HK3'.out).trans HK4'.out).trans kP
  have HQ2 : Hid (Bx VP V.heap.size [.int .i64 0, .slice none 0 0, .int .i64 0, .int .i64 0, .string ⟨#[]⟩, .slice none 0 0]) := HQ2'.out.kept ((((HK1'.out.trans HK2'.out).trans HK3'.out).trans HK4'.out).trans kP) trivial
  have HQI := hide (HI'.out.kept (((HK2'.out.trans HK3'.out).trans HK4'.out).trans kP) trivial)
  have HQC := hide (HC'.out.kept ((HK3'.out.trans HK4'.out).trans kP) trivial)
  have HQB := hide (HB'.out.kept (HK4'.out.trans kP) trivial)
  have HQG := hide (HG'.out.kept kP trivial)
  have HZZ : Hid (V.heap.size < V4.heap.size ∧ V4.heap.size < VP.heap.size) := by
    have h0 := HK0'.out.size
    have h1 := HZ1'.out
    have h2 := HZ2'.out
    have h3 := HZ3'.out
    have h4 := HZ4'.out
    unfold Hid
    omega
  have HVP := hide hVP
  clear hVP kP zP HK0' HK1' HK2' HK3' HK4' HI' HC' HB' HG' HQ2' HZ1' HZ2' HZ3' HZ4'
  go_upto_region 7 with fail
  rw [HVP.out]
  clear HVP
  unfold BT at hBT
  rcases hBT with ⟨hs, rfl⟩ | ⟨hs, rfl⟩ | ⟨hs, rfl⟩ | ⟨hs, rfl⟩ | ⟨hs, rfl⟩ | ⟨hs, rfl⟩ | ⟨hs, rfl⟩ | ⟨hs, rfl⟩ | ⟨hs, rfl⟩ | ⟨hs, rfl⟩ | ⟨hs, rfl⟩ | ⟨hs, rfl⟩ | ⟨hs, rfl⟩ | ⟨hs, rfl⟩ | ⟨hs, rfl⟩
  · subst hs
    have kI := HQI.out
    have kI0 := kI.cel 0 _ rfl
    have kI1 := kI.cel 1 _ rfl
    have kI2 := kI.cel 2 _ rfl
    have kI3 := kI.cel 3 _ rfl
    go_upto_region 14 with fail
    go_region_law (first
      | (refine step_call (by rfl) 23 #[.agg #[.int .i64 3, .int .i64 0, .string sInt, .slice ai 0 ci], .agg #[.int .i64 3, .int .i64 0, .string sArrow, .slice p0 2 q0]] (by simp [go_sem]) _ (m_fun' VP.heap.size 3 0 sInt ai 0 ci .nil 3 0 sArrow p0 2 q0 ((ty4 3 0 sInt ai 0 ci .nil).app (ty4 3 0 sInt ai 0 ci .nil)) _ HK0.out.size (sub0 HSI.out) HS0_0.out) ?_; rintro v v1 ⟨p1, q1, rfl, bb, ss⟩; have HK1 : Hid (Kept (fun _ => True) VP v1) := HK0.out.trans (kt bb); have HS1_1 := hide ss; have q7 := HQ7.out.kept HK1.out trivial; have m0 := q7.cel 0 _ rfl; have l0 := q7.live 0; have m1 := q7.cel 1 _ rfl; have l1 := q7.live 1; have m2 := q7.cel 2 _ rfl; have l2 := q7.live 2; have m3 := q7.cel 3 _ rfl; have l3 := q7.live 3; clear q7; clear bb ss)
      | (refine step_call (by rfl) 23 #[.agg #[.int .i64 3, .int .i64 0, .string sInt, .slice ai 0 ci], .agg #[.int .i64 3, .int .i64 0, .string sInt, .slice ai 0 ci]] (by simp [go_sem]) _ (m_fun' VP.heap.size 3 0 sInt ai 0 ci .nil 3 0 sInt ai 0 ci .nil _ (Nat.le_refl _) (sub0 HSI.out) (sub0 HSI.out)) ?_; rintro v v0 ⟨p0, q0, rfl, bb, ss⟩; have HK0 : Hid (Kept (fun _ => True) VP v0) := (Kept.drew _ _).trans (kt bb); have HS0_0 := hide ss; have kI := HQI.out.kept HK0.out trivial; have kI0_0 := kI.cel 0 _ rfl; have kI1_0 := kI.cel 1 _ rfl; have kI2_0 := kI.cel 2 _ rfl; have kI3_0 := kI.cel 3 _ rfl; clear kI; clear bb ss))
    all_goals
      obtain ⟨V7, hV7⟩ : ∃ V7, (((v1.setCell ⟨V4.heap.size, 0, none⟩ (.int .i64 3)).setCell ⟨V4.heap.size, 1, none⟩ (.int .i64 0)).setCell ⟨V4.heap.size, 2, none⟩ (.string sArrow)).setCell ⟨V4.heap.size, 3, none⟩ (.slice p1 2 q1) = V7 := ⟨_, rfl⟩
      have HF := hide (fin7 HQ2.out HQ7.out HZZ.out HKP.out HK1.out HS1_1.out 0 hV7)
      have q2 := HF.out.1
      have q9 := HF.out.2.1
      have r0 := q2.cel 0 _ rfl
      have f0 := q2.live 0
      have r1 := q2.cel 1 _ rfl
      have f1 := q2.live 1
      have r2 := q2.cel 2 _ rfl
      have f2 := q2.live 2
      have r3 := q2.cel 3 _ rfl
      have f3 := q2.live 3
      have r4 := q2.cel 4 _ rfl
      have f4 := q2.live 4
      have r5 := q2.cel 5 _ rfl
      have f5 := q2.live 5
      have g0 := q9.cel 0 _ rfl
      have g1 := q9.cel 1 _ rfl
      have g2 := q9.cel 2 _ rfl
      have g3 := q9.cel 3 _ rfl
      have HV7 := hide hV7
      clear hV7 q2 q9
      go_upto_region 35 with fail
      rw [HV7.out]
      clear HV7 m0 m1 m2 m3 l0 l1 l2 l3
      go_wp2_with fail
      refine bodyPost_ret (v := .agg #[.int .i64 0, .slice none 0 0, .int .i64 3, .int .i64 0, .string sArrow, .slice p1 2 q1]) (by simp [results, Try.results6, go_sem, r0, r1, r2, r3, r4, r5]) rfl ⟨sch 0 (ty4 3 0 sArrow p1 2 q1 ((ty4 3 0 sInt ai 0 ci .nil).app (ty4 3 0 sArrow p0 2 q0 ((ty4 3 0 sInt ai 0 ci .nil).app (ty4 3 0 sInt ai 0 ci .nil))))), rfl, ⟨rfl, rfl, trivial, (fun_sim2 base_sim (fun_sim2 base_sim base_sim _ _) _ _)⟩, HF.out.2.2 _ ?_⟩
      repeat first | (with_reducible refine Kept.set ?_ (by simp)) | with_reducible exact Kept.refl _ _
  · subst hs
    have kI := HQI.out
    have kI0 := kI.cel 0 _ rfl
    have kI1 := kI.cel 1 _ rfl
    have kI2 := kI.cel 2 _ rfl
    have kI3 := kI.cel 3 _ rfl
    go_upto_region 14 with fail
    go_region_law (first
      | (refine step_call (by rfl) 23 #[.agg #[.int .i64 3, .int .i64 0, .string sInt, .slice ai 0 ci], .agg #[.int .i64 3, .int .i64 0, .string sArrow, .slice p0 2 q0]] (by simp [go_sem]) _ (m_fun' VP.heap.size 3 0 sInt ai 0 ci .nil 3 0 sArrow p0 2 q0 ((ty4 3 0 sInt ai 0 ci .nil).app (ty4 3 0 sInt ai 0 ci .nil)) _ HK0.out.size (sub0 HSI.out) HS0_0.out) ?_; rintro v v1 ⟨p1, q1, rfl, bb, ss⟩; have HK1 : Hid (Kept (fun _ => True) VP v1) := HK0.out.trans (kt bb); have HS1_1 := hide ss; have q7 := HQ7.out.kept HK1.out trivial; have m0 := q7.cel 0 _ rfl; have l0 := q7.live 0; have m1 := q7.cel 1 _ rfl; have l1 := q7.live 1; have m2 := q7.cel 2 _ rfl; have l2 := q7.live 2; have m3 := q7.cel 3 _ rfl; have l3 := q7.live 3; clear q7; clear bb ss)
      | (refine step_call (by rfl) 23 #[.agg #[.int .i64 3, .int .i64 0, .string sInt, .slice ai 0 ci], .agg #[.int .i64 3, .int .i64 0, .string sInt, .slice ai 0 ci]] (by simp [go_sem]) _ (m_fun' VP.heap.size 3 0 sInt ai 0 ci .nil 3 0 sInt ai 0 ci .nil _ (Nat.le_refl _) (sub0 HSI.out) (sub0 HSI.out)) ?_; rintro v v0 ⟨p0, q0, rfl, bb, ss⟩; have HK0 : Hid (Kept (fun _ => True) VP v0) := (Kept.drew _ _).trans (kt bb); have HS0_0 := hide ss; have kI := HQI.out.kept HK0.out trivial; have kI0_0 := kI.cel 0 _ rfl; have kI1_0 := kI.cel 1 _ rfl; have kI2_0 := kI.cel 2 _ rfl; have kI3_0 := kI.cel 3 _ rfl; clear kI; clear bb ss))
    all_goals
      obtain ⟨V7, hV7⟩ : ∃ V7, (((v1.setCell ⟨V4.heap.size, 0, none⟩ (.int .i64 3)).setCell ⟨V4.heap.size, 1, none⟩ (.int .i64 0)).setCell ⟨V4.heap.size, 2, none⟩ (.string sArrow)).setCell ⟨V4.heap.size, 3, none⟩ (.slice p1 2 q1) = V7 := ⟨_, rfl⟩
      have HF := hide (fin7 HQ2.out HQ7.out HZZ.out HKP.out HK1.out HS1_1.out 0 hV7)
      have q2 := HF.out.1
      have q9 := HF.out.2.1
      have r0 := q2.cel 0 _ rfl
      have f0 := q2.live 0
      have r1 := q2.cel 1 _ rfl
      have f1 := q2.live 1
      have r2 := q2.cel 2 _ rfl
      have f2 := q2.live 2
      have r3 := q2.cel 3 _ rfl
      have f3 := q2.live 3
      have r4 := q2.cel 4 _ rfl
      have f4 := q2.live 4
      have r5 := q2.cel 5 _ rfl
      have f5 := q2.live 5
      have g0 := q9.cel 0 _ rfl
      have g1 := q9.cel 1 _ rfl
      have g2 := q9.cel 2 _ rfl
      have g3 := q9.cel 3 _ rfl
      have HV7 := hide hV7
      clear hV7 q2 q9
      go_upto_region 35 with fail
      rw [HV7.out]
      clear HV7 m0 m1 m2 m3 l0 l1 l2 l3
      go_wp2_with fail
      refine bodyPost_ret (v := .agg #[.int .i64 0, .slice none 0 0, .int .i64 3, .int .i64 0, .string sArrow, .slice p1 2 q1]) (by simp [results, Try.results6, go_sem, r0, r1, r2, r3, r4, r5]) rfl ⟨sch 0 (ty4 3 0 sArrow p1 2 q1 ((ty4 3 0 sInt ai 0 ci .nil).app (ty4 3 0 sArrow p0 2 q0 ((ty4 3 0 sInt ai 0 ci .nil).app (ty4 3 0 sInt ai 0 ci .nil))))), rfl, ⟨rfl, rfl, trivial, (fun_sim2 base_sim (fun_sim2 base_sim base_sim _ _) _ _)⟩, HF.out.2.2 _ ?_⟩
      repeat first | (with_reducible refine Kept.set ?_ (by simp)) | with_reducible exact Kept.refl _ _
  · subst hs
    have kI := HQI.out
    have kI0 := kI.cel 0 _ rfl
    have kI1 := kI.cel 1 _ rfl
    have kI2 := kI.cel 2 _ rfl
    have kI3 := kI.cel 3 _ rfl
    go_upto_region 14 with fail
    go_region_law (first
      | (refine step_call (by rfl) 23 #[.agg #[.int .i64 3, .int .i64 0, .string sInt, .slice ai 0 ci], .agg #[.int .i64 3, .int .i64 0, .string sArrow, .slice p0 2 q0]] (by simp [go_sem]) _ (m_fun' VP.heap.size 3 0 sInt ai 0 ci .nil 3 0 sArrow p0 2 q0 ((ty4 3 0 sInt ai 0 ci .nil).app (ty4 3 0 sInt ai 0 ci .nil)) _ HK0.out.size (sub0 HSI.out) HS0_0.out) ?_; rintro v v1 ⟨p1, q1, rfl, bb, ss⟩; have HK1 : Hid (Kept (fun _ => True) VP v1) := HK0.out.trans (kt bb); have HS1_1 := hide ss; have q7 := HQ7.out.kept HK1.out trivial; have m0 := q7.cel 0 _ rfl; have l0 := q7.live 0; have m1 := q7.cel 1 _ rfl; have l1 := q7.live 1; have m2 := q7.cel 2 _ rfl; have l2 := q7.live 2; have m3 := q7.cel 3 _ rfl; have l3 := q7.live 3; clear q7; clear bb ss)
      | (refine step_call (by rfl) 23 #[.agg #[.int .i64 3, .int .i64 0, .string sInt, .slice ai 0 ci], .agg #[.int .i64 3, .int .i64 0, .string sInt, .slice ai 0 ci]] (by simp [go_sem]) _ (m_fun' VP.heap.size 3 0 sInt ai 0 ci .nil 3 0 sInt ai 0 ci .nil _ (Nat.le_refl _) (sub0 HSI.out) (sub0 HSI.out)) ?_; rintro v v0 ⟨p0, q0, rfl, bb, ss⟩; have HK0 : Hid (Kept (fun _ => True) VP v0) := (Kept.drew _ _).trans (kt bb); have HS0_0 := hide ss; have kI := HQI.out.kept HK0.out trivial; have kI0_0 := kI.cel 0 _ rfl; have kI1_0 := kI.cel 1 _ rfl; have kI2_0 := kI.cel 2 _ rfl; have kI3_0 := kI.cel 3 _ rfl; clear kI; clear bb ss))
    all_goals
      obtain ⟨V7, hV7⟩ : ∃ V7, (((v1.setCell ⟨V4.heap.size, 0, none⟩ (.int .i64 3)).setCell ⟨V4.heap.size, 1, none⟩ (.int .i64 0)).setCell ⟨V4.heap.size, 2, none⟩ (.string sArrow)).setCell ⟨V4.heap.size, 3, none⟩ (.slice p1 2 q1) = V7 := ⟨_, rfl⟩
      have HF := hide (fin7 HQ2.out HQ7.out HZZ.out HKP.out HK1.out HS1_1.out 0 hV7)
      have q2 := HF.out.1
      have q9 := HF.out.2.1
      have r0 := q2.cel 0 _ rfl
      have f0 := q2.live 0
      have r1 := q2.cel 1 _ rfl
      have f1 := q2.live 1
      have r2 := q2.cel 2 _ rfl
      have f2 := q2.live 2
      have r3 := q2.cel 3 _ rfl
      have f3 := q2.live 3
      have r4 := q2.cel 4 _ rfl
      have f4 := q2.live 4
      have r5 := q2.cel 5 _ rfl
      have f5 := q2.live 5
      have g0 := q9.cel 0 _ rfl
      have g1 := q9.cel 1 _ rfl
      have g2 := q9.cel 2 _ rfl
      have g3 := q9.cel 3 _ rfl
      have HV7 := hide hV7
      clear hV7 q2 q9
      go_upto_region 35 with fail
      rw [HV7.out]
      clear HV7 m0 m1 m2 m3 l0 l1 l2 l3
      go_wp2_with fail
      refine bodyPost_ret (v := .agg #[.int .i64 0, .slice none 0 0, .int .i64 3, .int .i64 0, .string sArrow, .slice p1 2 q1]) (by simp [results, Try.results6, go_sem, r0, r1, r2, r3, r4, r5]) rfl ⟨sch 0 (ty4 3 0 sArrow p1 2 q1 ((ty4 3 0 sInt ai 0 ci .nil).app (ty4 3 0 sArrow p0 2 q0 ((ty4 3 0 sInt ai 0 ci .nil).app (ty4 3 0 sInt ai 0 ci .nil))))), rfl, ⟨rfl, rfl, trivial, (fun_sim2 base_sim (fun_sim2 base_sim base_sim _ _) _ _)⟩, HF.out.2.2 _ ?_⟩
      repeat first | (with_reducible refine Kept.set ?_ (by simp)) | with_reducible exact Kept.refl _ _
  · subst hs
    have kI := HQI.out
    have kI0 := kI.cel 0 _ rfl
    have kI1 := kI.cel 1 _ rfl
    have kI2 := kI.cel 2 _ rfl
    have kI3 := kI.cel 3 _ rfl
    go_upto_region 14 with fail
    go_region_law (first
      | (refine step_call (by rfl) 23 #[.agg #[.int .i64 3, .int .i64 0, .string sInt, .slice ai 0 ci], .agg #[.int .i64 3, .int .i64 0, .string sArrow, .slice p0 2 q0]] (by simp [go_sem]) _ (m_fun' VP.heap.size 3 0 sInt ai 0 ci .nil 3 0 sArrow p0 2 q0 ((ty4 3 0 sInt ai 0 ci .nil).app (ty4 3 0 sInt ai 0 ci .nil)) _ HK0.out.size (sub0 HSI.out) HS0_0.out) ?_; rintro v v1 ⟨p1, q1, rfl, bb, ss⟩; have HK1 : Hid (Kept (fun _ => True) VP v1) := HK0.out.trans (kt bb); have HS1_1 := hide ss; have q7 := HQ7.out.kept HK1.out trivial; have m0 := q7.cel 0 _ rfl; have l0 := q7.live 0; have m1 := q7.cel 1 _ rfl; have l1 := q7.live 1; have m2 := q7.cel 2 _ rfl; have l2 := q7.live 2; have m3 := q7.cel 3 _ rfl; have l3 := q7.live 3; clear q7; clear bb ss)
      | (refine step_call (by rfl) 23 #[.agg #[.int .i64 3, .int .i64 0, .string sInt, .slice ai 0 ci], .agg #[.int .i64 3, .int .i64 0, .string sInt, .slice ai 0 ci]] (by simp [go_sem]) _ (m_fun' VP.heap.size 3 0 sInt ai 0 ci .nil 3 0 sInt ai 0 ci .nil _ (Nat.le_refl _) (sub0 HSI.out) (sub0 HSI.out)) ?_; rintro v v0 ⟨p0, q0, rfl, bb, ss⟩; have HK0 : Hid (Kept (fun _ => True) VP v0) := (Kept.drew _ _).trans (kt bb); have HS0_0 := hide ss; have kI := HQI.out.kept HK0.out trivial; have kI0_0 := kI.cel 0 _ rfl; have kI1_0 := kI.cel 1 _ rfl; have kI2_0 := kI.cel 2 _ rfl; have kI3_0 := kI.cel 3 _ rfl; clear kI; clear bb ss))
    all_goals
      obtain ⟨V7, hV7⟩ : ∃ V7, (((v1.setCell ⟨V4.heap.size, 0, none⟩ (.int .i64 3)).setCell ⟨V4.heap.size, 1, none⟩ (.int .i64 0)).setCell ⟨V4.heap.size, 2, none⟩ (.string sArrow)).setCell ⟨V4.heap.size, 3, none⟩ (.slice p1 2 q1) = V7 := ⟨_, rfl⟩
      have HF := hide (fin7 HQ2.out HQ7.out HZZ.out HKP.out HK1.out HS1_1.out 0 hV7)
      have q2 := HF.out.1
      have q9 := HF.out.2.1
      have r0 := q2.cel 0 _ rfl
      have f0 := q2.live 0
      have r1 := q2.cel 1 _ rfl
      have f1 := q2.live 1
      have r2 := q2.cel 2 _ rfl
      have f2 := q2.live 2
      have r3 := q2.cel 3 _ rfl
      have f3 := q2.live 3
      have r4 := q2.cel 4 _ rfl
      have f4 := q2.live 4
      have r5 := q2.cel 5 _ rfl
      have f5 := q2.live 5
      have g0 := q9.cel 0 _ rfl
      have g1 := q9.cel 1 _ rfl
      have g2 := q9.cel 2 _ rfl
      have g3 := q9.cel 3 _ rfl
      have HV7 := hide hV7
      clear hV7 q2 q9
      go_upto_region 35 with fail
      rw [HV7.out]
      clear HV7 m0 m1 m2 m3 l0 l1 l2 l3
      go_wp2_with fail
      refine bodyPost_ret (v := .agg #[.int .i64 0, .slice none 0 0, .int .i64 3, .int .i64 0, .string sArrow, .slice p1 2 q1]) (by simp [results, Try.results6, go_sem, r0, r1, r2, r3, r4, r5]) rfl ⟨sch 0 (ty4 3 0 sArrow p1 2 q1 ((ty4 3 0 sInt ai 0 ci .nil).app (ty4 3 0 sArrow p0 2 q0 ((ty4 3 0 sInt ai 0 ci .nil).app (ty4 3 0 sInt ai 0 ci .nil))))), rfl, ⟨rfl, rfl, trivial, (fun_sim2 base_sim (fun_sim2 base_sim base_sim _ _) _ _)⟩, HF.out.2.2 _ ?_⟩
      repeat first | (with_reducible refine Kept.set ?_ (by simp)) | with_reducible exact Kept.refl _ _
  · subst hs
    have kI := HQI.out
    have kI0 := kI.cel 0 _ rfl
    have kI1 := kI.cel 1 _ rfl
    have kI2 := kI.cel 2 _ rfl
    have kI3 := kI.cel 3 _ rfl
    go_upto_region 14 with fail
    go_region_law (first
      | (refine step_call (by rfl) 23 #[.agg #[.int .i64 3, .int .i64 0, .string sInt, .slice ai 0 ci], .agg #[.int .i64 3, .int .i64 0, .string sArrow, .slice p0 2 q0]] (by simp [go_sem]) _ (m_fun' VP.heap.size 3 0 sInt ai 0 ci .nil 3 0 sArrow p0 2 q0 ((ty4 3 0 sInt ai 0 ci .nil).app (ty4 3 0 sInt ai 0 ci .nil)) _ HK0.out.size (sub0 HSI.out) HS0_0.out) ?_; rintro v v1 ⟨p1, q1, rfl, bb, ss⟩; have HK1 : Hid (Kept (fun _ => True) VP v1) := HK0.out.trans (kt bb); have HS1_1 := hide ss; have q7 := HQ7.out.kept HK1.out trivial; have m0 := q7.cel 0 _ rfl; have l0 := q7.live 0; have m1 := q7.cel 1 _ rfl; have l1 := q7.live 1; have m2 := q7.cel 2 _ rfl; have l2 := q7.live 2; have m3 := q7.cel 3 _ rfl; have l3 := q7.live 3; clear q7; clear bb ss)
      | (refine step_call (by rfl) 23 #[.agg #[.int .i64 3, .int .i64 0, .string sInt, .slice ai 0 ci], .agg #[.int .i64 3, .int .i64 0, .string sInt, .slice ai 0 ci]] (by simp [go_sem]) _ (m_fun' VP.heap.size 3 0 sInt ai 0 ci .nil 3 0 sInt ai 0 ci .nil _ (Nat.le_refl _) (sub0 HSI.out) (sub0 HSI.out)) ?_; rintro v v0 ⟨p0, q0, rfl, bb, ss⟩; have HK0 : Hid (Kept (fun _ => True) VP v0) := (Kept.drew _ _).trans (kt bb); have HS0_0 := hide ss; have kI := HQI.out.kept HK0.out trivial; have kI0_0 := kI.cel 0 _ rfl; have kI1_0 := kI.cel 1 _ rfl; have kI2_0 := kI.cel 2 _ rfl; have kI3_0 := kI.cel 3 _ rfl; clear kI; clear bb ss))
    all_goals
      obtain ⟨V7, hV7⟩ : ∃ V7, (((v1.setCell ⟨V4.heap.size, 0, none⟩ (.int .i64 3)).setCell ⟨V4.heap.size, 1, none⟩ (.int .i64 0)).setCell ⟨V4.heap.size, 2, none⟩ (.string sArrow)).setCell ⟨V4.heap.size, 3, none⟩ (.slice p1 2 q1) = V7 := ⟨_, rfl⟩
      have HF := hide (fin7 HQ2.out HQ7.out HZZ.out HKP.out HK1.out HS1_1.out 0 hV7)
      have q2 := HF.out.1
      have q9 := HF.out.2.1
      have r0 := q2.cel 0 _ rfl
      have f0 := q2.live 0
      have r1 := q2.cel 1 _ rfl
      have f1 := q2.live 1
      have r2 := q2.cel 2 _ rfl
      have f2 := q2.live 2
      have r3 := q2.cel 3 _ rfl
      have f3 := q2.live 3
      have r4 := q2.cel 4 _ rfl
      have f4 := q2.live 4
      have r5 := q2.cel 5 _ rfl
      have f5 := q2.live 5
      have g0 := q9.cel 0 _ rfl
      have g1 := q9.cel 1 _ rfl
      have g2 := q9.cel 2 _ rfl
      have g3 := q9.cel 3 _ rfl
      have HV7 := hide hV7
      clear hV7 q2 q9
      go_upto_region 35 with fail
      rw [HV7.out]
      clear HV7 m0 m1 m2 m3 l0 l1 l2 l3
      go_wp2_with fail
      refine bodyPost_ret (v := .agg #[.int .i64 0, .slice none 0 0, .int .i64 3, .int .i64 0, .string sArrow, .slice p1 2 q1]) (by simp [results, Try.results6, go_sem, r0, r1, r2, r3, r4, r5]) rfl ⟨sch 0 (ty4 3 0 sArrow p1 2 q1 ((ty4 3 0 sInt ai 0 ci .nil).app (ty4 3 0 sArrow p0 2 q0 ((ty4 3 0 sInt ai 0 ci .nil).app (ty4 3 0 sInt ai 0 ci .nil))))), rfl, ⟨rfl, rfl, trivial, (fun_sim2 base_sim (fun_sim2 base_sim base_sim _ _) _ _)⟩, HF.out.2.2 _ ?_⟩
      repeat first | (with_reducible refine Kept.set ?_ (by simp)) | with_reducible exact Kept.refl _ _
  · subst hs
    have kI := HQI.out
    have kI0 := kI.cel 0 _ rfl
    have kI1 := kI.cel 1 _ rfl
    have kI2 := kI.cel 2 _ rfl
    have kI3 := kI.cel 3 _ rfl
    have kB := HQB.out
    have kB0 := kB.cel 0 _ rfl
    have kB1 := kB.cel 1 _ rfl
    have kB2 := kB.cel 2 _ rfl
    have kB3 := kB.cel 3 _ rfl
    go_upto_region 17 with fail
    go_region_law (first
      | (refine step_call (by rfl) 23 #[.agg #[.int .i64 3, .int .i64 0, .string sInt, .slice ai 0 ci], .agg #[.int .i64 3, .int .i64 0, .string sArrow, .slice p0 2 q0]] (by simp [go_sem]) _ (m_fun' VP.heap.size 3 0 sInt ai 0 ci .nil 3 0 sArrow p0 2 q0 ((ty4 3 0 sInt ai 0 ci .nil).app (ty4 3 0 sBool ab 0 cb .nil)) _ HK0.out.size (sub0 HSI.out) HS0_0.out) ?_; rintro v v1 ⟨p1, q1, rfl, bb, ss⟩; have HK1 : Hid (Kept (fun _ => True) VP v1) := HK0.out.trans (kt bb); have HS1_1 := hide ss; have q7 := HQ7.out.kept HK1.out trivial; have m0 := q7.cel 0 _ rfl; have l0 := q7.live 0; have m1 := q7.cel 1 _ rfl; have l1 := q7.live 1; have m2 := q7.cel 2 _ rfl; have l2 := q7.live 2; have m3 := q7.cel 3 _ rfl; have l3 := q7.live 3; clear q7; clear bb ss)
      | (refine step_call (by rfl) 23 #[.agg #[.int .i64 3, .int .i64 0, .string sInt, .slice ai 0 ci], .agg #[.int .i64 3, .int .i64 0, .string sBool, .slice ab 0 cb]] (by simp [go_sem]) _ (m_fun' VP.heap.size 3 0 sInt ai 0 ci .nil 3 0 sBool ab 0 cb .nil _ (Nat.le_refl _) (sub0 HSI.out) (sub0 HSB.out)) ?_; rintro v v0 ⟨p0, q0, rfl, bb, ss⟩; have HK0 : Hid (Kept (fun _ => True) VP v0) := (Kept.drew _ _).trans (kt bb); have HS0_0 := hide ss; have kI := HQI.out.kept HK0.out trivial; have kI0_0 := kI.cel 0 _ rfl; have kI1_0 := kI.cel 1 _ rfl; have kI2_0 := kI.cel 2 _ rfl; have kI3_0 := kI.cel 3 _ rfl; clear kI; have kB := HQB.out.kept HK0.out trivial; have kB0_0 := kB.cel 0 _ rfl; have kB1_0 := kB.cel 1 _ rfl; have kB2_0 := kB.cel 2 _ rfl; have kB3_0 := kB.cel 3 _ rfl; clear kB; clear bb ss))
    all_goals
      obtain ⟨V7, hV7⟩ : ∃ V7, (((v1.setCell ⟨V4.heap.size, 0, none⟩ (.int .i64 3)).setCell ⟨V4.heap.size, 1, none⟩ (.int .i64 0)).setCell ⟨V4.heap.size, 2, none⟩ (.string sArrow)).setCell ⟨V4.heap.size, 3, none⟩ (.slice p1 2 q1) = V7 := ⟨_, rfl⟩
      have HF := hide (fin7 HQ2.out HQ7.out HZZ.out HKP.out HK1.out HS1_1.out 0 hV7)
      have q2 := HF.out.1
      have q9 := HF.out.2.1
      have r0 := q2.cel 0 _ rfl
      have f0 := q2.live 0
      have r1 := q2.cel 1 _ rfl
      have f1 := q2.live 1
      have r2 := q2.cel 2 _ rfl
      have f2 := q2.live 2
      have r3 := q2.cel 3 _ rfl
      have f3 := q2.live 3
      have r4 := q2.cel 4 _ rfl
      have f4 := q2.live 4
      have r5 := q2.cel 5 _ rfl
      have f5 := q2.live 5
      have g0 := q9.cel 0 _ rfl
      have g1 := q9.cel 1 _ rfl
      have g2 := q9.cel 2 _ rfl
      have g3 := q9.cel 3 _ rfl
      have HV7 := hide hV7
      clear hV7 q2 q9
      go_upto_region 35 with fail
      rw [HV7.out]
      clear HV7 m0 m1 m2 m3 l0 l1 l2 l3
      go_wp2_with fail
      refine bodyPost_ret (v := .agg #[.int .i64 0, .slice none 0 0, .int .i64 3, .int .i64 0, .string sArrow, .slice p1 2 q1]) (by simp [results, Try.results6, go_sem, r0, r1, r2, r3, r4, r5]) rfl ⟨sch 0 (ty4 3 0 sArrow p1 2 q1 ((ty4 3 0 sInt ai 0 ci .nil).app (ty4 3 0 sArrow p0 2 q0 ((ty4 3 0 sInt ai 0 ci .nil).app (ty4 3 0 sBool ab 0 cb .nil))))), rfl, ⟨rfl, rfl, trivial, (fun_sim2 base_sim (fun_sim2 base_sim base_sim _ _) _ _)⟩, HF.out.2.2 _ ?_⟩
      repeat first | (with_reducible refine Kept.set ?_ (by simp)) | with_reducible exact Kept.refl _ _
  · subst hs
    have kI := HQI.out
    have kI0 := kI.cel 0 _ rfl
    have kI1 := kI.cel 1 _ rfl
    have kI2 := kI.cel 2 _ rfl
    have kI3 := kI.cel 3 _ rfl
    have kB := HQB.out
    have kB0 := kB.cel 0 _ rfl
    have kB1 := kB.cel 1 _ rfl
    have kB2 := kB.cel 2 _ rfl
    have kB3 := kB.cel 3 _ rfl
    go_upto_region 17 with fail
    go_region_law (first
      | (refine step_call (by rfl) 23 #[.agg #[.int .i64 3, .int .i64 0, .string sInt, .slice ai 0 ci], .agg #[.int .i64 3, .int .i64 0, .string sArrow, .slice p0 2 q0]] (by simp [go_sem]) _ (m_fun' VP.heap.size 3 0 sInt ai 0 ci .nil 3 0 sArrow p0 2 q0 ((ty4 3 0 sInt ai 0 ci .nil).app (ty4 3 0 sBool ab 0 cb .nil)) _ HK0.out.size (sub0 HSI.out) HS0_0.out) ?_; rintro v v1 ⟨p1, q1, rfl, bb, ss⟩; have HK1 : Hid (Kept (fun _ => True) VP v1) := HK0.out.trans (kt bb); have HS1_1 := hide ss; have q7 := HQ7.out.kept HK1.out trivial; have m0 := q7.cel 0 _ rfl; have l0 := q7.live 0; have m1 := q7.cel 1 _ rfl; have l1 := q7.live 1; have m2 := q7.cel 2 _ rfl; have l2 := q7.live 2; have m3 := q7.cel 3 _ rfl; have l3 := q7.live 3; clear q7; clear bb ss)
      | (refine step_call (by rfl) 23 #[.agg #[.int .i64 3, .int .i64 0, .string sInt, .slice ai 0 ci], .agg #[.int .i64 3, .int .i64 0, .string sBool, .slice ab 0 cb]] (by simp [go_sem]) _ (m_fun' VP.heap.size 3 0 sInt ai 0 ci .nil 3 0 sBool ab 0 cb .nil _ (Nat.le_refl _) (sub0 HSI.out) (sub0 HSB.out)) ?_; rintro v v0 ⟨p0, q0, rfl, bb, ss⟩; have HK0 : Hid (Kept (fun _ => True) VP v0) := (Kept.drew _ _).trans (kt bb); have HS0_0 := hide ss; have kI := HQI.out.kept HK0.out trivial; have kI0_0 := kI.cel 0 _ rfl; have kI1_0 := kI.cel 1 _ rfl; have kI2_0 := kI.cel 2 _ rfl; have kI3_0 := kI.cel 3 _ rfl; clear kI; have kB := HQB.out.kept HK0.out trivial; have kB0_0 := kB.cel 0 _ rfl; have kB1_0 := kB.cel 1 _ rfl; have kB2_0 := kB.cel 2 _ rfl; have kB3_0 := kB.cel 3 _ rfl; clear kB; clear bb ss))
    all_goals
      obtain ⟨V7, hV7⟩ : ∃ V7, (((v1.setCell ⟨V4.heap.size, 0, none⟩ (.int .i64 3)).setCell ⟨V4.heap.size, 1, none⟩ (.int .i64 0)).setCell ⟨V4.heap.size, 2, none⟩ (.string sArrow)).setCell ⟨V4.heap.size, 3, none⟩ (.slice p1 2 q1) = V7 := ⟨_, rfl⟩
      have HF := hide (fin7 HQ2.out HQ7.out HZZ.out HKP.out HK1.out HS1_1.out 0 hV7)
      have q2 := HF.out.1
      have q9 := HF.out.2.1
      have r0 := q2.cel 0 _ rfl
      have f0 := q2.live 0
      have r1 := q2.cel 1 _ rfl
      have f1 := q2.live 1
      have r2 := q2.cel 2 _ rfl
      have f2 := q2.live 2
      have r3 := q2.cel 3 _ rfl
      have f3 := q2.live 3
      have r4 := q2.cel 4 _ rfl
      have f4 := q2.live 4
      have r5 := q2.cel 5 _ rfl
      have f5 := q2.live 5
      have g0 := q9.cel 0 _ rfl
      have g1 := q9.cel 1 _ rfl
      have g2 := q9.cel 2 _ rfl
      have g3 := q9.cel 3 _ rfl
      have HV7 := hide hV7
      clear hV7 q2 q9
      go_upto_region 35 with fail
      rw [HV7.out]
      clear HV7 m0 m1 m2 m3 l0 l1 l2 l3
      go_wp2_with fail
      refine bodyPost_ret (v := .agg #[.int .i64 0, .slice none 0 0, .int .i64 3, .int .i64 0, .string sArrow, .slice p1 2 q1]) (by simp [results, Try.results6, go_sem, r0, r1, r2, r3, r4, r5]) rfl ⟨sch 0 (ty4 3 0 sArrow p1 2 q1 ((ty4 3 0 sInt ai 0 ci .nil).app (ty4 3 0 sArrow p0 2 q0 ((ty4 3 0 sInt ai 0 ci .nil).app (ty4 3 0 sBool ab 0 cb .nil))))), rfl, ⟨rfl, rfl, trivial, (fun_sim2 base_sim (fun_sim2 base_sim base_sim _ _) _ _)⟩, HF.out.2.2 _ ?_⟩
      repeat first | (with_reducible refine Kept.set ?_ (by simp)) | with_reducible exact Kept.refl _ _
  · subst hs
    have kC := HQC.out
    have kC0 := kC.cel 0 _ rfl
    have kC1 := kC.cel 1 _ rfl
    have kC2 := kC.cel 2 _ rfl
    have kC3 := kC.cel 3 _ rfl
    have kI := HQI.out
    have kI0 := kI.cel 0 _ rfl
    have kI1 := kI.cel 1 _ rfl
    have kI2 := kI.cel 2 _ rfl
    have kI3 := kI.cel 3 _ rfl
    go_wp2_with fail
    refine (m_fun' VP.heap.size 3 0 sChar ac 0 cc .nil 3 0 sInt ai 0 ci .nil _ (Nat.le_refl _) (sub0 HSC.out) (sub0 HSI.out)).mono ?_
    rintro e v0 ⟨_, rfl, p0, q0, rfl, bb, ss⟩
    have HK0 : Hid (Kept (fun _ => True) VP v0) := (Kept.refl _ _).trans (kt bb)
    have HS0_0 := hide ss
    have q7 := HQ7.out.kept HK0.out trivial
    have m0 := q7.cel 0 _ rfl
    have l0 := q7.live 0
    have m1 := q7.cel 1 _ rfl
    have l1 := q7.live 1
    have m2 := q7.cel 2 _ rfl
    have l2 := q7.live 2
    have m3 := q7.cel 3 _ rfl
    have l3 := q7.live 3
    clear q7
    clear bb ss
    obtain ⟨V7, hV7⟩ : ∃ V7, (((v0.setCell ⟨V4.heap.size, 0, none⟩ (.int .i64 3)).setCell ⟨V4.heap.size, 1, none⟩ (.int .i64 0)).setCell ⟨V4.heap.size, 2, none⟩ (.string sArrow)).setCell ⟨V4.heap.size, 3, none⟩ (.slice p0 2 q0) = V7 := ⟨_, rfl⟩
    have HF := hide (fin7 HQ2.out HQ7.out HZZ.out HKP.out HK0.out HS0_0.out 0 hV7)
    have q2 := HF.out.1
    have q9 := HF.out.2.1
    have r0 := q2.cel 0 _ rfl
    have f0 := q2.live 0
    have r1 := q2.cel 1 _ rfl
    have f1 := q2.live 1
    have r2 := q2.cel 2 _ rfl
    have f2 := q2.live 2
    have r3 := q2.cel 3 _ rfl
    have f3 := q2.live 3
    have r4 := q2.cel 4 _ rfl
    have f4 := q2.live 4
    have r5 := q2.cel 5 _ rfl
    have f5 := q2.live 5
    have g0 := q9.cel 0 _ rfl
    have g1 := q9.cel 1 _ rfl
    have g2 := q9.cel 2 _ rfl
    have g3 := q9.cel 3 _ rfl
    have HV7 := hide hV7
    clear hV7 q2 q9
    go_upto_region 35 with fail
    rw [HV7.out]
    clear HV7 m0 m1 m2 m3 l0 l1 l2 l3
    go_wp2_with fail
    refine bodyPost_ret (v := .agg #[.int .i64 0, .slice none 0 0, .int .i64 3, .int .i64 0, .string sArrow, .slice p0 2 q0]) (by simp [results, Try.results6, go_sem, r0, r1, r2, r3, r4, r5]) rfl ⟨sch 0 (ty4 3 0 sArrow p0 2 q0 ((ty4 3 0 sChar ac 0 cc .nil).app (ty4 3 0 sInt ai 0 ci .nil))), rfl, ⟨rfl, rfl, trivial, (fun_sim2 base_sim base_sim _ _)⟩, HF.out.2.2 _ ?_⟩
    repeat first | (with_reducible refine Kept.set ?_ (by simp)) | with_reducible exact Kept.refl _ _
  · subst hs
    have kI := HQI.out
    have kI0 := kI.cel 0 _ rfl
    have kI1 := kI.cel 1 _ rfl
    have kI2 := kI.cel 2 _ rfl
    have kI3 := kI.cel 3 _ rfl
    have kC := HQC.out
    have kC0 := kC.cel 0 _ rfl
    have kC1 := kC.cel 1 _ rfl
    have kC2 := kC.cel 2 _ rfl
    have kC3 := kC.cel 3 _ rfl
    go_wp2_with fail
    refine (m_fun' VP.heap.size 3 0 sInt ai 0 ci .nil 3 0 sChar ac 0 cc .nil _ (Nat.le_refl _) (sub0 HSI.out) (sub0 HSC.out)).mono ?_
    rintro e v0 ⟨_, rfl, p0, q0, rfl, bb, ss⟩
    have HK0 : Hid (Kept (fun _ => True) VP v0) := (Kept.refl _ _).trans (kt bb)
    have HS0_0 := hide ss
    have q7 := HQ7.out.kept HK0.out trivial
    have m0 := q7.cel 0 _ rfl
    have l0 := q7.live 0
    have m1 := q7.cel 1 _ rfl
    have l1 := q7.live 1
    have m2 := q7.cel 2 _ rfl
    have l2 := q7.live 2
    have m3 := q7.cel 3 _ rfl
    have l3 := q7.live 3
    clear q7
    clear bb ss
    obtain ⟨V7, hV7⟩ : ∃ V7, (((v0.setCell ⟨V4.heap.size, 0, none⟩ (.int .i64 3)).setCell ⟨V4.heap.size, 1, none⟩ (.int .i64 0)).setCell ⟨V4.heap.size, 2, none⟩ (.string sArrow)).setCell ⟨V4.heap.size, 3, none⟩ (.slice p0 2 q0) = V7 := ⟨_, rfl⟩
    have HF := hide (fin7 HQ2.out HQ7.out HZZ.out HKP.out HK0.out HS0_0.out 0 hV7)
    have q2 := HF.out.1
    have q9 := HF.out.2.1
    have r0 := q2.cel 0 _ rfl
    have f0 := q2.live 0
    have r1 := q2.cel 1 _ rfl
    have f1 := q2.live 1
    have r2 := q2.cel 2 _ rfl
    have f2 := q2.live 2
    have r3 := q2.cel 3 _ rfl
    have f3 := q2.live 3
    have r4 := q2.cel 4 _ rfl
    have f4 := q2.live 4
    have r5 := q2.cel 5 _ rfl
    have f5 := q2.live 5
    have g0 := q9.cel 0 _ rfl
    have g1 := q9.cel 1 _ rfl
    have g2 := q9.cel 2 _ rfl
    have g3 := q9.cel 3 _ rfl
    have HV7 := hide hV7
    clear hV7 q2 q9
    go_upto_region 35 with fail
    rw [HV7.out]
    clear HV7 m0 m1 m2 m3 l0 l1 l2 l3
    go_wp2_with fail
    refine bodyPost_ret (v := .agg #[.int .i64 0, .slice none 0 0, .int .i64 3, .int .i64 0, .string sArrow, .slice p0 2 q0]) (by simp [results, Try.results6, go_sem, r0, r1, r2, r3, r4, r5]) rfl ⟨sch 0 (ty4 3 0 sArrow p0 2 q0 ((ty4 3 0 sInt ai 0 ci .nil).app (ty4 3 0 sChar ac 0 cc .nil))), rfl, ⟨rfl, rfl, trivial, (fun_sim2 base_sim base_sim _ _)⟩, HF.out.2.2 _ ?_⟩
    repeat first | (with_reducible refine Kept.set ?_ (by simp)) | with_reducible exact Kept.refl _ _
  · subst hs
    have kI := HQI.out
    have kI0 := kI.cel 0 _ rfl
    have kI1 := kI.cel 1 _ rfl
    have kI2 := kI.cel 2 _ rfl
    have kI3 := kI.cel 3 _ rfl
    have kC := HQC.out
    have kC0 := kC.cel 0 _ rfl
    have kC1 := kC.cel 1 _ rfl
    have kC2 := kC.cel 2 _ rfl
    have kC3 := kC.cel 3 _ rfl
    go_upto_region 23 with fail
    go_region_law (first
      | (refine step_call (by rfl) 23 #[.agg #[.int .i64 3, .int .i64 0, .string sInt, .slice ai 0 ci], .agg #[.int .i64 3, .int .i64 0, .string sList, .slice p0 1 q0]] (by simp [go_sem]) _ (m_fun' VP.heap.size 3 0 sInt ai 0 ci .nil 3 0 sList p0 1 q0 (ty4 3 0 sChar ac 0 cc .nil) _ HK0.out.size (sub0 HSI.out) HS0_0.out) ?_; rintro v v1 ⟨p1, q1, rfl, bb, ss⟩; have HK1 : Hid (Kept (fun _ => True) VP v1) := HK0.out.trans (kt bb); have HS1_1 := hide ss; have q7 := HQ7.out.kept HK1.out trivial; have m0 := q7.cel 0 _ rfl; have l0 := q7.live 0; have m1 := q7.cel 1 _ rfl; have l1 := q7.live 1; have m2 := q7.cel 2 _ rfl; have l2 := q7.live 2; have m3 := q7.cel 3 _ rfl; have l3 := q7.live 3; clear q7; clear bb ss)
      | (refine step_call (by rfl) 24 #[.agg #[.int .i64 3, .int .i64 0, .string sChar, .slice ac 0 cc]] (by simp [go_sem]) _ (m_list' VP.heap.size 3 0 sChar ac 0 cc .nil _ (Nat.le_refl _) (sub0 HSC.out)) ?_; rintro v v0 ⟨p0, q0, rfl, bb, ss⟩; have HK0 : Hid (Kept (fun _ => True) VP v0) := (Kept.drew _ _).trans (kt bb); have HS0_0 := hide ss; have kI := HQI.out.kept HK0.out trivial; have kI0_0 := kI.cel 0 _ rfl; have kI1_0 := kI.cel 1 _ rfl; have kI2_0 := kI.cel 2 _ rfl; have kI3_0 := kI.cel 3 _ rfl; clear kI; have kC := HQC.out.kept HK0.out trivial; have kC0_0 := kC.cel 0 _ rfl; have kC1_0 := kC.cel 1 _ rfl; have kC2_0 := kC.cel 2 _ rfl; have kC3_0 := kC.cel 3 _ rfl; clear kC; clear bb ss))
    all_goals
      obtain ⟨V7, hV7⟩ : ∃ V7, (((v1.setCell ⟨V4.heap.size, 0, none⟩ (.int .i64 3)).setCell ⟨V4.heap.size, 1, none⟩ (.int .i64 0)).setCell ⟨V4.heap.size, 2, none⟩ (.string sArrow)).setCell ⟨V4.heap.size, 3, none⟩ (.slice p1 2 q1) = V7 := ⟨_, rfl⟩
      have HF := hide (fin7 HQ2.out HQ7.out HZZ.out HKP.out HK1.out HS1_1.out 0 hV7)
      have q2 := HF.out.1
      have q9 := HF.out.2.1
      have r0 := q2.cel 0 _ rfl
      have f0 := q2.live 0
      have r1 := q2.cel 1 _ rfl
      have f1 := q2.live 1
      have r2 := q2.cel 2 _ rfl
      have f2 := q2.live 2
      have r3 := q2.cel 3 _ rfl
      have f3 := q2.live 3
      have r4 := q2.cel 4 _ rfl
      have f4 := q2.live 4
      have r5 := q2.cel 5 _ rfl
      have f5 := q2.live 5
      have g0 := q9.cel 0 _ rfl
      have g1 := q9.cel 1 _ rfl
      have g2 := q9.cel 2 _ rfl
      have g3 := q9.cel 3 _ rfl
      have HV7 := hide hV7
      clear hV7 q2 q9
      go_upto_region 35 with fail
      rw [HV7.out]
      clear HV7 m0 m1 m2 m3 l0 l1 l2 l3
      go_wp2_with fail
      refine bodyPost_ret (v := .agg #[.int .i64 0, .slice none 0 0, .int .i64 3, .int .i64 0, .string sArrow, .slice p1 2 q1]) (by simp [results, Try.results6, go_sem, r0, r1, r2, r3, r4, r5]) rfl ⟨sch 0 (ty4 3 0 sArrow p1 2 q1 ((ty4 3 0 sInt ai 0 ci .nil).app (ty4 3 0 sList p0 1 q0 (ty4 3 0 sChar ac 0 cc .nil)))), rfl, ⟨rfl, rfl, trivial, (fun_sim2 base_sim (list_sim2 base_sim _ _) _ _)⟩, HF.out.2.2 _ ?_⟩
      repeat first | (with_reducible refine Kept.set ?_ (by simp)) | with_reducible exact Kept.refl _ _
  · subst hs
    have kG := HQG.out
    have kG0 := kG.cel 0 _ rfl
    have kG1 := kG.cel 1 _ rfl
    have kG2 := kG.cel 2 _ rfl
    have kG3 := kG.cel 3 _ rfl
    go_upto_region 27 with fail
    go_region_law (first
      | (refine step_call (by rfl) 23 #[.agg #[.int .i64 3, .int .i64 0, .string sList, .slice p0 1 q0], .agg #[.int .i64 3, .int .i64 0, .string sArrow, .slice p3 2 q3]] (by simp [go_sem]) _ (m_fun' VP.heap.size 3 0 sList p0 1 q0 (ty4 2 0 ⟨#[]⟩ none 0 0 .nil) 3 0 sArrow p3 2 q3 ((ty4 3 0 sList p1 1 q1 (ty4 2 0 ⟨#[]⟩ none 0 0 .nil)).app (ty4 3 0 sList p2 1 q2 (ty4 2 0 ⟨#[]⟩ none 0 0 .nil))) _ HK3.out.size HS0_3.out HS3_3.out) ?_; rintro v v4 ⟨p4, q4, rfl, bb, ss⟩; have HK4 : Hid (Kept (fun _ => True) VP v4) := HK3.out.trans (kt bb); have HS4_4 := hide ss; have q7 := HQ7.out.kept HK4.out trivial; have m0 := q7.cel 0 _ rfl; have l0 := q7.live 0; have m1 := q7.cel 1 _ rfl; have l1 := q7.live 1; have m2 := q7.cel 2 _ rfl; have l2 := q7.live 2; have m3 := q7.cel 3 _ rfl; have l3 := q7.live 3; clear q7; clear bb ss)
      | (refine step_call (by rfl) 23 #[.agg #[.int .i64 3, .int .i64 0, .string sList, .slice p1 1 q1], .agg #[.int .i64 3, .int .i64 0, .string sList, .slice p2 1 q2]] (by simp [go_sem]) _ (m_fun' VP.heap.size 3 0 sList p1 1 q1 (ty4 2 0 ⟨#[]⟩ none 0 0 .nil) 3 0 sList p2 1 q2 (ty4 2 0 ⟨#[]⟩ none 0 0 .nil) _ HK2.out.size HS1_2.out HS2_2.out) ?_; rintro v v3 ⟨p3, q3, rfl, bb, ss⟩; have HK3 : Hid (Kept (fun _ => True) VP v3) := HK2.out.trans (kt bb); have HS3_3 := hide ss; have HS0_3 := hide (sub_up HS0_2.out bb); have kG := HQG.out.kept HK3.out trivial; have kG0_3 := kG.cel 0 _ rfl; have kG1_3 := kG.cel 1 _ rfl; have kG2_3 := kG.cel 2 _ rfl; have kG3_3 := kG.cel 3 _ rfl; clear kG; clear bb ss)
      | (refine step_call (by rfl) 24 #[.agg #[.int .i64 2, .int .i64 0, .string ⟨#[]⟩, .slice none 0 0]] (by simp [go_sem]) _ (m_list' VP.heap.size 2 0 (⟨#[]⟩) none 0 0 .nil _ HK1.out.size (subN)) ?_; rintro v v2 ⟨p2, q2, rfl, bb, ss⟩; have HK2 : Hid (Kept (fun _ => True) VP v2) := HK1.out.trans (kt bb); have HS2_2 := hide ss; have HS0_2 := hide (sub_up HS0_1.out bb); have HS1_2 := hide (sub_up HS1_1.out bb); have kG := HQG.out.kept HK2.out trivial; have kG0_2 := kG.cel 0 _ rfl; have kG1_2 := kG.cel 1 _ rfl; have kG2_2 := kG.cel 2 _ rfl; have kG3_2 := kG.cel 3 _ rfl; clear kG; clear bb ss)
      | (refine step_call (by rfl) 24 #[.agg #[.int .i64 2, .int .i64 0, .string ⟨#[]⟩, .slice none 0 0]] (by simp [go_sem]) _ (m_list' VP.heap.size 2 0 (⟨#[]⟩) none 0 0 .nil _ HK0.out.size (subN)) ?_; rintro v v1 ⟨p1, q1, rfl, bb, ss⟩; have HK1 : Hid (Kept (fun _ => True) VP v1) := HK0.out.trans (kt bb); have HS1_1 := hide ss; have HS0_1 := hide (sub_up HS0_0.out bb); have kG := HQG.out.kept HK1.out trivial; have kG0_1 := kG.cel 0 _ rfl; have kG1_1 := kG.cel 1 _ rfl; have kG2_1 := kG.cel 2 _ rfl; have kG3_1 := kG.cel 3 _ rfl; clear kG; clear bb ss)
      | (refine step_call (by rfl) 24 #[.agg #[.int .i64 2, .int .i64 0, .string ⟨#[]⟩, .slice none 0 0]] (by simp [go_sem]) _ (m_list' VP.heap.size 2 0 (⟨#[]⟩) none 0 0 .nil _ (Nat.le_refl _) (subN)) ?_; rintro v v0 ⟨p0, q0, rfl, bb, ss⟩; have HK0 : Hid (Kept (fun _ => True) VP v0) := (Kept.drew _ _).trans (kt bb); have HS0_0 := hide ss; have kG := HQG.out.kept HK0.out trivial; have kG0_0 := kG.cel 0 _ rfl; have kG1_0 := kG.cel 1 _ rfl; have kG2_0 := kG.cel 2 _ rfl; have kG3_0 := kG.cel 3 _ rfl; clear kG; clear bb ss))
    all_goals
      obtain ⟨V7, hV7⟩ : ∃ V7, (((v4.setCell ⟨V4.heap.size, 0, none⟩ (.int .i64 3)).setCell ⟨V4.heap.size, 1, none⟩ (.int .i64 0)).setCell ⟨V4.heap.size, 2, none⟩ (.string sArrow)).setCell ⟨V4.heap.size, 3, none⟩ (.slice p4 2 q4) = V7 := ⟨_, rfl⟩
      have HF := hide (fin7 HQ2.out HQ7.out HZZ.out HKP.out HK4.out HS4_4.out 1 hV7)
      have q2 := HF.out.1
      have q9 := HF.out.2.1
      have r0 := q2.cel 0 _ rfl
      have f0 := q2.live 0
      have r1 := q2.cel 1 _ rfl
      have f1 := q2.live 1
      have r2 := q2.cel 2 _ rfl
      have f2 := q2.live 2
      have r3 := q2.cel 3 _ rfl
      have f3 := q2.live 3
      have r4 := q2.cel 4 _ rfl
      have f4 := q2.live 4
      have r5 := q2.cel 5 _ rfl
      have f5 := q2.live 5
      have g0 := q9.cel 0 _ rfl
      have g1 := q9.cel 1 _ rfl
      have g2 := q9.cel 2 _ rfl
      have g3 := q9.cel 3 _ rfl
      have HV7 := hide hV7
      clear hV7 q2 q9
      go_upto_region 35 with fail
      rw [HV7.out]
      clear HV7 m0 m1 m2 m3 l0 l1 l2 l3
      go_wp2_with fail
      refine bodyPost_ret (v := .agg #[.int .i64 1, .slice none 0 0, .int .i64 3, .int .i64 0, .string sArrow, .slice p4 2 q4]) (by simp [results, Try.results6, go_sem, r0, r1, r2, r3, r4, r5]) rfl ⟨sch 1 (ty4 3 0 sArrow p4 2 q4 ((ty4 3 0 sList p0 1 q0 (ty4 2 0 ⟨#[]⟩ none 0 0 .nil)).app (ty4 3 0 sArrow p3 2 q3 ((ty4 3 0 sList p1 1 q1 (ty4 2 0 ⟨#[]⟩ none 0 0 .nil)).app (ty4 3 0 sList p2 1 q2 (ty4 2 0 ⟨#[]⟩ none 0 0 .nil)))))), rfl, ⟨rfl, rfl, trivial, (fun_sim2 (list_sim2 base_sim _ _) (fun_sim2 (list_sim2 base_sim _ _) (list_sim2 base_sim _ _) _ _) _ _)⟩, HF.out.2.2 _ ?_⟩
      repeat first | (with_reducible refine Kept.set ?_ (by simp)) | with_reducible exact Kept.refl _ _
  · subst hs
    have kG := HQG.out
    have kG0 := kG.cel 0 _ rfl
    have kG1 := kG.cel 1 _ rfl
    have kG2 := kG.cel 2 _ rfl
    have kG3 := kG.cel 3 _ rfl
    go_upto_region 30 with fail
    go_region_law (first
      | (refine step_call (by rfl) 23 #[.agg #[.int .i64 2, .int .i64 0, .string ⟨#[]⟩, .slice none 0 0], .agg #[.int .i64 3, .int .i64 0, .string sArrow, .slice p2 2 q2]] (by simp [go_sem]) _ (m_fun' VP.heap.size 2 0 (⟨#[]⟩) none 0 0 .nil 3 0 sArrow p2 2 q2 ((ty4 2 1 ⟨#[]⟩ none 0 0 .nil).app (ty4 2 1 ⟨#[]⟩ none 0 0 .nil)) _ HK2.out.size (subN) HS2_2.out) ?_; rintro v v3 ⟨p3, q3, rfl, bb, ss⟩; have HK3 : Hid (Kept (fun _ => True) VP v3) := HK2.out.trans (kt bb); have HS3_3 := hide ss; have q7 := HQ7.out.kept HK3.out trivial; have m0 := q7.cel 0 _ rfl; have l0 := q7.live 0; have m1 := q7.cel 1 _ rfl; have l1 := q7.live 1; have m2 := q7.cel 2 _ rfl; have l2 := q7.live 2; have m3 := q7.cel 3 _ rfl; have l3 := q7.live 3; clear q7; clear bb ss)
      | (refine step_call (by rfl) 23 #[.agg #[.int .i64 2, .int .i64 1, .string ⟨#[]⟩, .slice none 0 0], .agg #[.int .i64 2, .int .i64 1, .string ⟨#[]⟩, .slice none 0 0]] (by simp [go_sem]) _ (m_fun' VP.heap.size 2 1 (⟨#[]⟩) none 0 0 .nil 2 1 (⟨#[]⟩) none 0 0 .nil _ HK1.out.size (subN) (subN)) ?_; rintro v v2 ⟨p2, q2, rfl, bb, ss⟩; have HK2 : Hid (Kept (fun _ => True) VP v2) := HK1.out.trans (kt bb); have HS2_2 := hide ss; have kG := HQG.out.kept HK2.out trivial; have kG0_2 := kG.cel 0 _ rfl; have kG1_2 := kG.cel 1 _ rfl; have kG2_2 := kG.cel 2 _ rfl; have kG3_2 := kG.cel 3 _ rfl; clear kG; clear bb ss)
      | (refine step_call (by rfl) 22 #[.int .i64 1] (by simp [go_sem]) _ (m_gen' 1 _) ?_; rintro v v1 ⟨rfl, bb⟩; have HK1 : Hid (Kept (fun _ => True) VP v1) := HK0.out.trans (kt bb); have kG := HQG.out.kept HK1.out trivial; have kG0_1 := kG.cel 0 _ rfl; have kG1_1 := kG.cel 1 _ rfl; have kG2_1 := kG.cel 2 _ rfl; have kG3_1 := kG.cel 3 _ rfl; clear kG; clear bb)
      | (refine step_call (by rfl) 22 #[.int .i64 1] (by simp [go_sem]) _ (m_gen' 1 _) ?_; rintro v v0 ⟨rfl, bb⟩; have HK0 : Hid (Kept (fun _ => True) VP v0) := (Kept.drew _ _).trans (kt bb); have kG := HQG.out.kept HK0.out trivial; have kG0_0 := kG.cel 0 _ rfl; have kG1_0 := kG.cel 1 _ rfl; have kG2_0 := kG.cel 2 _ rfl; have kG3_0 := kG.cel 3 _ rfl; clear kG; clear bb))
    all_goals
      obtain ⟨V7, hV7⟩ : ∃ V7, (((v3.setCell ⟨V4.heap.size, 0, none⟩ (.int .i64 3)).setCell ⟨V4.heap.size, 1, none⟩ (.int .i64 0)).setCell ⟨V4.heap.size, 2, none⟩ (.string sArrow)).setCell ⟨V4.heap.size, 3, none⟩ (.slice p3 2 q3) = V7 := ⟨_, rfl⟩
      have HF := hide (fin7 HQ2.out HQ7.out HZZ.out HKP.out HK3.out HS3_3.out 2 hV7)
      have q2 := HF.out.1
      have q9 := HF.out.2.1
      have r0 := q2.cel 0 _ rfl
      have f0 := q2.live 0
      have r1 := q2.cel 1 _ rfl
      have f1 := q2.live 1
      have r2 := q2.cel 2 _ rfl
      have f2 := q2.live 2
      have r3 := q2.cel 3 _ rfl
      have f3 := q2.live 3
      have r4 := q2.cel 4 _ rfl
      have f4 := q2.live 4
      have r5 := q2.cel 5 _ rfl
      have f5 := q2.live 5
      have g0 := q9.cel 0 _ rfl
      have g1 := q9.cel 1 _ rfl
      have g2 := q9.cel 2 _ rfl
      have g3 := q9.cel 3 _ rfl
      have HV7 := hide hV7
      clear hV7 q2 q9
      go_upto_region 35 with fail
      rw [HV7.out]
      clear HV7 m0 m1 m2 m3 l0 l1 l2 l3
      go_wp2_with fail
      refine bodyPost_ret (v := .agg #[.int .i64 2, .slice none 0 0, .int .i64 3, .int .i64 0, .string sArrow, .slice p3 2 q3]) (by simp [results, Try.results6, go_sem, r0, r1, r2, r3, r4, r5]) rfl ⟨sch 2 (ty4 3 0 sArrow p3 2 q3 ((ty4 2 0 ⟨#[]⟩ none 0 0 .nil).app (ty4 3 0 sArrow p2 2 q2 ((ty4 2 1 ⟨#[]⟩ none 0 0 .nil).app (ty4 2 1 ⟨#[]⟩ none 0 0 .nil))))), rfl, ⟨rfl, rfl, trivial, (fun_sim2 base_sim (fun_sim2 base_sim base_sim _ _) _ _)⟩, HF.out.2.2 _ ?_⟩
      repeat first | (with_reducible refine Kept.set ?_ (by simp)) | with_reducible exact Kept.refl _ _
  · subst hs
    have kC := HQC.out
    have kC0 := kC.cel 0 _ rfl
    have kC1 := kC.cel 1 _ rfl
    have kC2 := kC.cel 2 _ rfl
    have kC3 := kC.cel 3 _ rfl
    have kG := HQG.out
    have kG0 := kG.cel 0 _ rfl
    have kG1 := kG.cel 1 _ rfl
    have kG2 := kG.cel 2 _ rfl
    have kG3 := kG.cel 3 _ rfl
    go_upto_region 33 with fail
    go_region_law (first
      | (refine step_call (by rfl) 23 #[.agg #[.int .i64 3, .int .i64 0, .string sList, .slice p0 1 q0], .agg #[.int .i64 2, .int .i64 0, .string ⟨#[]⟩, .slice none 0 0]] (by simp [go_sem]) _ (m_fun' VP.heap.size 3 0 sList p0 1 q0 (ty4 3 0 sChar ac 0 cc .nil) 2 0 (⟨#[]⟩) none 0 0 .nil _ HK0.out.size HS0_0.out (subN)) ?_; rintro v v1 ⟨p1, q1, rfl, bb, ss⟩; have HK1 : Hid (Kept (fun _ => True) VP v1) := HK0.out.trans (kt bb); have HS1_1 := hide ss; have q7 := HQ7.out.kept HK1.out trivial; have m0 := q7.cel 0 _ rfl; have l0 := q7.live 0; have m1 := q7.cel 1 _ rfl; have l1 := q7.live 1; have m2 := q7.cel 2 _ rfl; have l2 := q7.live 2; have m3 := q7.cel 3 _ rfl; have l3 := q7.live 3; clear q7; clear bb ss)
      | (refine step_call (by rfl) 24 #[.agg #[.int .i64 3, .int .i64 0, .string sChar, .slice ac 0 cc]] (by simp [go_sem]) _ (m_list' VP.heap.size 3 0 sChar ac 0 cc .nil _ (Nat.le_refl _) (sub0 HSC.out)) ?_; rintro v v0 ⟨p0, q0, rfl, bb, ss⟩; have HK0 : Hid (Kept (fun _ => True) VP v0) := (Kept.drew _ _).trans (kt bb); have HS0_0 := hide ss; have kC := HQC.out.kept HK0.out trivial; have kC0_0 := kC.cel 0 _ rfl; have kC1_0 := kC.cel 1 _ rfl; have kC2_0 := kC.cel 2 _ rfl; have kC3_0 := kC.cel 3 _ rfl; clear kC; have kG := HQG.out.kept HK0.out trivial; have kG0_0 := kG.cel 0 _ rfl; have kG1_0 := kG.cel 1 _ rfl; have kG2_0 := kG.cel 2 _ rfl; have kG3_0 := kG.cel 3 _ rfl; clear kG; clear bb ss))
    all_goals
      obtain ⟨V7, hV7⟩ : ∃ V7, (((v1.setCell ⟨V4.heap.size, 0, none⟩ (.int .i64 3)).setCell ⟨V4.heap.size, 1, none⟩ (.int .i64 0)).setCell ⟨V4.heap.size, 2, none⟩ (.string sArrow)).setCell ⟨V4.heap.size, 3, none⟩ (.slice p1 2 q1) = V7 := ⟨_, rfl⟩
      have HF := hide (fin7 HQ2.out HQ7.out HZZ.out HKP.out HK1.out HS1_1.out 1 hV7)
      have q2 := HF.out.1
      have q9 := HF.out.2.1
      have r0 := q2.cel 0 _ rfl
      have f0 := q2.live 0
      have r1 := q2.cel 1 _ rfl
      have f1 := q2.live 1
      have r2 := q2.cel 2 _ rfl
      have f2 := q2.live 2
      have r3 := q2.cel 3 _ rfl
      have f3 := q2.live 3
      have r4 := q2.cel 4 _ rfl
      have f4 := q2.live 4
      have r5 := q2.cel 5 _ rfl
      have f5 := q2.live 5
      have g0 := q9.cel 0 _ rfl
      have g1 := q9.cel 1 _ rfl
      have g2 := q9.cel 2 _ rfl
      have g3 := q9.cel 3 _ rfl
      have HV7 := hide hV7
      clear hV7 q2 q9
      go_upto_region 35 with fail
      rw [HV7.out]
      clear HV7 m0 m1 m2 m3 l0 l1 l2 l3
      go_wp2_with fail
      refine bodyPost_ret (v := .agg #[.int .i64 1, .slice none 0 0, .int .i64 3, .int .i64 0, .string sArrow, .slice p1 2 q1]) (by simp [results, Try.results6, go_sem, r0, r1, r2, r3, r4, r5]) rfl ⟨sch 1 (ty4 3 0 sArrow p1 2 q1 ((ty4 3 0 sList p0 1 q0 (ty4 3 0 sChar ac 0 cc .nil)).app (ty4 2 0 ⟨#[]⟩ none 0 0 .nil))), rfl, ⟨rfl, rfl, trivial, (fun_sim2 (list_sim2 base_sim _ _) base_sim _ _)⟩, HF.out.2.2 _ ?_⟩
      repeat first | (with_reducible refine Kept.set ?_ (by simp)) | with_reducible exact Kept.refl _ _
  · subst hs
    have kI := HQI.out
    have kI0 := kI.cel 0 _ rfl
    have kI1 := kI.cel 1 _ rfl
    have kI2 := kI.cel 2 _ rfl
    have kI3 := kI.cel 3 _ rfl
    go_wp2_with fail
    refine (m_fun' VP.heap.size 3 0 sInt ai 0 ci .nil 3 0 sInt ai 0 ci .nil _ (Nat.le_refl _) (sub0 HSI.out) (sub0 HSI.out)).mono ?_
    rintro e v0 ⟨_, rfl, p0, q0, rfl, bb, ss⟩
    have HK0 : Hid (Kept (fun _ => True) VP v0) := (Kept.refl _ _).trans (kt bb)
    have HS0_0 := hide ss
    have q7 := HQ7.out.kept HK0.out trivial
    have m0 := q7.cel 0 _ rfl
    have l0 := q7.live 0
    have m1 := q7.cel 1 _ rfl
    have l1 := q7.live 1
    have m2 := q7.cel 2 _ rfl
    have l2 := q7.live 2
    have m3 := q7.cel 3 _ rfl
    have l3 := q7.live 3
    clear q7
    clear bb ss
    obtain ⟨V7, hV7⟩ : ∃ V7, (((v0.setCell ⟨V4.heap.size, 0, none⟩ (.int .i64 3)).setCell ⟨V4.heap.size, 1, none⟩ (.int .i64 0)).setCell ⟨V4.heap.size, 2, none⟩ (.string sArrow)).setCell ⟨V4.heap.size, 3, none⟩ (.slice p0 2 q0) = V7 := ⟨_, rfl⟩
    have HF := hide (fin7 HQ2.out HQ7.out HZZ.out HKP.out HK0.out HS0_0.out 0 hV7)
    have q2 := HF.out.1
    have q9 := HF.out.2.1
    have r0 := q2.cel 0 _ rfl
    have f0 := q2.live 0
    have r1 := q2.cel 1 _ rfl
    have f1 := q2.live 1
    have r2 := q2.cel 2 _ rfl
    have f2 := q2.live 2
    have r3 := q2.cel 3 _ rfl
    have f3 := q2.live 3
    have r4 := q2.cel 4 _ rfl
    have f4 := q2.live 4
    have r5 := q2.cel 5 _ rfl
    have f5 := q2.live 5
    have g0 := q9.cel 0 _ rfl
    have g1 := q9.cel 1 _ rfl
    have g2 := q9.cel 2 _ rfl
    have g3 := q9.cel 3 _ rfl
    have HV7 := hide hV7
    clear hV7 q2 q9
    go_upto_region 35 with fail
    rw [HV7.out]
    clear HV7 m0 m1 m2 m3 l0 l1 l2 l3
    go_wp2_with fail
    refine bodyPost_ret (v := .agg #[.int .i64 0, .slice none 0 0, .int .i64 3, .int .i64 0, .string sArrow, .slice p0 2 q0]) (by simp [results, Try.results6, go_sem, r0, r1, r2, r3, r4, r5]) rfl ⟨sch 0 (ty4 3 0 sArrow p0 2 q0 ((ty4 3 0 sInt ai 0 ci .nil).app (ty4 3 0 sInt ai 0 ci .nil))), rfl, ⟨rfl, rfl, trivial, (fun_sim2 base_sim base_sim _ _)⟩, HF.out.2.2 _ ?_⟩
    repeat first | (with_reducible refine Kept.set ?_ (by simp)) | with_reducible exact Kept.refl _ _
  · obtain ⟨n0, n1, n2, n3, n4, n5, n6, n7, n8, n9, n10, n11, n12, n13⟩ := hs
    have r := HQ2.out
    have r0 := r.cel 0 _ rfl
    have r1 := r.cel 1 _ rfl
    have r2 := r.cel 2 _ rfl
    have r3 := r.cel 3 _ rfl
    have r4 := r.cel 4 _ rfl
    have r5 := r.cel 5 _ rfl
    have f0 := r.live 0
    have f1 := r.live 1
    have f2 := r.live 2
    have f3 := r.live 3
    have f4 := r.live 4
    have f5 := r.live 5
    have HF : Hid (∀ W, Kept (fun c => c ≠ V.heap.size) VP W → Below V.heap.size V W ∧ (sch 0 (ty4 0 0 ⟨#[]⟩ none 0 0 .nil)).Subs W (fun c => c < W.heap.size)) := fun W kW =>
      ⟨Below.kept (HKP.out.below (fun _ _ => trivial) (Nat.le_refl _)) kW (fun c hc => by omega) (Nat.le_refl _), ⟨⟨Nat.le_refl _, Nat.zero_le _, fun hl => by simp [Fo.len] at hl⟩, subN⟩⟩
    clear r
    go_wp2_with fail
    refine bodyPost_ret (v := .agg #[.int .i64 0, .slice none 0 0, .int .i64 0, .int .i64 0, .string ⟨#[]⟩, .slice none 0 0]) (by simp [results, Try.results6, go_sem, r0, r1, r2, r3, r4, r5]) rfl ⟨sch 0 (ty4 0 0 ⟨#[]⟩ none 0 0 .nil), rfl, Fo.sim.refl _, HF.out _ ?_⟩
    repeat first | (with_reducible refine Kept.set ?_ (by simp)) | with_reducible exact Kept.refl _ _

end Go.Proofs.Ytanjgmmkodlffaa.U
