import Derived.Test.YtkjbkmhmghmodaaKx
import Derived.Test.YtkjbkmhmghmodaaKHdPred
import Derived.Test.YtkjbkmhmghmodaaKHdType
namespace Go.Proofs.Ytkjbkmhmghmodaa
open Go.RowKit Go.Joins

set_option maxHeartbeats 2000000 in
set_option maxRecDepth 100000 in
theorem hd_R_MethodInfoS (m : Nat) : HdR Try.prog E 48 (E 7) m := by
  intro F n nb a cap k W hm hf hn hk0 hk hs
  have hmx : n ≤ 9223372036854775807 := by have h2 := hs.1; have h3 := hs.2.1; simp only [maxLen] at h3; omega
  have HR := hide (RdM.start hf hs)
  have HM := hide hm
  have HK := hide hk
  clear hf hs hm hk
  go_enter Try.func48, Try.ntmps48
  go_wp2_with fail
  go_loopw [1, 5] (fun s1 s5 wr => ∃ (i q : Nat) (r : Fo), s1 = .int .i64 (q : Int) ∧ s5 = .int .i64 i ∧ i ≤ n ∧ Hid (0 < q ∧ q + r.ct = k + F.ct) ∧ Hid (r.size ≤ F.size) ∧ Hid (RdM E (E 7) n nb a i q r wr) ∧ Hid (Below W.heap.size W wr)) (fun _ s5 _ => n - (intOf s5).toNat)
  case atStart => exact ⟨0, k, F, rfl, rfl, Nat.zero_le _, ⟨hk0, rfl⟩, Nat.le_refl _, HR, Below.refl _ _⟩
  case round =>
    obtain ⟨i, q, r, rfl, rfl, hin, hq, hrs, hR, hB⟩ := hrel
    by_cases hi : i < n
    · obtain ⟨x, rr, b, o, rfl, hx, rfl, hb, hc, hxs, hR1⟩ := hR.out.next hi (by decide)
      have hii : (i : Int) < n := by omega
      have hct := hq.out
      have hsz := hrs.out
      have hbz := hB.out.size
      clear hR hq hrs
      replace hx : Fit E x [.t, .t, .i, .s 5, .i, .i, .t, .s 2] := hx
      obtain ⟨x0, F0, rfl, hx0, hx⟩ := fit_t hx
      obtain ⟨x1, F1, rfl, hx1, hx⟩ := fit_t hx
      obtain ⟨x2, F2, rfl, hx2, hx⟩ := fit_i hx
      obtain ⟨a3, n3, c3, k3, F3, rfl, hf3, hx⟩ := fit_s hx
      obtain ⟨x4, F4, rfl, hx4, hx⟩ := fit_i hx
      obtain ⟨x5, F5, rfl, hx5, hx⟩ := fit_i hx
      obtain ⟨x6, F6, rfl, hx6, hx⟩ := fit_t hx
      obtain ⟨a7, n7, c7, k7, F7, rfl, hf7, hx⟩ := fit_s hx
      obtain rfl := fit_nil hx
      simp only [Fo.app_ct, Fo.ct] at hct
      simp only [Fo.app_size, Fo.size] at hsz
      simp only [Fo.ct] at hR1
      have hqk : 0 < q ∧ q + (1 + 1 + 1 + k3.ct + 1 + 1 + 1 + k7.ct) ≤ 4294967296 := by have := HK.out; omega
      have HQK := hide hqk
      have hv0 : q + 6 ≤ 4294967296 := by omega
      have HCT := hide hct
      have HSZ := hide hsz
      have HBZ := hide hbz
      have HR1 := hide hR1
      have C0 := hide hc
      obtain ⟨hs3, hs7, -⟩ := hxs
      have HS3 := hide hs3
      have HS7 := hide hs7
      clear hs3 hs7
      clear hc hct hsz hqk hbz hR1
      have HG0 := hide (Below.refl wr.heap.size wr)
      have p0_0 : wr.cell? ⟨b, o + i * 8, none⟩ = some (.string (mt (q))) := by
        have h1 : wr.cell? ⟨b, o + i * 8, none⟩ = some (.string (mt (q))) := C0.out 0 _ rfl
        skip
        refine h1.trans ?_
        skip
        first | rfl | (congr 2; done) | (congr 2; omega) | (congr 3; omega) | (congr 4; omega)
      have hd0 : Hid (Below wr.heap.size wr wr.drew) := (Below.refl _ _).drew
      have HM0 : Hid (Calls Try.prog 79 #[.int .i64 ((q : Int))] wr.drew fun e w' => e = .returned (.string (mt (q))) ∧ Below wr.drew.heap.size wr.drew w') := by
        have e : ((q : Nat) : Int) = (q : Int) := by omega
        unfold Hid
        rw [← e]
        exact markText (q) wr.drew (by have := HQK.out;  omega) (by have := HQK.out;  omega)
      have HX0 : Hid (∀ V, Below wr.heap.size wr V → V.cell? ⟨b, o + i * 8, none⟩ = some (.string (mt (q)))) := fun V bV => (bV.cell (p := ⟨b, o + i * 8, none⟩) (by have := HBZ.out; have := HG0.out.size; show b < _; omega)).trans p0_0
      have kk0 := HX0.out wr.drew hd0.out
      go_wp2_with fail
      go_region_held3 (fun V => V.cell? ⟨b, o + i * 8, none⟩ = some (.string (mt (q))))
        (first | with_reducible exact kk1 | with_reducible exact kk0)
        (first | (go_at_call 79; refine HM0.out.mono ?_; rintro e w1 ⟨rfl, f1⟩; have G1 := hd0.out.trans (show Below wr.heap.size wr.drew w1 from f1); have kk1 := HX0.out w1 G1))
      have HG1 := hide (HG0.out.trans (G1.mono HG0.out.size))
      have C1 := hide (C0.out.below G1 (by have := HBZ.out; have := HG0.out.size; omega))
      clear G1 f1 kk1 kk0 p0_0 HX0 HM0 hd0
      have p1_1 : w1.cell? ⟨b, o + i * 8 + 1, none⟩ = some (.string (mt (q + 1))) := by
        have h1 : w1.cell? ⟨b, o + i * 8 + 1, none⟩ = some (.string (mt (q + 1))) := C1.out 1 _ rfl
        skip
        refine h1.trans ?_
        skip
        first | rfl | (congr 2; done) | (congr 2; omega) | (congr 3; omega) | (congr 4; omega)
      have hd1 : Hid (Below w1.heap.size w1 w1.drew) := (Below.refl _ _).drew
      have HM1 : Hid (Calls Try.prog 79 #[.int .i64 ((q : Int) + 1)] w1.drew fun e w' => e = .returned (.string (mt (q + 1))) ∧ Below w1.drew.heap.size w1.drew w') := by
        have e : ((q + 1 : Nat) : Int) = (q : Int) + 1 := by omega
        unfold Hid
        rw [← e]
        exact markText (q + 1) w1.drew (by have := HQK.out;  omega) (by have := HQK.out;  omega)
      have HX1 : Hid (∀ V, Below w1.heap.size w1 V → V.cell? ⟨b, o + i * 8 + 1, none⟩ = some (.string (mt (q + 1)))) := fun V bV => (bV.cell (p := ⟨b, o + i * 8 + 1, none⟩) (by have := HBZ.out; have := HG1.out.size; show b < _; omega)).trans p1_1
      have kk0 := HX1.out w1.drew hd1.out
      go_wp2_with fail
      go_region_held3 (fun V => V.cell? ⟨b, o + i * 8 + 1, none⟩ = some (.string (mt (q + 1))))
        (first | with_reducible exact kk1 | with_reducible exact kk0)
        (first | (go_at_call 79; refine HM1.out.mono ?_; rintro e w2 ⟨rfl, f2⟩; have G2 := hd1.out.trans (show Below w1.heap.size w1.drew w2 from f2); have kk1 := HX1.out w2 G2))
      have HG2 := hide (HG1.out.trans (G2.mono HG1.out.size))
      have C2 := hide (C1.out.below G2 (by have := HBZ.out; have := HG1.out.size; omega))
      clear G2 f2 kk1 kk0 p1_1 HX1 HM1 hd1
      have p2_2 : w2.cell? ⟨b, o + i * 8 + 2, none⟩ = some (.int .i64 ((q : Int) + 1 + 1)) := by
        have h1 : w2.cell? ⟨b, o + i * 8 + 2, none⟩ = some (.int .i64 ((q + 1 + 1 : Nat) : Int)) := C2.out 2 _ rfl
        skip
        refine h1.trans ?_
        skip
        first | rfl | (congr 2; done) | (congr 2; omega) | (congr 3; omega) | (congr 4; omega)
      have p2_3 : w2.cell? ⟨b, o + i * 8 + 3, none⟩ = some (.slice a3 n3 c3) := C2.out 3 _ rfl
      have HM3 : Hid (Calls Try.prog 73 #[.slice a3 n3 c3, .int .i64 ((q : Int) + 1 + 1 + 1)] w2 fun e w' => e = .returned (.int .i64 ((q + 3 + k3.ct : Nat) : Int)) ∧ Below w2.heap.size w2 w') := by
        have e : ((q + 3 : Nat) : Int) = (q : Int) + 1 + 1 + 1 := by omega
        unfold Hid
        rw [← e]
        have hsj := HS3.out
        have eN : q + 1 + 1 + 1 = q + 3 := by  omega
        rw [eN] at hsj
        exact hd_R_PredS m k3 n3 nb a3 c3 (q + 3) w2 (by have := HM.out; have := HSZ.out; omega) hf3 (by have := HBZ.out; have := HG2.out.size; omega) (by have := HQK.out;  omega) (by have := HQK.out;  omega) (Fo.Sub.below HG2.out (fun c hc => by have := HBZ.out; omega) hsj)
      go_wp2_with fail
      refine HM3.out.mono ?_
      rintro e w3 ⟨rfl, G3⟩
      have HG3 := hide (HG2.out.trans (G3.mono HG2.out.size))
      have C3 := hide (C2.out.below G3 (by have := HBZ.out; have := HG2.out.size; omega))
      obtain ⟨q3, hq3⟩ : ∃ q3, q + 3 + k3.ct = q3 := ⟨_, rfl⟩
      rw [hq3]
      have HQ3 := hide hq3
      have hnn3 : ¬ (q3 : Int) < 0 := by omega
      have hv4 : q3 + 3 ≤ 4294967296 := by have := HQK.out; have := HQ3.out; omega
      clear G3 hq3 HM3 p2_3
      have p3_4 : w3.cell? ⟨b, o + i * 8 + 4, none⟩ = some (.int .i64 ((q3 : Int))) := by
        have h1 : w3.cell? ⟨b, o + i * 8 + 4, none⟩ = some (.int .i64 ((q + 1 + 1 + 1 + k3.ct : Nat) : Int)) := C3.out 4 _ rfl
        skip
        refine h1.trans ?_
        have := HQ3.out
        first | rfl | (congr 2; done) | (congr 2; omega) | (congr 3; omega) | (congr 4; omega)
      have p3_5 : w3.cell? ⟨b, o + i * 8 + 5, none⟩ = some (.int .i64 ((q3 : Int) + 1)) := by
        have h1 : w3.cell? ⟨b, o + i * 8 + 5, none⟩ = some (.int .i64 ((q + 1 + 1 + 1 + k3.ct + 1 : Nat) : Int)) := C3.out 5 _ rfl
        skip
        refine h1.trans ?_
        have := HQ3.out
        first | rfl | (congr 2; done) | (congr 2; omega) | (congr 3; omega) | (congr 4; omega)
      have p3_6 : w3.cell? ⟨b, o + i * 8 + 6, none⟩ = some (.string (mt (q3 + 2))) := by
        have h1 : w3.cell? ⟨b, o + i * 8 + 6, none⟩ = some (.string (mt (q + 1 + 1 + 1 + k3.ct + 1 + 1))) := C3.out 6 _ rfl
        skip
        refine h1.trans ?_
        have := HQ3.out
        first | rfl | (congr 2; done) | (congr 2; omega) | (congr 3; omega) | (congr 4; omega)
      have hd6 : Hid (Below w3.heap.size w3 w3.drew) := (Below.refl _ _).drew
      have HM6 : Hid (Calls Try.prog 79 #[.int .i64 ((q3 : Int) + 1 + 1)] w3.drew fun e w' => e = .returned (.string (mt (q3 + 2))) ∧ Below w3.drew.heap.size w3.drew w') := by
        have e : ((q3 + 2 : Nat) : Int) = (q3 : Int) + 1 + 1 := by omega
        unfold Hid
        rw [← e]
        exact markText (q3 + 2) w3.drew (by have := HQK.out; have := HQ3.out; omega) (by have := HQK.out; have := HQ3.out; omega)
      have HX6 : Hid (∀ V, Below w3.heap.size w3 V → V.cell? ⟨b, o + i * 8 + 6, none⟩ = some (.string (mt (q3 + 2)))) := fun V bV => (bV.cell (p := ⟨b, o + i * 8 + 6, none⟩) (by have := HBZ.out; have := HG3.out.size; show b < _; omega)).trans p3_6
      have kk0 := HX6.out w3.drew hd6.out
      go_wp2_with fail
      go_region_held3 (fun V => V.cell? ⟨b, o + i * 8 + 6, none⟩ = some (.string (mt (q3 + 2))))
        (first | with_reducible exact kk1 | with_reducible exact kk0)
        (first | (go_at_call 79; refine HM6.out.mono ?_; rintro e w4 ⟨rfl, f4⟩; have G4 := hd6.out.trans (show Below w3.heap.size w3.drew w4 from f4); have kk1 := HX6.out w4 G4))
      have HG4 := hide (HG3.out.trans (G4.mono HG3.out.size))
      have C4 := hide (C3.out.below G4 (by have := HBZ.out; have := HG3.out.size; omega))
      clear G4 f4 kk1 kk0 p3_6 HX6 HM6 hd6
      have p4_7 : w4.cell? ⟨b, o + i * 8 + 7, none⟩ = some (.slice a7 n7 c7) := C4.out 7 _ rfl
      have HM7 : Hid (Calls Try.prog 68 #[.slice a7 n7 c7, .int .i64 ((q3 : Int) + 1 + 1 + 1)] w4 fun e w' => e = .returned (.int .i64 ((q3 + 3 + k7.ct : Nat) : Int)) ∧ Below w4.heap.size w4 w') := by
        have e : ((q3 + 3 : Nat) : Int) = (q3 : Int) + 1 + 1 + 1 := by omega
        unfold Hid
        rw [← e]
        have hsj := HS7.out
        have eN : q + 1 + 1 + 1 + k3.ct + 1 + 1 + 1 = q3 + 3 := by have := HQ3.out; omega
        rw [eN] at hsj
        exact hd_R_TypeS m k7 n7 nb a7 c7 (q3 + 3) w4 (by have := HM.out; have := HSZ.out; omega) hf7 (by have := HBZ.out; have := HG4.out.size; omega) (by have := HQK.out; have := HQ3.out; omega) (by have := HQK.out; have := HQ3.out; omega) (Fo.Sub.below HG4.out (fun c hc => by have := HBZ.out; omega) hsj)
      go_wp2_with fail
      refine HM7.out.mono ?_
      rintro e w5 ⟨rfl, G5⟩
      have HG5 := hide (HG4.out.trans (G5.mono HG4.out.size))
      have C5 := hide (C4.out.below G5 (by have := HBZ.out; have := HG4.out.size; omega))
      obtain ⟨q7, hq7⟩ : ∃ q7, q3 + 3 + k7.ct = q7 := ⟨_, rfl⟩
      rw [hq7]
      have HQ7 := hide hq7
      have hnn7 : ¬ (q7 : Int) < 0 := by omega
      have hv8 : q7 + 0 ≤ 4294967296 := by have := HQK.out; have := HQ3.out; have := HQ7.out; omega
      clear G5 hq7 HM7 p4_7
      go_wp2_with fail
      go_roundw
      case rel =>
        have eN : q + ((((k3.ct + ((((k7.ct + (0)) + 1) + 1) + 1)) + 1) + 1) + 1) = q7 := by have := HQ3.out; have := HQ7.out; omega
        have hr := HR1.out
        rw [eN] at hr
        exact ⟨i + 1, q7, rr, rfl, by go_num, by omega, ⟨by have := HQK.out; have := HQ3.out; have := HQ7.out; omega, by have := HCT.out; have := HQ3.out; have := HQ7.out; omega⟩, (by show _ ≤ _; have := HSZ.out; omega), hr.below HG5.out (by have := HBZ.out; omega), hB.out.trans (HG5.out.mono HBZ.out)⟩
      case measure => simp [intOf]; omega
    · obtain ⟨rfl, rfl⟩ := hR.out.done hi
      have h1 := hq.out.2
      simp only [Fo.ct] at h1
      have H1 := hide h1
      clear hR hq hrs h1
      go_wp2_with fail
      go_ret
      exact ⟨ret_int (by have := H1.out; omega), hB.out⟩

end Go.Proofs.Ytkjbkmhmghmodaa
