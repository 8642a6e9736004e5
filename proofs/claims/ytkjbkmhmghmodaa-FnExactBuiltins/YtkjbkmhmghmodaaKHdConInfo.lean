import Derived.Test.YtkjbkmhmghmodaaKx
import Derived.Test.YtkjbkmhmghmodaaKHdType
namespace Go.Proofs.Ytkjbkmhmghmodaa
open Go.RowKit Go.Joins

set_option maxHeartbeats 2000000 in
set_option maxRecDepth 100000 in
theorem hd_R_ConInfoS (m : Nat) : HdR Try.prog E 46 (E 3) m := by
  intro F n nb a cap k W hm hf hn hk0 hk hs
  have hmx : n ≤ 9223372036854775807 := by have h2 := hs.1; have h3 := hs.2.1; simp only [maxLen] at h3; omega
  have HR := hide (RdM.start hf hs)
  have HM := hide hm
  have HK := hide hk
  clear hf hs hm hk
  go_enter Try.func46, Try.ntmps46
  go_wp2_with fail
  go_loopw [1, 5] (fun s1 s5 wr => ∃ (i q : Nat) (r : Fo), s1 = .int .i64 (q : Int) ∧ s5 = .int .i64 i ∧ i ≤ n ∧ Hid (0 < q ∧ q + r.ct = k + F.ct) ∧ Hid (r.size ≤ F.size) ∧ Hid (RdM E (E 3) n nb a i q r wr) ∧ Hid (Below W.heap.size W wr)) (fun _ s5 _ => n - (intOf s5).toNat)
  case atStart => exact ⟨0, k, F, rfl, rfl, Nat.zero_le _, ⟨hk0, rfl⟩, Nat.le_refl _, HR, Below.refl _ _⟩
  case round =>
    obtain ⟨i, q, r, rfl, rfl, hin, hq, hrs, hR, hB⟩ := hrel
    by_cases hi : i < n
    · obtain ⟨x, rr, b, o, rfl, hx, rfl, hb, hc, hxs, hR1⟩ := hR.out.next hi (by decide)
      have hii : (i : Int) < n := by omega
      have hct := hq.out
      have hsz := hrs.out
      have hbz := hB.out.size
      clear hR hq hrs
      replace hx : Fit E x [.t, .t, .i, .i, .s 2] := hx
      obtain ⟨x0, F0, rfl, hx0, hx⟩ := fit_t hx
      obtain ⟨x1, F1, rfl, hx1, hx⟩ := fit_t hx
      obtain ⟨x2, F2, rfl, hx2, hx⟩ := fit_i hx
      obtain ⟨x3, F3, rfl, hx3, hx⟩ := fit_i hx
      obtain ⟨a4, n4, c4, k4, F4, rfl, hf4, hx⟩ := fit_s hx
      obtain rfl := fit_nil hx
      simp only [Fo.app_ct, Fo.ct] at hct
      simp only [Fo.app_size, Fo.size] at hsz
      simp only [Fo.ct] at hR1
      have hqk : 0 < q ∧ q + (1 + 1 + 1 + 1 + k4.ct) ≤ 4294967296 := by have := HK.out; omega
      have HQK := hide hqk
      have hv0 : q + 4 ≤ 4294967296 := by omega
      have HCT := hide hct
      have HSZ := hide hsz
      have HBZ := hide hbz
      have HR1 := hide hR1
      have C0 := hide hc
      obtain ⟨hs4, -⟩ := hxs
      have HS4 := hide hs4
      clear hs4
      clear hc hct hsz hqk hbz hR1
      have HG0 := hide (Below.refl wr.heap.size wr)
      have p0_0 : wr.cell? ⟨b, o + i * 5, none⟩ = some (.string (mt (q))) := by
        have h1 : wr.cell? ⟨b, o + i * 5, none⟩ = some (.string (mt (q))) := C0.out 0 _ rfl
        skip
        refine h1.trans ?_
        skip
        first | rfl | (congr 2; done) | (congr 2; omega) | (congr 3; omega) | (congr 4; omega)
      have hd0 : Hid (Below wr.heap.size wr wr.drew) := (Below.refl _ _).drew
      have HM0 : Hid (Calls Try.prog 79 #[.int .i64 ((q : Int))] wr.drew fun e w' => e = .returned (.string (mt (q))) ∧ Below wr.drew.heap.size wr.drew w') := by
        have e : ((q : Nat) : Int) = (q : Int) := by omega
        unfold Hid
        rw [← e]
        exact markText (q) wr.drew (by have := HQK.out;  omega) (by have := HQK.out;  omega)
      have HX0 : Hid (∀ V, Below wr.heap.size wr V → V.cell? ⟨b, o + i * 5, none⟩ = some (.string (mt (q)))) := fun V bV => (bV.cell (p := ⟨b, o + i * 5, none⟩) (by have := HBZ.out; have := HG0.out.size; show b < _; omega)).trans p0_0
      have kk0 := HX0.out wr.drew hd0.out
      go_wp2_with fail
      go_region_held3 (fun V => V.cell? ⟨b, o + i * 5, none⟩ = some (.string (mt (q))))
        (first | with_reducible exact kk1 | with_reducible exact kk0)
        (first | (go_at_call 79; refine HM0.out.mono ?_; rintro e w1 ⟨rfl, f1⟩; have G1 := hd0.out.trans (show Below wr.heap.size wr.drew w1 from f1); have kk1 := HX0.out w1 G1))
      have HG1 := hide (HG0.out.trans (G1.mono HG0.out.size))
      have C1 := hide (C0.out.below G1 (by have := HBZ.out; have := HG0.out.size; omega))
      clear G1 f1 kk1 kk0 p0_0 HX0 HM0 hd0
      have p1_1 : w1.cell? ⟨b, o + i * 5 + 1, none⟩ = some (.string (mt (q + 1))) := by
        have h1 : w1.cell? ⟨b, o + i * 5 + 1, none⟩ = some (.string (mt (q + 1))) := C1.out 1 _ rfl
        skip
        refine h1.trans ?_
        skip
        first | rfl | (congr 2; done) | (congr 2; omega) | (congr 3; omega) | (congr 4; omega)
      have hd1 : Hid (Below w1.heap.size w1 w1.drew) := (Below.refl _ _).drew
      have HM1 : Hid (Calls Try.prog 79 #[.int .i64 ((q : Int) + 1)] w1.drew fun e w' => e = .returned (.string (mt (q + 1))) ∧ Below w1.drew.heap.size w1.drew w') := by
        have e : ((q + 1 : Nat) : Int) = (q : Int) + 1 := by omega
        unfold Hid
        rw [← e]
        exact markText (q + 1) w1.drew (by have := HQK.out;  omega) (by have := HQK.out;  omega)
      have HX1 : Hid (∀ V, Below w1.heap.size w1 V → V.cell? ⟨b, o + i * 5 + 1, none⟩ = some (.string (mt (q + 1)))) := fun V bV => (bV.cell (p := ⟨b, o + i * 5 + 1, none⟩) (by have := HBZ.out; have := HG1.out.size; show b < _; omega)).trans p1_1
      have kk0 := HX1.out w1.drew hd1.out
      go_wp2_with fail
      go_region_held3 (fun V => V.cell? ⟨b, o + i * 5 + 1, none⟩ = some (.string (mt (q + 1))))
        (first | with_reducible exact kk1 | with_reducible exact kk0)
        (first | (go_at_call 79; refine HM1.out.mono ?_; rintro e w2 ⟨rfl, f2⟩; have G2 := hd1.out.trans (show Below w1.heap.size w1.drew w2 from f2); have kk1 := HX1.out w2 G2))
      have HG2 := hide (HG1.out.trans (G2.mono HG1.out.size))
      have C2 := hide (C1.out.below G2 (by have := HBZ.out; have := HG1.out.size; omega))
      clear G2 f2 kk1 kk0 p1_1 HX1 HM1 hd1
      have p2_2 : w2.cell? ⟨b, o + i * 5 + 2, none⟩ = some (.int .i64 ((q : Int) + 1 + 1)) := by
        have h1 : w2.cell? ⟨b, o + i * 5 + 2, none⟩ = some (.int .i64 ((q + 1 + 1 : Nat) : Int)) := C2.out 2 _ rfl
        skip
        refine h1.trans ?_
        skip
        first | rfl | (congr 2; done) | (congr 2; omega) | (congr 3; omega) | (congr 4; omega)
      have p2_3 : w2.cell? ⟨b, o + i * 5 + 3, none⟩ = some (.int .i64 ((q : Int) + 1 + 1 + 1)) := by
        have h1 : w2.cell? ⟨b, o + i * 5 + 3, none⟩ = some (.int .i64 ((q + 1 + 1 + 1 : Nat) : Int)) := C2.out 3 _ rfl
        skip
        refine h1.trans ?_
        skip
        first | rfl | (congr 2; done) | (congr 2; omega) | (congr 3; omega) | (congr 4; omega)
      have p2_4 : w2.cell? ⟨b, o + i * 5 + 4, none⟩ = some (.slice a4 n4 c4) := C2.out 4 _ rfl
      have HM4 : Hid (Calls Try.prog 68 #[.slice a4 n4 c4, .int .i64 ((q : Int) + 1 + 1 + 1 + 1)] w2 fun e w' => e = .returned (.int .i64 ((q + 4 + k4.ct : Nat) : Int)) ∧ Below w2.heap.size w2 w') := by
        have e : ((q + 4 : Nat) : Int) = (q : Int) + 1 + 1 + 1 + 1 := by omega
        unfold Hid
        rw [← e]
        have hsj := HS4.out
        have eN : q + 1 + 1 + 1 + 1 = q + 4 := by  omega
        rw [eN] at hsj
        exact hd_R_TypeS m k4 n4 nb a4 c4 (q + 4) w2 (by have := HM.out; have := HSZ.out; omega) hf4 (by have := HBZ.out; have := HG2.out.size; omega) (by have := HQK.out;  omega) (by have := HQK.out;  omega) (Fo.Sub.below HG2.out (fun c hc => by have := HBZ.out; omega) hsj)
      go_wp2_with fail
      refine HM4.out.mono ?_
      rintro e w3 ⟨rfl, G3⟩
      have HG3 := hide (HG2.out.trans (G3.mono HG2.out.size))
      have C3 := hide (C2.out.below G3 (by have := HBZ.out; have := HG2.out.size; omega))
      obtain ⟨q4, hq4⟩ : ∃ q4, q + 4 + k4.ct = q4 := ⟨_, rfl⟩
      rw [hq4]
      have HQ4 := hide hq4
      have hnn4 : ¬ (q4 : Int) < 0 := by omega
      have hv5 : q4 + 0 ≤ 4294967296 := by have := HQK.out; have := HQ4.out; omega
      clear G3 hq4 HM4 p2_4
      go_wp2_with fail
      go_roundw
      case rel =>
        have eN : q + (((((k4.ct + (0)) + 1) + 1) + 1) + 1) = q4 := by have := HQ4.out; omega
        have hr := HR1.out
        rw [eN] at hr
        exact ⟨i + 1, q4, rr, rfl, by go_num, by omega, ⟨by have := HQK.out; have := HQ4.out; omega, by have := HCT.out; have := HQ4.out; omega⟩, (by show _ ≤ _; have := HSZ.out; omega), hr.below HG3.out (by have := HBZ.out; omega), hB.out.trans (HG3.out.mono HBZ.out)⟩
      case measure => simp [intOf]; omega
    · obtain ⟨rfl, rfl⟩ := hR.out.done hi
      have h1 := hq.out.2
      simp only [Fo.ct] at h1
      have H1 := hide h1
      clear hR hq hrs h1
      go_wp2_with fail
      go_ret
      exact ⟨ret_int (by have := H1.out; omega), hB.out⟩

set_option maxHeartbeats 2000000 in
set_option maxRecDepth 100000 in
theorem hd_C_ConInfo (m : Nat) : HdC Try.prog E 18 (E 3) m := by
  intro F nb k W hm hf hn hk0 hk hs
  replace hf : Fit E F [.t, .t, .i, .i, .s 2] := hf
  obtain ⟨x0, F0, rfl, hx0, hf⟩ := fit_t hf
  obtain ⟨x1, F1, rfl, hx1, hf⟩ := fit_t hf
  obtain ⟨x2, F2, rfl, hx2, hf⟩ := fit_i hf
  obtain ⟨x3, F3, rfl, hx3, hf⟩ := fit_i hf
  obtain ⟨a4, n4, c4, k4, F4, rfl, hf4, hf⟩ := fit_s hf
  obtain rfl := fit_nil hf
  simp only [Fo.size] at hm
  simp only [Fo.sct] at hk ⊢
  simp only [Fo.vals]
  have HK := hide hk
  clear hk
  obtain ⟨hs4, -⟩ := hs
  have HS4 := hide hs4
  clear hs4
  have HB0 := hide (below_alloc1 W (.cells #[.string x0, .string x1, .int .i64 x2, .int .i64 x3, .slice a4 n4 c4] 43))
  have Q0 := hide (Bx.new W [.string x0, .string x1, .int .i64 x2, .int .i64 x3, .slice a4 n4 c4] 43)
  obtain ⟨w0, hw0⟩ : ∃ V, W.alloc (.cells #[.string x0, .string x1, .int .i64 x2, .int .i64 x3, .slice a4 n4 c4] 43) = V := ⟨_, rfl⟩
  rw [hw0] at Q0 HB0
  have HE0 := hide hw0
  clear hw0
  go_enter Try.func18, Try.ntmps18
  go_wp2_with fail
  rw [HE0.out]
  have hsj1 := HS4.out
  have eN1 : k = k := by  omega
  skip
  have HC1 := hd_R_TypeS (k4.size + 1) k4 n4 nb a4 c4 k w0 (Nat.lt_succ_self _) hf4 (by have := HB0.out.size; omega) (by  omega) (by have := HK.out;  omega) (Fo.Sub.below HB0.out (fun c hc => by omega) hsj1)
  refine HC1.mono ?_
  clear HC1
  rintro e w1 ⟨rfl, b1⟩
  have HB1 := hide (HB0.out.trans (b1.mono HB0.out.size))
  have Q1 := hide (Q0.out.below b1)
  obtain ⟨q1, hq1⟩ : ∃ q1, k + k4.ct = q1 := ⟨_, rfl⟩
  rw [hq1]
  have HN1 := hide hq1
  have hnn1 : ¬ (q1 : Int) < 0 := by omega
  clear b1 hq1
  go_wp2_with fail
  go_ret
  exact ⟨ret_int (by have := HN1.out; omega), HB1.out⟩

end Go.Proofs.Ytkjbkmhmghmodaa
