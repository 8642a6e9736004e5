import Derived.Test.YtcflciblcdabpaaKx
namespace Go.Proofs.Ytcflciblcdabpaa
open Go.RowKit Go.Joins

set_option maxHeartbeats 2000000 in
set_option maxRecDepth 100000 in
theorem hd_R_TypeS_of (m : Nat) (h : HdR Try.prog E 40 (E 2) m) : HdR Try.prog E 40 (E 2) (m + 1) := by
  intro F n nb a cap k W hm hf hn hk0 hk hs
  have hmx : n ≤ 9223372036854775807 := by have h2 := hs.1; have h3 := hs.2.1; simp only [maxLen] at h3; omega
  have HR := hide (RdM.start hf hs)
  have HM := hide hm
  have HK := hide hk
  clear hf hs hm hk
  go_enter Try.func40, Try.ntmps40
  go_wp2_with fail
  go_loopw [1, 5] (fun s1 s5 wr => ∃ (i q : Nat) (r : Fo), s1 = .int .i64 (q : Int) ∧ s5 = .int .i64 i ∧ i ≤ n ∧ Hid (0 < q ∧ q + r.ct = k + F.ct) ∧ Hid (r.size ≤ F.size) ∧ Hid (RdM E (E 2) n nb a i q r wr) ∧ Hid (Below W.heap.size W wr)) (fun _ s5 _ => n - (intOf s5).toNat)
  case atStart => exact ⟨0, k, F, rfl, rfl, Nat.zero_le _, ⟨hk0, rfl⟩, Nat.le_refl _, HR, Below.refl _ _⟩
  case round =>
    obtain ⟨i, q, r, rfl, rfl, hin, hq, hrs, hR, hB⟩ := hrel
    by_cases hi : i < n
    · obtain ⟨x, rr, b, o, rfl, hx, rfl, hb, hc, hxs, hR1⟩ := hR.out.next hi (by decide)
      have hii : (i : Int) < n := by omega
      have hct := hq.out
      have hsz := hrs.out
      have hbz := hB.out.size
      clear hR hq hrs
      replace hx : Fit E x [.i, .i, .t, .s 2] := hx
      obtain ⟨x0, F0, rfl, hx0, hx⟩ := fit_i hx
      obtain ⟨x1, F1, rfl, hx1, hx⟩ := fit_i hx
      obtain ⟨x2, F2, rfl, hx2, hx⟩ := fit_t hx
      obtain ⟨a3, n3, c3, k3, F3, rfl, hf3, hx⟩ := fit_s hx
      obtain rfl := fit_nil hx
      simp only [Fo.app_ct, Fo.ct] at hct
      simp only [Fo.app_size, Fo.size] at hsz
      simp only [Fo.ct] at hR1
      have hqk : 0 < q ∧ q + (1 + 1 + 1 + k3.ct) ≤ 4294967296 := by have := HK.out; omega
      have HQK := hide hqk
      have hv0 : q + 3 ≤ 4294967296 := by omega
      have HCT := hide hct
      have HSZ := hide hsz
      have HBZ := hide hbz
      have HR1 := hide hR1
      have C0 := hide hc
      obtain ⟨hs3, -⟩ := hxs
      have HS3 := hide hs3
      clear hs3
      clear hc hct hsz hqk hbz hR1
      have HG0 := hide (Below.refl wr.heap.size wr)
      have p0_0 : wr.cell? ⟨b, o + i * 4, none⟩ = some (.int .i64 ((q : Int))) := by
        have h1 : wr.cell? ⟨b, o + i * 4, none⟩ = some (.int .i64 ((q : Nat) : Int)) := C0.out 0 _ rfl
        skip
        refine h1.trans ?_
        skip
        first | rfl | (congr 2; done) | (congr 2; omega) | (congr 3; omega) | (congr 4; omega)
      have p0_1 : wr.cell? ⟨b, o + i * 4 + 1, none⟩ = some (.int .i64 ((q : Int) + 1)) := by
        have h1 : wr.cell? ⟨b, o + i * 4 + 1, none⟩ = some (.int .i64 ((q + 1 : Nat) : Int)) := C0.out 1 _ rfl
        skip
        refine h1.trans ?_
        skip
        first | rfl | (congr 2; done) | (congr 2; omega) | (congr 3; omega) | (congr 4; omega)
      have p0_2 : wr.cell? ⟨b, o + i * 4 + 2, none⟩ = some (.string (mt (q + 2))) := by
        have h1 : wr.cell? ⟨b, o + i * 4 + 2, none⟩ = some (.string (mt (q + 1 + 1))) := C0.out 2 _ rfl
        skip
        refine h1.trans ?_
        skip
        first | rfl | (congr 2; done) | (congr 2; omega) | (congr 3; omega) | (congr 4; omega)
      have hd2 : Hid (Below wr.heap.size wr wr.drew) := (Below.refl _ _).drew
      have HM2 : Hid (Calls Try.prog 59 #[.int .i64 ((q : Int) + 1 + 1)] wr.drew fun e w' => e = .returned (.string (mt (q + 2))) ∧ Below wr.drew.heap.size wr.drew w') := by
        have e : ((q + 2 : Nat) : Int) = (q : Int) + 1 + 1 := by omega
        unfold Hid
        rw [← e]
        exact markText (q + 2) wr.drew (by have := HQK.out;  omega) (by have := HQK.out;  omega)
      have HX2 : Hid (∀ V, Below wr.heap.size wr V → V.cell? ⟨b, o + i * 4 + 2, none⟩ = some (.string (mt (q + 2)))) := fun V bV => (bV.cell (p := ⟨b, o + i * 4 + 2, none⟩) (by have := HBZ.out; have := HG0.out.size; show b < _; omega)).trans p0_2
      have kk0 := HX2.out wr.drew hd2.out
      go_wp2_with fail
      go_region_held3 (fun V => V.cell? ⟨b, o + i * 4 + 2, none⟩ = some (.string (mt (q + 2))))
        (first | with_reducible exact kk1 | with_reducible exact kk0)
        (first | (go_at_call 59; refine HM2.out.mono ?_; rintro e w1 ⟨rfl, f1⟩; have G1 := hd2.out.trans (show Below wr.heap.size wr.drew w1 from f1); have kk1 := HX2.out w1 G1))
      have HG1 := hide (HG0.out.trans (G1.mono HG0.out.size))
      have C1 := hide (C0.out.below G1 (by have := HBZ.out; have := HG0.out.size; omega))
      clear G1 f1 kk1 kk0 p0_2 HX2 HM2 hd2
      have p1_3 : w1.cell? ⟨b, o + i * 4 + 3, none⟩ = some (.slice a3 n3 c3) := C1.out 3 _ rfl
      have HM3 : Hid (Calls Try.prog 40 #[.slice a3 n3 c3, .int .i64 ((q : Int) + 1 + 1 + 1)] w1 fun e w' => e = .returned (.int .i64 ((q + 3 + k3.ct : Nat) : Int)) ∧ Below w1.heap.size w1 w') := by
        have e : ((q + 3 : Nat) : Int) = (q : Int) + 1 + 1 + 1 := by omega
        unfold Hid
        rw [← e]
        have hsj := HS3.out
        have eN : q + 1 + 1 + 1 = q + 3 := by  omega
        rw [eN] at hsj
        exact h k3 n3 nb a3 c3 (q + 3) w1 (by have := HM.out; have := HSZ.out; omega) hf3 (by have := HBZ.out; have := HG1.out.size; omega) (by have := HQK.out;  omega) (by have := HQK.out;  omega) (Fo.Sub.below HG1.out (fun c hc => by have := HBZ.out; omega) hsj)
      go_wp2_with fail
      refine HM3.out.mono ?_
      rintro e w2 ⟨rfl, G2⟩
      have HG2 := hide (HG1.out.trans (G2.mono HG1.out.size))
      have C2 := hide (C1.out.below G2 (by have := HBZ.out; have := HG1.out.size; omega))
      obtain ⟨q3, hq3⟩ : ∃ q3, q + 3 + k3.ct = q3 := ⟨_, rfl⟩
      rw [hq3]
      have HQ3 := hide hq3
      have hnn3 : ¬ (q3 : Int) < 0 := by omega
      have hv4 : q3 + 0 ≤ 4294967296 := by have := HQK.out; have := HQ3.out; omega
      clear G2 hq3 HM3 p1_3
      go_wp2_with fail
      go_roundw
      case rel =>
        have eN : q + ((((k3.ct + (0)) + 1) + 1) + 1) = q3 := by have := HQ3.out; omega
        have hr := HR1.out
        rw [eN] at hr
        exact ⟨i + 1, q3, rr, rfl, by go_num, by omega, ⟨by have := HQK.out; have := HQ3.out; omega, by have := HCT.out; have := HQ3.out; omega⟩, (by show _ ≤ _; have := HSZ.out; omega), hr.below HG2.out (by have := HBZ.out; omega), hB.out.trans (HG2.out.mono HBZ.out)⟩
      case measure => simp [intOf]; omega
    · obtain ⟨rfl, rfl⟩ := hR.out.done hi
      have h1 := hq.out.2
      simp only [Fo.ct] at h1
      have H1 := hide h1
      clear hR hq hrs h1
      go_wp2_with fail
      go_ret
      exact ⟨ret_int (by have := H1.out; omega), hB.out⟩

theorem hd_R_TypeS : ∀ m, HdR Try.prog E 40 (E 2) m
  | 0 => fun _ _ _ _ _ _ _ hm => absurd hm (Nat.not_lt_zero _)
  | m + 1 => hd_R_TypeS_of m (hd_R_TypeS m)
end Go.Proofs.Ytcflciblcdabpaa
