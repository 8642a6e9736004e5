import Derived.Test.YtcnokpaicnjkfaaKx
namespace Go.Proofs.Ytcnokpaicnjkfaa
open Go.RowKit Go.Joins

set_option maxHeartbeats 2000000 in
set_option maxRecDepth 100000 in
theorem hd_R_StringS (m : Nat) : HdR Try.prog E 12 (E 1) m := by
  intro F n nb a cap k W hm hf hn hk0 hk hs
  have hmx : n ≤ 9223372036854775807 := by have h2 := hs.1; have h3 := hs.2.1; simp only [maxLen] at h3; omega
  have HR := hide (RdM.start hf hs)
  have HM := hide hm
  have HK := hide hk
  clear hf hs hm hk
  go_enter Try.func12, Try.ntmps12
  go_wp2_with fail
  go_loopw [1, 5] (fun s1 s5 wr => ∃ (i q : Nat) (r : Fo), s1 = .int .i64 (q : Int) ∧ s5 = .int .i64 i ∧ i ≤ n ∧ Hid (0 < q ∧ q + r.ct = k + F.ct) ∧ Hid (r.size ≤ F.size) ∧ Hid (RdM E (E 1) n nb a i q r wr) ∧ Hid (Below W.heap.size W wr)) (fun _ s5 _ => n - (intOf s5).toNat)
  case atStart => exact ⟨0, k, F, rfl, rfl, Nat.zero_le _, ⟨hk0, rfl⟩, Nat.le_refl _, HR, Below.refl _ _⟩
  case round =>
    obtain ⟨i, q, r, rfl, rfl, hin, hq, hrs, hR, hB⟩ := hrel
    by_cases hi : i < n
    · obtain ⟨x, rr, b, o, rfl, hx, rfl, hb, hc, hxs, hR1⟩ := hR.out.next hi (by decide)
      have hii : (i : Int) < n := by omega
      have hct := hq.out
      have hsz := hrs.out
      have hbz := hB.out.size
      clear hR hq hrs
      replace hx : Fit E x [.t] := hx
      obtain ⟨x0, F0, rfl, hx0, hx⟩ := fit_t hx
      obtain rfl := fit_nil hx
      simp only [Fo.app_ct, Fo.ct] at hct
      simp only [Fo.app_size, Fo.size] at hsz
      simp only [Fo.ct] at hR1
      have hqk : 0 < q ∧ q + (1) ≤ 4294967296 := by have := HK.out; omega
      have HQK := hide hqk
      have hv0 : q + 1 ≤ 4294967296 := by omega
      have HCT := hide hct
      have HSZ := hide hsz
      have HBZ := hide hbz
      have HR1 := hide hR1
      have C0 := hide hc
      clear hxs
      clear hc hct hsz hqk hbz hR1
      have HG0 := hide (Below.refl wr.heap.size wr)
      have p0_0 : wr.cell? ⟨b, o + i, none⟩ = some (.string (mt (q))) := by
        have h1 : wr.cell? ⟨b, o + i * 1, none⟩ = some (.string (mt (q))) := C0.out 0 _ rfl
        rw [Nat.mul_one] at h1
        refine h1.trans ?_
        skip
        first | rfl | (congr 2; done) | (congr 2; omega) | (congr 3; omega) | (congr 4; omega)
      have hd0 : Hid (Below wr.heap.size wr wr.drew) := (Below.refl _ _).drew
      have HM0 : Hid (Calls Try.prog 37 #[.int .i64 ((q : Int))] wr.drew fun e w' => e = .returned (.string (mt (q))) ∧ Below wr.drew.heap.size wr.drew w') := by
        have e : ((q : Nat) : Int) = (q : Int) := by omega
        unfold Hid
        rw [← e]
        exact markText (q) wr.drew (by have := HQK.out;  omega) (by have := HQK.out;  omega)
      have HX0 : Hid (∀ V, Below wr.heap.size wr V → V.cell? ⟨b, o + i, none⟩ = some (.string (mt (q)))) := fun V bV => (bV.cell (p := ⟨b, o + i, none⟩) (by have := HBZ.out; have := HG0.out.size; show b < _; omega)).trans p0_0
      have kk0 := HX0.out wr.drew hd0.out
      go_wp2_with fail
      go_region_held3 (fun V => V.cell? ⟨b, o + i, none⟩ = some (.string (mt (q))))
        (first | with_reducible exact kk1 | with_reducible exact kk0)
        (first | (go_at_call 37; refine HM0.out.mono ?_; rintro e w1 ⟨rfl, f1⟩; have G1 := hd0.out.trans (show Below wr.heap.size wr.drew w1 from f1); have kk1 := HX0.out w1 G1))
      have HG1 := hide (HG0.out.trans (G1.mono HG0.out.size))
      have C1 := hide (C0.out.below G1 (by have := HBZ.out; have := HG0.out.size; omega))
      clear G1 f1 kk1 kk0 p0_0 HX0 HM0 hd0
      go_wp2_with fail
      go_roundw
      case rel =>
        have eN : q + ((0) + 1) = q + 1 := by  omega
        have hr := HR1.out
        rw [eN] at hr
        exact ⟨i + 1, q + 1, rr, by first | rfl | go_num, by go_num, by omega, ⟨by have := HQK.out;  omega, by have := HCT.out;  omega⟩, (by show _ ≤ _; have := HSZ.out; omega), hr.below HG1.out (by have := HBZ.out; omega), hB.out.trans (HG1.out.mono HBZ.out)⟩
      case measure => simp [intOf]; omega
    · obtain ⟨rfl, rfl⟩ := hR.out.done hi
      have h1 := hq.out.2
      simp only [Fo.ct] at h1
      have H1 := hide h1
      clear hR hq hrs h1
      go_wp2_with fail
      go_ret
      exact ⟨ret_int (by have := H1.out; omega), hB.out⟩

end Go.Proofs.Ytcnokpaicnjkfaa
