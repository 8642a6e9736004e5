import Derived.Test.YtmnligaelihmiaaKa
namespace Go.Proofs.Ytmnligaelihmiaa
open Go.RowKit Go.Joins

set_option maxHeartbeats 2000000 in
set_option maxRecDepth 100000 in
theorem hd_R_Int64S (m : Nat) : HdR Try.prog E 26 (E 0) m := by
  intro F n nb a cap k W hm hf hn hk0 hk hs
  have hmx : n ≤ 9223372036854775807 := by have h2 := hs.1; have h3 := hs.2.1; simp only [maxLen] at h3; omega
  have HR := hide (RdM.start hf hs)
  have HM := hide hm
  have HK := hide hk
  clear hf hs hm hk
  go_enter Try.func26, Try.ntmps26
  go_wp2_with fail
  go_loopw [1, 5] (fun s1 s5 wr => ∃ (i q : Nat) (r : Fo), s1 = .int .i64 (q : Int) ∧ s5 = .int .i64 i ∧ i ≤ n ∧ Hid (0 < q ∧ q + r.ct = k + F.ct) ∧ Hid (r.size ≤ F.size) ∧ Hid (RdM E (E 0) n nb a i q r wr) ∧ Hid (Below W.heap.size W wr)) (fun _ s5 _ => n - (intOf s5).toNat)
  case atStart => exact ⟨0, k, F, rfl, rfl, Nat.zero_le _, ⟨hk0, rfl⟩, Nat.le_refl _, HR, Below.refl _ _⟩
  case round =>
    obtain ⟨i, q, r, rfl, rfl, hin, hq, hrs, hR, hB⟩ := hrel
    by_cases hi : i < n
    · obtain ⟨x, rr, b, o, rfl, hx, rfl, hb, hc, hxs, hR1⟩ := hR.out.next hi (by decide)
      have hii : (i : Int) < n := by omega
      have hct := hq.out
      have hsz := hrs.out
      have hbz := hB.out.size
      clear hR hq hrs
      replace hx : Fit E x [.i] := hx
      obtain ⟨x0, F0, rfl, hx0, hx⟩ := fit_i hx
      obtain rfl := fit_nil hx
      simp only [Fo.app_ct, Fo.ct] at hct
      simp only [Fo.app_size, Fo.size] at hsz
      simp only [Fo.ct] at hR1
      have hqk : 0 < q ∧ q + (1) ≤ 4294967296 := by have := HK.out; omega
      have HQK := hide hqk
      have hv0 : q + 1 ≤ 4294967296 := by omega
      have HCT := hide hct
      have HSZ := hide hsz
      have HBZ := hide hbz
      have HR1 := hide hR1
      have C0 := hide hc
      clear hxs
      clear hc hct hsz hqk hbz hR1
      have HG0 := hide (Below.refl wr.heap.size wr)
      have p0_0 : wr.cell? ⟨b, o + i, none⟩ = some (.int .i64 ((q : Int))) := by
        have h1 : wr.cell? ⟨b, o + i * 1, none⟩ = some (.int .i64 ((q : Nat) : Int)) := C0.out 0 _ rfl
        rw [Nat.mul_one] at h1
        refine h1.trans ?_
        skip
        first | rfl | (congr 2; done) | (congr 2; omega) | (congr 3; omega) | (congr 4; omega)
      go_wp2_with fail
      go_roundw
      case rel =>
        have eN : q + ((0) + 1) = q + 1 := by  omega
        have hr := HR1.out
        rw [eN] at hr
        exact ⟨i + 1, q + 1, rr, by first | rfl | go_num, by go_num, by omega, ⟨by have := HQK.out;  omega, by have := HCT.out;  omega⟩, (by show _ ≤ _; have := HSZ.out; omega), hr.below HG0.out (by have := HBZ.out; omega), hB.out.trans (HG0.out.mono HBZ.out)⟩
      case measure => simp [intOf]; omega
    · obtain ⟨rfl, rfl⟩ := hR.out.done hi
      have h1 := hq.out.2
      simp only [Fo.ct] at h1
      have H1 := hide h1
      clear hR hq hrs h1
      go_wp2_with fail
      go_ret
      exact ⟨ret_int (by have := H1.out; omega), hB.out⟩

end Go.Proofs.Ytmnligaelihmiaa

namespace Go.Proofs.Ytmnligaelihmiaa
open Go.RowKit Go.Joins

set_option maxHeartbeats 2000000 in
set_option maxRecDepth 100000 in
theorem hd_R_Int64SS (m : Nat) : HdR Try.prog E 13 (E 1) m := by
  intro F n nb a cap k W hm hf hn hk0 hk hs
  have hmx : n ≤ 9223372036854775807 := by have h2 := hs.1; have h3 := hs.2.1; simp only [maxLen] at h3; omega
  have HR := hide (RdM.start hf hs)
  have HM := hide hm
  have HK := hide hk
  clear hf hs hm hk
  go_enter Try.func13, Try.ntmps13
  go_wp2_with fail
  go_loopw [1, 5] (fun s1 s5 wr => ∃ (i q : Nat) (r : Fo), s1 = .int .i64 (q : Int) ∧ s5 = .int .i64 i ∧ i ≤ n ∧ Hid (0 < q ∧ q + r.ct = k + F.ct) ∧ Hid (r.size ≤ F.size) ∧ Hid (RdM E (E 1) n nb a i q r wr) ∧ Hid (Below W.heap.size W wr)) (fun _ s5 _ => n - (intOf s5).toNat)
  case atStart => exact ⟨0, k, F, rfl, rfl, Nat.zero_le _, ⟨hk0, rfl⟩, Nat.le_refl _, HR, Below.refl _ _⟩
  case round =>
    obtain ⟨i, q, r, rfl, rfl, hin, hq, hrs, hR, hB⟩ := hrel
    by_cases hi : i < n
    · obtain ⟨x, rr, b, o, rfl, hx, rfl, hb, hc, hxs, hR1⟩ := hR.out.next hi (by decide)
      have hii : (i : Int) < n := by omega
      have hct := hq.out
      have hsz := hrs.out
      have hbz := hB.out.size
      clear hR hq hrs
      replace hx : Fit E x [.s 0] := hx
      obtain ⟨a0, n0, c0, k0, F0, rfl, hf0, hx⟩ := fit_s hx
      obtain rfl := fit_nil hx
      simp only [Fo.ct, Fo.app] at hct
      simp only [Fo.size, Fo.app] at hsz
      simp only [Fo.ct, Nat.add_zero] at hR1
      have hqk : 0 < q ∧ q + k0.ct ≤ 4294967296 := by have := HK.out; omega
      have p0 : wr.cell? ⟨b, o + i, none⟩ = some (.slice a0 n0 c0) := by
        have h1 : wr.cell? ⟨b, o + i * 1, none⟩ = some (.slice a0 n0 c0) := hc 0 _ rfl
        rw [Nat.mul_one] at h1
        exact h1
      have HC := hide (hd_R_Int64S m k0 n0 nb a0 c0 q wr (by have := HM.out; omega) hf0 (by omega) hqk.1 hqk.2 hxs.1)
      obtain ⟨q2, hq2⟩ : ∃ q2, q + k0.ct = q2 := ⟨_, rfl⟩
      rw [hq2] at HC hR1
      have hnn : ¬ (q2 : Int) < 0 := by omega
      have HQ2 := hide hq2
      have HCT := hide hct
      have HSZ := hide hsz
      have HBZ := hide hbz
      have HR1 := hide hR1
      clear hxs hc hct hsz hqk hbz hR1 hq2
      go_wp2_with fail
      refine HC.out.mono ?_
      rintro e w2 ⟨rfl, b2⟩
      have HB2 := hide b2
      clear b2
      go_wp2_with fail
      go_roundw
      case rel =>
        exact ⟨i + 1, q2, rr, rfl, by go_num, by omega, ⟨by have := HCT.out; have := HQ2.out; omega, by have := HCT.out; have := HQ2.out; omega⟩, (by show _ ≤ _; have := HSZ.out; omega), HR1.out.below HB2.out (by have := HBZ.out; omega), hB.out.trans (HB2.out.mono HBZ.out)⟩
      case measure => simp [intOf]; omega
    · obtain ⟨rfl, rfl⟩ := hR.out.done hi
      have h1 := hq.out.2
      simp only [Fo.ct] at h1
      have H1 := hide h1
      clear hR hq hrs h1
      go_wp2_with fail
      go_ret
      exact ⟨ret_int (by have := H1.out; omega), hB.out⟩

end Go.Proofs.Ytmnligaelihmiaa
