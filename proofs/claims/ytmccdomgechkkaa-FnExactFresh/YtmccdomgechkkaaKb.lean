import Derived.Test.YtmccdomgechkkaaKa
namespace Go.Proofs.Ytmccdomgechkkaa
open Go.RowKit Go.Joins

set_option maxHeartbeats 2000000 in
set_option maxRecDepth 100000 in
theorem sz_R_StringS (m : Nat) : SzR Try.prog E 4 (E 0) m := by
  intro F n nb left W a cap hm hf hn h0 h1 hs
  have hmx : n ≤ 9223372036854775807 := by have h2 := hs.1; have h3 := hs.2.1; simp only [maxLen] at h3; omega
  by_cases hlt : left < n
  · go_enter Try.func4, Try.ntmps4
    go_wp2_with fail
    go_ret
    exact ⟨by rw [szV_lt (by omega)]; rfl, Below.refl _ _⟩
  · have HR := hide (Rd.start hf hs)
    have HM := hide hm
    clear hf hs hm
    go_enter Try.func4, Try.ntmps4
    go_wp2_with fail
    go_loopw [1, 5] (fun s1 s5 wr => ∃ (M : Int) (i : Nat) (r : Fo), s1 = .int .i64 M ∧ s5 = .int .i64 i ∧ 0 ≤ M ∧ M ≤ 1048576 ∧ i ≤ n ∧ Hid (r.size ≤ F.size) ∧ Hid (M + n + F.wt = left + r.wt) ∧ Hid (Rd E (E 0) n nb a i r wr) ∧ Hid (Below W.heap.size W wr)) (fun _ s5 _ => n - (intOf s5).toNat)
    case atStart => exact ⟨left - n, 0, F, rfl, rfl, by omega, by omega, Nat.zero_le _, Nat.le_refl _, (by show (_ : Int) = _; omega), HR, Below.refl _ _⟩
    case round =>
      obtain ⟨M, i, r, rfl, rfl, hM0, hM1, hin, hrs, hMe, hR, hB⟩ := hrel
      by_cases hi : i < n
      · obtain ⟨x, q, b, o, rfl, hx, rfl, hb, hc, hxs, hR1⟩ := hR.out.next hi (by decide)
        have HR1 := hide hR1
        have HE := hMe.out
        have HZ := hrs.out
        rw [Fo.app_size] at HZ
        rw [Fo.app_wt] at HE
        have hbz := hB.out.size
        have hii : (i : Int) < n := by omega
        clear hR hMe hrs hR1
        replace hx : Fit E x [.t] := hx
        obtain ⟨x0, F0, rfl, hx0, hx⟩ := fit_t hx
        obtain rfl := fit_nil hx
        have p0 : wr.cell? ⟨b, o + i * 1, none⟩ = some (.string x0) := hc 0 _ rfl
        rw [Nat.mul_one] at p0
        have hy0 : x0.size ≤ 9223372036854775807 := by simp only [maxLen] at hx0; omega
        simp only [Fo.wt, textSize] at HE
        simp only [Fo.size] at HZ
        have HE1 := hide HE
        have HZ1 := hide HZ
        have HBZ := hide hbz
        clear HE HZ hxs hc hbz
        by_cases g : M < (x0.size : Int)
        · go_wp2_with fail
          go_ret
          exact ⟨by rw [szV_lt (by have := HE1.out; omega)]; rfl, hB.out⟩
        · go_wp2_with fail
          go_roundw
          case rel => exact ⟨M - x0.size, i + 1, q, by go_num, by go_num, by omega, by omega, by omega, (by show _ ≤ _; have := HZ1.out; omega), (by show (_ : Int) = _; have := HE1.out; omega), HR1.out, hB.out⟩
          case measure => simp [intOf]; omega
      · obtain ⟨rfl, rfl⟩ := hR.out.done hi
        have HE := hMe.out
        simp only [Fo.wt] at HE
        have HE1 := hide HE
        clear HE hMe hR hrs
        go_wp2_with fail
        go_ret
        exact ⟨by rw [szV_ge (by have := HE1.out; omega)]; exact ret_int (by have := HE1.out; omega), hB.out⟩

end Go.Proofs.Ytmccdomgechkkaa
