import Derived.Test.YtmnligaelihmiaaKa
namespace Go.Proofs.Ytmnligaelihmiaa
open Go.RowKit Go.Joins

theorem wt_Int64S : ∀ (n : Nat) (F : Fo), Fit E F (rep (E 0) n) → F.wt = 0
  | 0, F, h => by rw [fit_nil h]; rfl
  | n + 1, F, h => by
    obtain ⟨x, r, rfl, -, hr⟩ := fit_i h
    simp only [Fo.wt, textSize, wt_Int64S n r hr]
set_option maxHeartbeats 2000000 in
set_option maxRecDepth 100000 in
theorem sz_R_Int64S (m : Nat) : SzR Try.prog E 21 (E 0) m := by
  intro F n nb left W a cap hm hf hn h0 h1 hs
  have hmx : n ≤ 9223372036854775807 := by have h2 := hs.1; have h3 := hs.2.1; simp only [maxLen] at h3; omega
  have hw := wt_Int64S n F hf
  by_cases hlt : left < n
  · go_enter Try.func21, Try.ntmps21
    go_wp2_with fail
    go_ret
    exact ⟨by rw [szV_lt (by omega)]; rfl, Below.refl _ _⟩
  · go_enter Try.func21, Try.ntmps21
    go_wp2_with fail
    go_ret
    exact ⟨by rw [szV_ge (by omega)]; exact ret_int (by omega), Below.refl _ _⟩
end Go.Proofs.Ytmnligaelihmiaa

namespace Go.Proofs.Ytmnligaelihmiaa
open Go.RowKit Go.Joins

set_option maxHeartbeats 2000000 in
set_option maxRecDepth 100000 in
theorem sz_R_Int64SS (m : Nat) : SzR Try.prog E 8 (E 1) m := by
  intro F n nb left W a cap hm hf hn h0 h1 hs
  have hmx : n ≤ 9223372036854775807 := by have h2 := hs.1; have h3 := hs.2.1; simp only [maxLen] at h3; omega
  by_cases hlt : left < n
  · go_enter Try.func8, Try.ntmps8
    go_wp2_with fail
    go_ret
    exact ⟨by rw [szV_lt (by omega)]; rfl, Below.refl _ _⟩
  · have HR := hide (Rd.start hf hs)
    have HM := hide hm
    clear hf hs hm
    go_enter Try.func8, Try.ntmps8
    go_wp2_with fail
    go_loopw [1, 5] (fun s1 s5 wr => ∃ (i : Nat) (l : Int) (r : Fo), s1 = .int .i64 l ∧ s5 = .int .i64 i ∧ i ≤ n ∧ Hid (0 ≤ l ∧ l ≤ 1048576 ∧ l - r.wt = left - n - F.wt) ∧ Hid (r.size ≤ F.size) ∧ Hid (Rd E (E 1) n nb a i r wr) ∧ Hid (Below W.heap.size W wr)) (fun _ s5 _ => n - (intOf s5).toNat)
    case atStart => exact ⟨0, left - n, F, rfl, rfl, Nat.zero_le _, ⟨by omega, by omega, by omega⟩, Nat.le_refl _, HR, Below.refl _ _⟩
    case round =>
      obtain ⟨i, l, r, rfl, rfl, hin, hl, hrs, hR, hB⟩ := hrel
      by_cases hi : i < n
      · obtain ⟨x, q, b, o, rfl, hx, rfl, hb, hc, hxs, hR1⟩ := hR.out.next hi (by decide)
        have HR1 := hide hR1
        have hii : (i : Int) < n := by omega
        have hrz := hrs.out
        have hll := hl.out
        have hbz := hB.out.size
        clear hR hR1 hl hrs
        replace hx : Fit E x [.s 0] := hx
        obtain ⟨a0, n0, c0, k0, F0, rfl, hf0, hx⟩ := fit_s hx
        obtain rfl := fit_nil hx
        obtain ⟨hs0, -⟩ := hxs
        simp only [Fo.app, Fo.size] at hrz
        simp only [Fo.app, Fo.wt] at hll
        have p0 : wr.cell? ⟨b, o + i * 1, none⟩ = some (.slice a0 n0 c0) := hc 0 _ rfl
        rw [Nat.mul_one] at p0
        have HC := hide (sz_R_Int64S m k0 n0 nb l wr a0 c0 (by have := HM.out; omega) hf0 (by omega) hll.1 hll.2.1 hs0)
        have HLL := hide hll
        have HRZ := hide hrz
        have HBZ := hide hbz
        have hn0 : n0 ≤ 9223372036854775807 := by have h2 := hs0.1; have h3 := hs0.2.1; simp only [maxLen] at h3; omega
        clear hc hs0 hll hrz hbz
        by_cases g : l < ((n0 + k0.wt : Nat) : Int)
        · have e1 := szV_lt g
          have HG := hide g
          clear g
          go_wp2_with fail
          refine HC.out.mono ?_
          rintro e w2 ⟨rfl, b2⟩
          rw [e1]
          have HB2 := hide b2
          clear b2
          go_wp2_with fail
          go_ret
          exact ⟨by rw [szV_lt (by have := HG.out; have := HLL.out; omega)]; rfl, hB.out.trans (HB2.out.mono HBZ.out)⟩
        · have e1 := szV_ge g
          obtain ⟨l2, hl2⟩ : ∃ l2 : Int, l - ((n0 + k0.wt : Nat) : Int) = l2 := ⟨_, rfl⟩
          rw [hl2] at e1
          have hl20 : ¬ l2 < 0 := by omega
          have HL2 := hide hl2
          have HG := hide g
          clear g hl2
          go_wp2_with fail
          refine HC.out.mono ?_
          rintro e w2 ⟨rfl, b2⟩
          rw [e1]
          have HB2 := hide b2
          clear b2
          go_wp2_with fail
          go_roundw
          case rel => exact ⟨i + 1, l2, q, rfl, by go_num, by omega, ⟨by omega, by have := HL2.out; have := HLL.out; omega, by have := HL2.out; have := HLL.out; omega⟩, (by show _ ≤ _; have := HRZ.out; omega), HR1.out.below HB2.out (by have := HBZ.out; omega), hB.out.trans (HB2.out.mono HBZ.out)⟩
          case measure => simp [intOf]; omega
      · obtain ⟨rfl, rfl⟩ := hR.out.done hi
        have h1 := hl.out
        simp only [Fo.wt] at h1
        have H1 := hide h1
        clear hR hrs hl h1
        go_wp2_with fail
        go_ret
        exact ⟨by rw [szV_ge (by have := H1.out; omega)]; exact ret_int (by have := H1.out; omega), hB.out⟩

end Go.Proofs.Ytmnligaelihmiaa
