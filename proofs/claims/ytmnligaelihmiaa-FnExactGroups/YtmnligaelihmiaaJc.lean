import Derived.Deep.RegionHeld3
import Derived.Test.YtmnligaelihmiaaKa
namespace Go.Proofs.Ytmnligaelihmiaa
open Go.RowKit Go.Joins

theorem Fo.sim.split : ∀ {x y r q : Fo}, x.len = y.len → (y.app q).sim (x.app r) → y.sim x ∧ q.sim r
  | .nil, .nil, _, _, _, h => ⟨trivial, h⟩
  | .v _ x, .v _ y, r, q, e, ⟨h1, h2⟩ => by
    obtain ⟨h3, h4⟩ := Fo.sim.split (x := x) (y := y) (by simpa [Fo.len] using e) h2
    exact ⟨⟨h1, h3⟩, h4⟩
  | .s _ _ _ _ x, .s _ _ _ _ y, r, q, e, ⟨h1, h0, h2⟩ => by
    obtain ⟨h3, h4⟩ := Fo.sim.split (x := x) (y := y) (by simpa [Fo.len] using e) h2
    exact ⟨⟨h1, h0, h3⟩, h4⟩
  | .nil, .v _ _, _, _, e, _ => by simp [Fo.len] at e
  | .nil, .s _ _ _ _ _, _, _, e, _ => by simp [Fo.len] at e
  | .v _ _, .nil, _, _, e, _ => by simp [Fo.len] at e
  | .s _ _ _ _ _, .nil, _, _, e, _ => by simp [Fo.len] at e
  | .v _ _, .s _ _ _ _ _, _, _, _, h => h.elim
  | .s _ _ _ _ _, .v _ _, _, _, _, h => h.elim

end Go.Proofs.Ytmnligaelihmiaa

namespace Go.Proofs.Ytmnligaelihmiaa
open Go.RowKit Go.Joins

set_option maxHeartbeats 2000000 in
set_option maxRecDepth 100000 in
theorem eq_R_Int64S (m : Nat) : EqR Try.prog E 24 (E 0) m := by
  intro F G n nb W a b cap dap hm hf hn hsim hs ht
  have hmx : n ≤ 9223372036854775807 := by have h2 := hs.1; have h3 := hs.2.1; simp only [maxLen] at h3; omega
  have HR := hide (Rd.start hf hs)
  have HR' := hide (Rd.start (hsim.fit hf) ht)
  have HM := hide hm
  have HSI := hide hsim
  clear hf hs hm ht hsim
  go_enter Try.func24, Try.ntmps24
  go_wp2_with fail
  go_loopw [5] (fun s5 wr => ∃ (i : Nat) (r q : Fo), s5 = .int .i64 i ∧ i ≤ n ∧ Hid (r.size ≤ F.size) ∧ Hid (q.sim r) ∧ Hid (Rd E (E 0) n nb a i r wr) ∧ Hid (Rd E (E 0) n nb b i q wr) ∧ Hid (Below W.heap.size W wr)) (fun s5 _ => n - (intOf s5).toNat)
  case atStart => exact ⟨0, F, G, rfl, Nat.zero_le _, Nat.le_refl _, HSI, HR, HR', Below.refl _ _⟩
  case round =>
    obtain ⟨i, r, q, rfl, hin, hrs, hrq, hR, hR', hB⟩ := hrel
    by_cases hi : i < n
    · obtain ⟨x, rr, g, o, rfl, hx, rfl, hg, hc, hxs, hR1⟩ := hR.out.next hi (by decide)
      obtain ⟨y, qq, g', o', rfl, hy, rfl, hg', hc', hys, hR1'⟩ := hR'.out.next hi (by decide)
      have HR1 := hide hR1
      have HR1' := hide hR1'
      obtain ⟨hxy, hqr⟩ := Fo.sim.split (x := x) (y := y) (by rw [Fit.len hx, Fit.len hy]) hrq.out
      have HQ := hide hqr
      have HZ := hrs.out
      rw [Fo.app_size] at HZ
      have hbz := hB.out.size
      have hii : (i : Int) < n := by omega
      clear hR hR' hR1 hR1' hrs hrq hqr hy
      replace hx : Fit E x [.i] := hx
      obtain ⟨x0, F0, rfl, hx0, hx⟩ := fit_i hx
      obtain rfl := fit_nil hx
      obtain ⟨u0, rfl, s_1⟩ := Fo.sim_v hxy
      obtain rfl := Fo.sim_nil s_1
      have p0 : wr.cell? ⟨g, o + i * 1, none⟩ = some (.int .i64 x0) := hc 0 _ rfl
      have p1 : wr.cell? ⟨g', o' + i * 1, none⟩ = some (.int .i64 x0) := hc' 0 _ rfl
      rw [Nat.mul_one] at p0 p1
      have HZ1 := hide HZ
      have HBZ := hide hbz
      have hd0 : Hid (Below wr.heap.size wr wr.drew) := (Below.refl _ wr).drew
      clear hc hc' hxs hys HZ hbz hxy s_1
      go_wp2_with fail
      go_region
      all_goals
        go_wp2_with fail
        go_roundw
        case rel => exact ⟨i + 1, rr, qq, by go_num, by omega, (by show _ ≤ _; have := HZ1.out; omega), HQ, HR1.out.below hd0.out (by have := HBZ.out; omega), HR1'.out.below hd0.out (by have := HBZ.out; omega), hB.out.trans (hd0.out.mono HBZ.out)⟩
        case measure => simp [intOf]; omega
    · obtain ⟨-, rfl⟩ := hR.out.done hi
      clear hR hR' hrs hrq
      go_wp2_with fail
      go_ret
      exact ⟨rfl, hB.out⟩

end Go.Proofs.Ytmnligaelihmiaa

namespace Go.Proofs.Ytmnligaelihmiaa
open Go.RowKit Go.Joins

set_option maxHeartbeats 2000000 in
set_option maxRecDepth 100000 in
theorem eq_R_Int64SS (m : Nat) : EqR Try.prog E 11 (E 1) m := by
  intro F G n nb W a b cap dap hm hf hn hsim hs ht
  have hmx : n ≤ 9223372036854775807 := by have h2 := hs.1; have h3 := hs.2.1; simp only [maxLen] at h3; omega
  have HR := hide (Rd.start hf hs)
  have HR' := hide (Rd.start (hsim.fit hf) ht)
  have HM := hide hm
  have HSI := hide hsim
  clear hf hs hm ht hsim
  go_enter Try.func11, Try.ntmps11
  go_wp2_with fail
  go_loopw [5] (fun s5 wr => ∃ (i : Nat) (r q : Fo), s5 = .int .i64 i ∧ i ≤ n ∧ Hid (r.size ≤ F.size) ∧ Hid (q.sim r) ∧ Hid (Rd E (E 1) n nb a i r wr) ∧ Hid (Rd E (E 1) n nb b i q wr) ∧ Hid (Below W.heap.size W wr)) (fun s5 _ => n - (intOf s5).toNat)
  case atStart => exact ⟨0, F, G, rfl, Nat.zero_le _, Nat.le_refl _, HSI, HR, HR', Below.refl _ _⟩
  case round =>
    obtain ⟨i, r, q, rfl, hin, hrs, hrq, hR, hR', hB⟩ := hrel
    by_cases hi : i < n
    · obtain ⟨x, rr, g, o, rfl, hx, rfl, hg, hc, hxs, hR1⟩ := hR.out.next hi (by decide)
      obtain ⟨y, qq, g', o', rfl, hy, rfl, hg', hc', hys, hR1'⟩ := hR'.out.next hi (by decide)
      have HR1 := hide hR1
      have HR1' := hide hR1'
      obtain ⟨hxy, hqr⟩ := Fo.sim.split (x := x) (y := y) (by rw [Fit.len hx, Fit.len hy]) hrq.out
      have HQ := hide hqr
      have HZ := hrs.out
      rw [Fo.app_size] at HZ
      have hbz := hB.out.size
      have hii : (i : Int) < n := by omega
      clear hR hR' hR1 hR1' hrs hrq hqr hy
      replace hx : Fit E x [.s 0] := hx
      obtain ⟨a0, n0, c0, k0, F0, rfl, hf0, hx⟩ := fit_s hx
      obtain rfl := fit_nil hx
      obtain ⟨d0, e0, j0, q0, rfl, hjk, s_1⟩ := Fo.sim_s hxy
      obtain rfl := Fo.sim_nil s_1
      obtain ⟨hs0, -⟩ := hxs
      obtain ⟨ht0, -⟩ := hys
      simp only [Fo.size] at HZ
      have p0 : wr.cell? ⟨g, o + i * 1, none⟩ = some (.slice a0 n0 c0) := hc 0 _ rfl
      have p1 : wr.cell? ⟨g', o' + i * 1, none⟩ = some (.slice d0 n0 e0) := hc' 0 _ rfl
      rw [Nat.mul_one] at p0 p1
      have hd0 : Hid (Below wr.heap.size wr wr.drew) := (Below.refl _ wr).drew
      have HC := hide (eq_R_Int64S m k0 j0 n0 nb wr.drew a0 d0 c0 e0 (by have := HM.out; omega) hf0 (by show _ ≤ wr.heap.size; omega) hjk (Fo.Sub.below hd0.out (fun c hc => by omega) hs0) (Fo.Sub.below hd0.out (fun c hc => by omega) ht0))
      have HS : Hid (∀ V, Below wr.heap.size wr V → V.cell? ⟨g, o + i, none⟩ = some (.slice a0 n0 c0) ∧ V.cell? ⟨g', o' + i, none⟩ = some (.slice d0 n0 e0)) := fun V hb => ⟨(hb.cell (p := ⟨g, o + i, none⟩) (by show g < _; omega)).trans p0, (hb.cell (p := ⟨g', o' + i, none⟩) (by show g' < _; omega)).trans p1⟩
      have kk0 := HS.out _ hd0.out
      have HZ1 := hide HZ
      have HBZ := hide hbz
      clear hc hc' hs0 ht0 HZ hbz hxy s_1
      go_wp2_with fail
      go_region_held3 (fun V => V.cell? ⟨g, o + i, none⟩ = some (.slice a0 n0 c0) ∧ V.cell? ⟨g', o' + i, none⟩ = some (.slice d0 n0 e0))
        (first | with_reducible exact kk1 | with_reducible exact kk0)
        (first | (go_at_call 24; refine HC.out.mono ?_; rintro e w1 ⟨rfl, b1⟩; have HB2 : Hid (Below wr.heap.size wr w1) := hd0.out.trans b1; have kk1 := HS.out w1 HB2.out; clear b1))
      all_goals
       go_wp2_with fail
       go_roundw
       case rel => exact ⟨i + 1, rr, qq, by go_num, by omega, (by show _ ≤ _; have := HZ1.out; omega), HQ, HR1.out.below HB2.out (by have := HBZ.out; omega), HR1'.out.below HB2.out (by have := HBZ.out; omega), hB.out.trans (HB2.out.mono HBZ.out)⟩
       case measure => simp [intOf]; omega
    · obtain ⟨-, rfl⟩ := hR.out.done hi
      clear hR hR' hrs hrq
      go_wp2_with fail
      go_ret
      exact ⟨rfl, hB.out⟩

end Go.Proofs.Ytmnligaelihmiaa
