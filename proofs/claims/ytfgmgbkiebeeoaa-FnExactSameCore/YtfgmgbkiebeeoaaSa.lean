import Derived.Test.YtfgmgbkiebeeoaaKe
import Derived.Test.YtfgmgbkiebeeoaaUt
namespace Go.Proofs.Ytfgmgbkiebeeoaa
open Go.RowKit Go.Joins

/-- Two rows are compared. -/
def SmR (f : FuncId) (fs : List Fld) : Prop := ∀ (F G : Fo) (n l nb : Nat) (W : World) (a b : Option Addr) (cap dap : Nat), Fit E F (rep fs n) → Fit E G (rep fs l) → nb ≤ W.heap.size → F.Sub W (fun c => c < nb) a n cap → G.Sub W (fun c => c < nb) b l dap →
  Calls Try.prog f #[.slice a n cap, .slice b l dap] W fun e W' => ∃ v : Bool, e = .returned (.bool v) ∧ (v = true ↔ n = l ∧ G.sim F) ∧ Below W.heap.size W W'

set_option maxHeartbeats 2000000 in
set_option maxRecDepth 100000 in
theorem sm_28 : SmR 28 (E 1) := by
  intro F G n l nb W a b cap dap hf hg hn hs ht
  have hmx : n ≤ 9223372036854775807 := by have h2 := hs.1; have h3 := hs.2.1; simp only [maxLen] at h3; omega
  have hmy : l ≤ 9223372036854775807 := by have h2 := ht.1; have h3 := ht.2.1; simp only [maxLen] at h3; omega
  have HR := hide (Rd.start hf hs)
  have HR' := hide (Rd.start hg ht)
  clear hf hs ht hg
  by_cases hnl : (n : Int) = l
  · obtain rfl : n = l := by omega
    go_enter Try.func28, Try.ntmps28
    go_wp2_with fail
    go_loopw [5] (fun s5 wr => ∃ (i : Nat) (r q : Fo), s5 = .int .i64 i ∧ i ≤ n ∧ Hid (G.sim F ↔ q.sim r) ∧ Hid (Rd E (E 1) n nb a i r wr) ∧ Hid (Rd E (E 1) n nb b i q wr) ∧ Hid (Below W.heap.size W wr)) (fun s5 _ => n - (intOf s5).toNat)
    case atStart => exact ⟨0, F, G, rfl, Nat.zero_le _, Iff.rfl, HR, HR', Below.refl _ _⟩
    case round =>
      obtain ⟨i, r, q, rfl, hin, hrq, hR, hR', hB⟩ := hrel
      by_cases hi : i < n
      · obtain ⟨x, rr, g, o, rfl, hx, rfl, hg, hc, hxs, hR1⟩ := hR.out.next hi (by decide)
        obtain ⟨y, qq, g', o', rfl, hy, rfl, hg', hc', hys, hR1'⟩ := hR'.out.next hi (by decide)
        have HR1 := hide hR1
        have HR1' := hide hR1'
        have hbz := hB.out.size
        have hii : (i : Int) < n := by omega
        clear hR hR' hR1 hR1'
        replace hx : Fit E x [.t] := hx
        obtain ⟨x0, F0, rfl, -, hx⟩ := fit_t hx
        obtain rfl := fit_nil hx
        replace hy : Fit E y [.t] := hy
        obtain ⟨y0, G0, rfl, -, hy⟩ := fit_t hy
        obtain rfl := fit_nil hy
        have p0 : wr.cell? ⟨g, o + i * 1, none⟩ = some (.string x0) := hc 0 _ rfl
        have p1 : wr.cell? ⟨g', o' + i * 1, none⟩ = some (.string y0) := hc' 0 _ rfl
        rw [Nat.mul_one] at p0 p1
        have HBZ := hide hbz
        have hd0 : Hid (Below wr.heap.size wr wr.drew) := (Below.refl _ wr).drew
        have HQ : Hid (G.sim F ↔ y0 = x0 ∧ qq.sim rr) := by
          refine hrq.out.trans ?_
          simp only [Fo.app, Fo.sim]
          simp
        clear hc hc' hxs hys hbz hrq hx hy
        by_cases hxy : x0 = y0
        · subst hxy
          have HQ2 : Hid (G.sim F ↔ qq.sim rr) := by
            refine HQ.out.trans ?_
            simp
          go_wp2_with fail
          go_region
          all_goals
            go_wp2_with fail
            go_roundw
            case rel => exact ⟨i + 1, rr, qq, by go_num, by omega, HQ2, HR1.out.below hd0.out (by have := HBZ.out; omega), HR1'.out.below hd0.out (by have := HBZ.out; omega), hB.out.trans (hd0.out.mono HBZ.out)⟩
            case measure => simp [intOf]; omega
        · have HNS : Hid (¬ G.sim F) := fun e => hxy (HQ.out.1 e).1.symm
          have hne := list_ne hxy
          go_wp2_with fail
          go_region
          all_goals
            go_wp2_with fail
            go_ret
            exact ⟨false, rfl, by simp [HNS.out], hB.out.trans (hd0.out.mono HBZ.out)⟩
      · obtain ⟨e1, e3⟩ := hR.out.done hi
        obtain ⟨e2, -⟩ := hR'.out.done hi
        subst e1
        subst e2
        subst e3
        have HT : Hid (G.sim F) := hrq.out.2 trivial
        clear hR hR' hrq
        go_wp2_with fail
        go_ret
        exact ⟨true, rfl, by simp [HT.out], hB.out⟩
  · have HNE : Hid (n ≠ l) := fun e => hnl (by rw [e])
    go_enter Try.func28, Try.ntmps28
    go_wp2_with fail
    go_ret
    exact ⟨false, rfl, by simp [HNE.out], Below.refl _ _⟩

set_option maxHeartbeats 2000000 in
set_option maxRecDepth 100000 in
theorem sm_52 : SmR 52 (E 0) := by
  intro F G n l nb W a b cap dap hf hg hn hs ht
  have hmx : n ≤ 9223372036854775807 := by have h2 := hs.1; have h3 := hs.2.1; simp only [maxLen] at h3; omega
  have hmy : l ≤ 9223372036854775807 := by have h2 := ht.1; have h3 := ht.2.1; simp only [maxLen] at h3; omega
  have HR := hide (Rd.start hf hs)
  have HR' := hide (Rd.start hg ht)
  clear hf hs ht hg
  by_cases hnl : (n : Int) = l
  · obtain rfl : n = l := by omega
    go_enter Try.func52, Try.ntmps52
    go_wp2_with fail
    go_loopw [5, 13] (fun _ s5 wr => ∃ (i : Nat) (r q : Fo), s5 = .int .i64 i ∧ i ≤ n ∧ Hid (G.sim F ↔ q.sim r) ∧ Hid (Rd E (E 0) n nb a i r wr) ∧ Hid (Rd E (E 0) n nb b i q wr) ∧ Hid (Below W.heap.size W wr)) (fun _ s5 _ => n - (intOf s5).toNat)
    case atStart => exact ⟨0, F, G, rfl, Nat.zero_le _, Iff.rfl, HR, HR', Below.refl _ _⟩
    case round =>
      obtain ⟨i, r, q, rfl, hin, hrq, hR, hR', hB⟩ := hrel
      by_cases hi : i < n
      · obtain ⟨x, rr, g, o, rfl, hx, rfl, hg, hc, hxs, hR1⟩ := hR.out.next hi (by decide)
        obtain ⟨y, qq, g', o', rfl, hy, rfl, hg', hc', hys, hR1'⟩ := hR'.out.next hi (by decide)
        have HR1 := hide hR1
        have HR1' := hide hR1'
        have hbz := hB.out.size
        have hii : (i : Int) < n := by omega
        clear hR hR' hR1 hR1'
        replace hx : Fit E x [.u] := hx
        obtain ⟨x0, F0, rfl, -, hx⟩ := fit_u hx
        obtain rfl := fit_nil hx
        replace hy : Fit E y [.u] := hy
        obtain ⟨y0, G0, rfl, -, hy⟩ := fit_u hy
        obtain rfl := fit_nil hy
        have p0 : wr.cell? ⟨g, o + i * 1, none⟩ = some (.int .u32 x0) := hc 0 _ rfl
        have p1 : wr.cell? ⟨g', o' + i * 1, none⟩ = some (.int .u32 y0) := hc' 0 _ rfl
        rw [Nat.mul_one] at p0 p1
        have HBZ := hide hbz
        have hd0 : Hid (Below wr.heap.size wr wr.drew) := (Below.refl _ wr).drew
        have HQ : Hid (G.sim F ↔ y0 = x0 ∧ qq.sim rr) := by
          refine hrq.out.trans ?_
          simp only [Fo.app, Fo.sim]
          simp
        clear hc hc' hxs hys hbz hrq hx hy
        by_cases hxy : x0 = y0
        · subst hxy
          have HQ2 : Hid (G.sim F ↔ qq.sim rr) := by
            refine HQ.out.trans ?_
            simp
          go_wp2_with fail
          go_region
          all_goals
            go_wp2_with fail
            go_roundw
            case rel => exact ⟨i + 1, rr, qq, by go_num, by omega, HQ2, HR1.out.below hd0.out (by have := HBZ.out; omega), HR1'.out.below hd0.out (by have := HBZ.out; omega), hB.out.trans (hd0.out.mono HBZ.out)⟩
            case measure => simp [intOf]; omega
        · have HNS : Hid (¬ G.sim F) := fun e => hxy (HQ.out.1 e).1.symm
          clear HQ
          go_wp2_with fail
          go_region
          all_goals
            go_wp2_with fail
            go_ret
            exact ⟨false, rfl, by simp [HNS.out], hB.out.trans (hd0.out.mono HBZ.out)⟩
      · obtain ⟨e1, e3⟩ := hR.out.done hi
        obtain ⟨e2, -⟩ := hR'.out.done hi
        subst e1
        subst e2
        subst e3
        have HT : Hid (G.sim F) := hrq.out.2 trivial
        clear hR hR' hrq
        go_wp2_with fail
        go_ret
        exact ⟨true, rfl, by simp [HT.out], hB.out⟩
  · have HNE : Hid (n ≠ l) := fun e => hnl (by rw [e])
    go_enter Try.func52, Try.ntmps52
    go_wp2_with fail
    go_ret
    exact ⟨false, rfl, by simp [HNE.out], Below.refl _ _⟩

set_option maxHeartbeats 2000000 in
set_option maxRecDepth 100000 in
theorem sm_53 : SmR 53 (E 1) := by
  intro F G n l nb W a b cap dap hf hg hn hs ht
  have hmx : n ≤ 9223372036854775807 := by have h2 := hs.1; have h3 := hs.2.1; simp only [maxLen] at h3; omega
  have hmy : l ≤ 9223372036854775807 := by have h2 := ht.1; have h3 := ht.2.1; simp only [maxLen] at h3; omega
  have HR := hide (Rd.start hf hs)
  have HR' := hide (Rd.start hg ht)
  clear hf hs ht hg
  by_cases hnl : (n : Int) = l
  · obtain rfl : n = l := by omega
    go_enter Try.func53, Try.ntmps53
    go_wp2_with fail
    go_loopw [5, 13] (fun _ s5 wr => ∃ (i : Nat) (r q : Fo), s5 = .int .i64 i ∧ i ≤ n ∧ Hid (G.sim F ↔ q.sim r) ∧ Hid (Rd E (E 1) n nb a i r wr) ∧ Hid (Rd E (E 1) n nb b i q wr) ∧ Hid (Below W.heap.size W wr)) (fun _ s5 _ => n - (intOf s5).toNat)
    case atStart => exact ⟨0, F, G, rfl, Nat.zero_le _, Iff.rfl, HR, HR', Below.refl _ _⟩
    case round =>
      obtain ⟨i, r, q, rfl, hin, hrq, hR, hR', hB⟩ := hrel
      by_cases hi : i < n
      · obtain ⟨x, rr, g, o, rfl, hx, rfl, hg, hc, hxs, hR1⟩ := hR.out.next hi (by decide)
        obtain ⟨y, qq, g', o', rfl, hy, rfl, hg', hc', hys, hR1'⟩ := hR'.out.next hi (by decide)
        have HR1 := hide hR1
        have HR1' := hide hR1'
        have hbz := hB.out.size
        have hii : (i : Int) < n := by omega
        clear hR hR' hR1 hR1'
        replace hx : Fit E x [.t] := hx
        obtain ⟨x0, F0, rfl, -, hx⟩ := fit_t hx
        obtain rfl := fit_nil hx
        replace hy : Fit E y [.t] := hy
        obtain ⟨y0, G0, rfl, -, hy⟩ := fit_t hy
        obtain rfl := fit_nil hy
        have p0 : wr.cell? ⟨g, o + i * 1, none⟩ = some (.string x0) := hc 0 _ rfl
        have p1 : wr.cell? ⟨g', o' + i * 1, none⟩ = some (.string y0) := hc' 0 _ rfl
        rw [Nat.mul_one] at p0 p1
        have HBZ := hide hbz
        have hd0 : Hid (Below wr.heap.size wr wr.drew) := (Below.refl _ wr).drew
        have HQ : Hid (G.sim F ↔ y0 = x0 ∧ qq.sim rr) := by
          refine hrq.out.trans ?_
          simp only [Fo.app, Fo.sim]
          simp
        clear hc hc' hxs hys hbz hrq hx hy
        by_cases hxy : x0 = y0
        · subst hxy
          have HQ2 : Hid (G.sim F ↔ qq.sim rr) := by
            refine HQ.out.trans ?_
            simp
          go_wp2_with fail
          go_region
          all_goals
            go_wp2_with fail
            go_roundw
            case rel => exact ⟨i + 1, rr, qq, by go_num, by omega, HQ2, HR1.out.below hd0.out (by have := HBZ.out; omega), HR1'.out.below hd0.out (by have := HBZ.out; omega), hB.out.trans (hd0.out.mono HBZ.out)⟩
            case measure => simp [intOf]; omega
        · have HNS : Hid (¬ G.sim F) := fun e => hxy (HQ.out.1 e).1.symm
          have hne := list_ne hxy
          go_wp2_with fail
          go_region
          all_goals
            go_wp2_with fail
            go_ret
            exact ⟨false, rfl, by simp [HNS.out], hB.out.trans (hd0.out.mono HBZ.out)⟩
      · obtain ⟨e1, e3⟩ := hR.out.done hi
        obtain ⟨e2, -⟩ := hR'.out.done hi
        subst e1
        subst e2
        subst e3
        have HT : Hid (G.sim F) := hrq.out.2 trivial
        clear hR hR' hrq
        go_wp2_with fail
        go_ret
        exact ⟨true, rfl, by simp [HT.out], hB.out⟩
  · have HNE : Hid (n ≠ l) := fun e => hnl (by rw [e])
    go_enter Try.func53, Try.ntmps53
    go_wp2_with fail
    go_ret
    exact ⟨false, rfl, by simp [HNE.out], Below.refl _ _⟩

end Go.Proofs.Ytfgmgbkiebeeoaa
