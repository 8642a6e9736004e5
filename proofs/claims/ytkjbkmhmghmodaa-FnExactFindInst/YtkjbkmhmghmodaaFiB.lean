import Derived.Test.YtkjbkmhmghmodaaFiA
import Derived.Test.YtkjbkmhmghmodaaShelf
namespace Go.Proofs.Ytkjbkmhmghmodaa
open Go.RowKit Go.Joins

set_option maxRecDepth 100000 in
theorem iClone (x : ByteArray) (w : World) (hx : x.size ≤ 1048576) : Calls Try.prog 64 #[.string x] w fun e w' => e = .returned (.string x) ∧ Below w.heap.size w w' := by
  have := Try.stringslite_Clone x w (by omega)
  go_enter Try.func64, Try.ntmps64
  go_wp2_with fail
  refine this.mono ?_
  rintro e w2 ⟨rfl, b2⟩
  go_wp2_with fail
  go_ret
  exact ⟨rfl, b2⟩

set_option maxHeartbeats 1000000 in
set_option maxRecDepth 100000 in
/-- Is it the instance? -/
theorem i_is (x0 x1 c d : ByteArray) (x2 : Int) (p3 : Option Addr) (m3 e3 pb qb : Nat) (W : World) (hc : W.cell? ⟨pb, 0, none⟩ = some (.string c)) (hd : W.cell? ⟨qb, 0, none⟩ = some (.string d)) :
    Calls Try.prog 70 #[.agg #[.string x0, .string x1, .int .i64 x2, .slice p3 m3 e3], .pointer (some ⟨pb, 0, none⟩), .pointer (some ⟨qb, 0, none⟩)] W fun e W' => e = .returned (.bool (decide (x0 = c ∧ x1 = d))) ∧ Below W.heap.size W W' := by
  have b0 := below_alloc1 W (.cells #[.string x0, .string x1, .int .i64 x2, .slice p3 m3 e3] 51)
  have hpl : pb < W.heap.size := block_lt_of_cell hc
  have hql : qb < W.heap.size := block_lt_of_cell hd
  have hne : ¬ W.heap.size = pb := by omega
  have hne2 : ¬ W.heap.size = qb := by omega
  have hc2 := (b0.cell (p := ⟨pb, 0, none⟩) hpl).trans hc
  have hd2 := (b0.cell (p := ⟨qb, 0, none⟩) hql).trans hd
  have HB := hide b0
  clear b0
  by_cases h1 : x0 = c
  · subst h1
    by_cases h2 : x1 = d
    · subst h2
      simp only [and_self, decide_true]
      go_enter Try.func70, Try.ntmps70
      go_wp2_with fail
      go_ret
      exact ⟨rfl, HB.out⟩
    · have h2' := list_ne h2
      have e1 : decide (x0 = x0 ∧ x1 = d) = false := by simp [h2]
      rw [e1]
      clear e1 h2
      go_enter Try.func70, Try.ntmps70
      go_wp2_with fail
      go_ret
      exact ⟨rfl, HB.out⟩
  · have h1' := list_ne h1
    have e1 : decide (x0 = c ∧ x1 = d) = false := by simp [h1]
    rw [e1]
    clear e1 h1
    go_enter Try.func70, Try.ntmps70
    go_wp2_with fail
    go_ret
    exact ⟨rfl, HB.out⟩

/-- Where it stands. -/
def FoundI (c d : ByteArray) (n nb : Nat) (a : Option Addr) (F : Fo) (W : World) (j : Int) : Prop :=
  (j = -1 ∧ findI c d F = zeroI) ∨ ∃ (i : Nat) (x q : Fo), j = i ∧ i < n ∧ Rd E (E 6) n nb a i (x.app q) W ∧ Fit E x (E 6) ∧ x.wt ≤ F.wt ∧ findI c d F = x

set_option maxHeartbeats 1000000 in
set_option maxRecDepth 100000 in
theorem i_index (F : Fo) (c d : ByteArray) (n nb pb qb : Nat) (a : Option Addr) (cap : Nat) (W : World) (hf : Fit E F (rep (E 6) n)) (hn : nb ≤ W.heap.size) (hs : F.Sub W (fun c => c < nb) a n cap) (hc : W.cell? ⟨pb, 0, none⟩ = some (.string c)) (hd : W.cell? ⟨qb, 0, none⟩ = some (.string d)) :
    Calls Try.prog 69 #[.slice a n cap, .func (.func 70) #[] #[.pointer (some ⟨pb, 0, none⟩), .pointer (some ⟨qb, 0, none⟩)]] W fun e W' => ∃ j, e = .returned (.int .i64 j) ∧ FoundI c d n nb a F W j ∧ Below W.heap.size W W' := by
  have hmx : n ≤ 9223372036854775807 := by have h2 := hs.1; have h3 := hs.2.1; simp only [maxLen] at h3; omega
  have HR := hide (Rd.start hf hs)
  have HC := hide hc
  have HD := hide hd
  have hpl : Hid (pb < W.heap.size) := block_lt_of_cell hc
  have hql : Hid (qb < W.heap.size) := block_lt_of_cell hd
  clear hf hs hc hd
  go_enter Try.func69, Try.ntmps69
  go_wp2_with fail
  go_loopw [8] (fun s8 wr => ∃ (i : Nat) (r : Fo), s8 = .int .i64 i ∧ i ≤ n ∧ Hid (findI c d r = findI c d F) ∧ Hid (r.wt ≤ F.wt) ∧ Hid (Rd E (E 6) n nb a i r W) ∧ Hid (Below W.heap.size W wr)) (fun s8 _ => n - (intOf s8).toNat)
  case atStart => exact ⟨0, F, rfl, Nat.zero_le _, rfl, Nat.le_refl _, HR, Below.refl _ _⟩
  case round =>
    obtain ⟨i, r, rfl, hin, hfd, hrw, hR, hB⟩ := hrel
    by_cases hi : i < n
    · have HRW := hide hR.out
      obtain ⟨x, rr, b, o, rfl, hx, rfl, hb, hc, hxs, hR1⟩ := hR.out.next hi (by decide)
      have HR1 := hide hR1
      have HX := hide hx
      have hii : (i : Int) < n := by omega
      have hw := hrw.out
      rw [Fo.app_wt] at hw
      have HW := hide hw
      have hfe := hfd.out
      have hbz := hB.out.size
      replace hc := hc.below hB.out (by omega)
      have HX' := hide HX.out
      clear hR hR1 hrw hfd hw hxs
      replace hx : Fit E x [.t, .t, .i, .s 5] := hx
      obtain ⟨x0, F0, rfl, -, hx⟩ := fit_t hx
      obtain ⟨x1, F1, rfl, -, hx⟩ := fit_t hx
      obtain ⟨x2, F2, rfl, -, hx⟩ := fit_i hx
      obtain ⟨p3, m3, e3, k3, F3, rfl, -, hx⟩ := fit_s hx
      obtain rfl := fit_nil hx
      simp only [Fo.app, findI] at hfe
      have y0 : wr.cell? ⟨b, o + i * 4, none⟩ = some (.string x0) := hc 0 _ rfl
      have y1 : wr.cell? ⟨b, o + i * 4 + 1, none⟩ = some (.string x1) := hc 1 _ rfl
      have y2 : wr.cell? ⟨b, o + i * 4 + 2, none⟩ = some (.int .i64 x2) := hc 2 _ rfl
      have y3 : wr.cell? ⟨b, o + i * 4 + 3, none⟩ = some (.slice p3 m3 e3) := hc 3 _ rfl
      have HI := hide (i_is x0 x1 c d x2 p3 m3 e3 pb qb wr ((hB.out.cell (p := ⟨pb, 0, none⟩) hpl.out).trans HC.out) ((hB.out.cell (p := ⟨qb, 0, none⟩) hql.out).trans HD.out))
      have HBZ := hide hbz
      clear hc hx hbz
      by_cases h1 : x0 = c ∧ x1 = d
      · rw [if_pos h1] at hfe
        rw [decide_eq_true h1] at HI
        have HFE := hide hfe
        clear hfe h1
        go_wp2_with fail
        refine HI.out.mono ?_
        rintro e w1 ⟨rfl, b1⟩
        have HB1 := hide (hB.out.trans (b1.mono HBZ.out))
        clear b1
        go_wp2_with fail
        go_ret
        exact ⟨_, rfl, .inr ⟨i, _, rr, rfl, hi, HRW.out, HX'.out, (by have := HW.out; omega), HFE.out.symm⟩, HB1.out⟩
      · rw [if_neg h1] at hfe
        rw [decide_eq_false h1] at HI
        have HFE := hide hfe
        clear hfe h1
        go_wp2_with fail
        refine HI.out.mono ?_
        rintro e w1 ⟨rfl, b1⟩
        have HB1 := hide (hB.out.trans (b1.mono HBZ.out))
        clear b1
        go_wp2_with fail
        go_roundw
        case rel => exact ⟨i + 1, rr, by go_num, by omega, HFE, (by show _ ≤ _; have := HW.out; omega), HR1, HB1⟩
        case measure => simp [intOf]; omega
    · obtain ⟨rfl, rfl⟩ := hR.out.done hi
      have hfe := hfd.out
      simp only [findI] at hfe
      have HFE := hide hfe
      clear hR hfd hfe hrw
      go_wp2_with fail
      go_ret
      exact ⟨_, rfl, .inl ⟨rfl, HFE.out.symm⟩, hB.out⟩

end Go.Proofs.Ytkjbkmhmghmodaa
