import Derived.Test.YtanjgmmkodlffaaMa
namespace Go.Proofs.Ytanjgmmkodlffaa.U
open Go.RowKit Go.Joins

theorem x_own {W : World} {z : Nat} {x0 : ByteArray} {x1 : Int} {p2 : Option Addr} {m2 e2 : Nat} {P : Fo} {x3 x4 : Int} {x5 : ByteArray} {p6 : Option Addr} {m6 e6 : Nat} {K6 rr : Fo} (hs : Fo.Subs W (fun c => c < z) (.v (.string x0) (.v (.int .i64 x1) (.s p2 m2 e2 P (.v (.int .i64 x3) (.v (.int .i64 x4) (.v (.string x5) (.s p6 m6 e6 K6 .nil)))))))) (hz : z ≤ W.heap.size)
    (hnd : (Fo.app (.v (.string x0) (.v (.int .i64 x1) (.s p2 m2 e2 P (.v (.int .i64 x3) (.v (.int .i64 x4) (.v (.string x5) (.s p6 m6 e6 K6 .nil))))))) rr).inn.Nodup) (hlv : Live W (Fo.app (.v (.string x0) (.v (.int .i64 x1) (.s p2 m2 e2 P (.v (.int .i64 x3) (.v (.int .i64 x4) (.v (.string x5) (.s p6 m6 e6 K6 .nil))))))) rr).inn) :
    Own 0 W (ty4 x3 x4 x5 p6 m6 e6 K6) ∧ (∀ c ∈ (ty4 x3 x4 x5 p6 m6 e6 K6).inn, c < z) ∧ rr.inn.Nodup ∧ Live W rr.inn := by
  have hsub : (ty4 x3 x4 x5 p6 m6 e6 K6).Subs W (fun c => c < z) := hs.2
  have e1 : (Fo.app (.v (.string x0) (.v (.int .i64 x1) (.s p2 m2 e2 P (.v (.int .i64 x3) (.v (.int .i64 x4) (.v (.string x5) (.s p6 m6 e6 K6 .nil))))))) rr).inn = (blk p2 P.len ++ P.inn) ++ ((ty4 x3 x4 x5 p6 m6 e6 K6).inn ++ rr.inn) := by
    simp [Fo.app, Fo.inn, ty4]
  rw [e1] at hnd hlv
  have h1 := (List.nodup_append.1 hnd).2.1
  exact ⟨⟨hsub.mono (fun c hc => ⟨Nat.zero_le _, by omega⟩), (List.nodup_append.1 h1).1, fun c hc => hlv c (by simp [hc])⟩, hsub.inn_of, (List.nodup_append.1 h1).2.1, fun c hc => hlv c (by simp [hc])⟩

set_option maxHeartbeats 2000000 in
set_option maxRecDepth 100000 in
theorem i_index (T : Fo) (n z pb : Nat) (a : Option Addr) (cap : Nat) (wa : Option Addr) (wn wc : Nat) (wnm : ByteArray) (WK : Fo) (W : World) (hf : Fit E T (rep (E 2) n)) (hn : z ≤ W.heap.size) (hwt : T.wt ≤ 1048576) (hs : T.Sub W (fun c => c < z) a n cap) (hnd : T.inn.Nodup) (hlv : Live W T.inn)
    (hc : Bx W pb [.int .i64 3, .int .i64 0, .string wnm, .slice wa wn wc]) (hw : Want z W wa wn wc wnm WK) :
    Calls Try.prog 59 #[.slice a n cap, .func (.func 54) #[] #[.pointer (some ⟨pb, 0, none⟩)]] W fun e W' => ∃ j, e = .returned (.int .i64 j) ∧ decide (0 ≤ j) = hasM (ty4 3 0 wnm wa wn wc WK) T ∧ Below W.heap.size W W' := by
  have hmx : n ≤ 9223372036854775807 := by have h2 := hs.1; have h3 := hs.2.1; simp only [maxLen] at h3; omega
  have HR := hide (Rd.start hf hs)
  have HC := hide hc
  have HWN := hide hw
  have HND : Hid (T.inn.Nodup ∧ Live W T.inn) := ⟨hnd, hlv⟩
  have HZ := hide hn
  have HWT := hide hwt
  clear hf hs hc hw hnd hlv hn hwt
  go_enter Try.func59, Try.ntmps59
  go_wp2_with fail
  go_loopw [8] (fun s8 wr => ∃ (i : Nat) (r : Fo), s8 = .int .i64 i ∧ i ≤ n ∧ Hid (hasM (ty4 3 0 wnm wa wn wc WK) r = hasM (ty4 3 0 wnm wa wn wc WK) T) ∧ Hid (r.wt ≤ 1048576) ∧ Hid (Rd E (E 2) n z a i r W) ∧ Hid (r.inn.Nodup ∧ Live W r.inn) ∧ Hid (Below W.heap.size W wr)) (fun s8 _ => n - (intOf s8).toNat)
  case atStart => exact ⟨0, T, rfl, Nat.zero_le _, rfl, HWT, HR, HND, Below.refl _ _⟩
  case round =>
    obtain ⟨i, r, rfl, hin, hfd, hrw, hR, hN, hB⟩ := hrel
    by_cases hi : i < n
    · obtain ⟨x, rr, b, o, rfl, hx, rfl, hb, hc, hxs, hR1⟩ := hR.out.next hi (by decide)
      have HR1 := hide hR1
      have hii : (i : Int) < n := by omega
      have hw := hrw.out
      rw [Fo.app_wt] at hw
      have hfe := hfd.out
      have hbz := hB.out.size
      have hzz := HZ.out
      replace hc := hc.below hB.out (by omega)
      replace hx : Fit E x [.t, .i, .s 0, .i, .i, .t, .s 1] := hx
      obtain ⟨x0, F0, rfl, -, hx⟩ := fit_t hx
      obtain ⟨x1, F1, rfl, -, hx⟩ := fit_i hx
      obtain ⟨p2, m2, e2, P, F2, rfl, -, hx⟩ := fit_s hx
      have hX : Fit E F2 (E 1) := hx
      obtain ⟨x3, F3, rfl, -, hx⟩ := fit_i hx
      obtain ⟨x4, F4, rfl, -, hx⟩ := fit_i hx
      obtain ⟨x5, F5, rfl, -, hx⟩ := fit_t hx
      obtain ⟨p6, m6, e6, K6, F6, rfl, -, hx⟩ := fit_s hx
      obtain rfl := fit_nil hx
      obtain ⟨ow, oz, nd2, lv2⟩ := x_own hxs hzz hN.out.1 hN.out.2
      simp only [Fo.app, hasM] at hfe
      have y0 : wr.cell? ⟨b, o + i * 7, none⟩ = some (.string x0) := hc 0 _ rfl
      have y1 : wr.cell? ⟨b, o + i * 7 + 1, none⟩ = some (.int .i64 x1) := hc 1 _ rfl
      have y2 : wr.cell? ⟨b, o + i * 7 + 2, none⟩ = some (.slice p2 m2 e2) := hc 2 _ rfl
      have y3 : wr.cell? ⟨b, o + i * 7 + 3, none⟩ = some (.int .i64 x3) := hc 3 _ rfl
      have y4 : wr.cell? ⟨b, o + i * 7 + 4, none⟩ = some (.int .i64 x4) := hc 4 _ rfl
      have y5 : wr.cell? ⟨b, o + i * 7 + 5, none⟩ = some (.string x5) := hc 5 _ rfl
      have y6 : wr.cell? ⟨b, o + i * 7 + 6, none⟩ = some (.slice p6 m6 e6) := hc 6 _ rfl
      have hwX : (ty4 x3 x4 x5 p6 m6 e6 K6).wt ≤ 1048576 := by
        simp only [Fo.wt] at hw
        simp only [ty4, Fo.wt]
        omega
      have HI := hide (i_is x0 x1 p2 m2 e2 x3 x4 x5 p6 m6 e6 K6 z pb wa wn wc wnm WK wr (HC.out.below hB.out) (HWN.out.below hB.out) hX hwX (ow.below hB.out) oz)
      have HND2 : Hid (rr.inn.Nodup ∧ Live W rr.inn) := ⟨nd2, lv2⟩
      have HW2 : Hid (rr.wt ≤ 1048576) := by unfold Hid; omega
      have HBZ := hide hbz
      obtain ⟨qq, hqq⟩ : ∃ qq : Bool, qq = (decide (x0 = sMain) && decide (m2 = 0) && sameU (ty4 x3 x4 x5 p6 m6 e6 K6) (ty4 3 0 wnm wa wn wc WK)) := ⟨_, rfl⟩
      have hq2 : qq = (decide (x0 = sMain) && decide (m2 = 0) && sameU (.v (.int .i64 x3) (.v (.int .i64 x4) (.v (.string x5) (.s p6 m6 e6 K6 .nil)))) (ty4 3 0 wnm wa wn wc WK)) := hqq
      rw [← hqq] at HI
      rw [← hq2] at hfe
      clear hc hx hbz hzz ow oz nd2 lv2 hxs hw hX hwX hqq hq2 hR hR1 hrw hfd hN
      cases qq with
      | true =>
        have HFE : Hid (true = hasM (ty4 3 0 wnm wa wn wc WK) T) := by rw [← hfe]; rfl
        clear hfe
        go_wp2_with fail
        refine HI.out.mono ?_
        rintro e w1 ⟨rfl, b1⟩
        have HB1 := hide (hB.out.trans (b1.mono HBZ.out))
        clear b1
        go_wp2_with fail
        go_ret
        exact ⟨_, rfl, by rw [← HFE.out]; simp, HB1.out⟩
      | false =>
        have HFE : Hid (hasM (ty4 3 0 wnm wa wn wc WK) rr = hasM (ty4 3 0 wnm wa wn wc WK) T) := by rw [← hfe]; rfl
        clear hfe
        go_wp2_with fail
        refine HI.out.mono ?_
        rintro e w1 ⟨rfl, b1⟩
        have HB1 := hide (hB.out.trans (b1.mono HBZ.out))
        clear b1
        go_wp2_with fail
        go_roundw
        case rel => exact ⟨i + 1, rr, by go_num, by omega, HFE, HW2, HR1, HND2, HB1⟩
        case measure => simp [intOf]; omega
    · obtain ⟨rfl, rfl⟩ := hR.out.done hi
      have HFE : Hid (false = hasM (ty4 3 0 wnm wa wn wc WK) T) := by rw [← hfd.out]; rfl
      clear hR hfd hrw
      go_wp2_with fail
      go_ret
      exact ⟨_, rfl, by rw [← HFE.out]; simp, hB.out⟩

set_option maxRecDepth 100000 in
theorem i_contains (T : Fo) (n z pb : Nat) (a : Option Addr) (cap : Nat) (wa : Option Addr) (wn wc : Nat) (wnm : ByteArray) (WK : Fo) (W : World) (hf : Fit E T (rep (E 2) n)) (hn : z ≤ W.heap.size) (hwt : T.wt ≤ 1048576) (hs : T.Sub W (fun c => c < z) a n cap) (hnd : T.inn.Nodup) (hlv : Live W T.inn)
    (hc : Bx W pb [.int .i64 3, .int .i64 0, .string wnm, .slice wa wn wc]) (hw : Want z W wa wn wc wnm WK) :
    Calls Try.prog 53 #[.slice a n cap, .func (.func 54) #[] #[.pointer (some ⟨pb, 0, none⟩)]] W fun e W' => e = .returned (.bool (hasM (ty4 3 0 wnm wa wn wc WK) T)) ∧ Below W.heap.size W W' := by
  have HI := hide (i_index T n z pb a cap wa wn wc wnm WK W hf hn hwt hs hnd hlv hc hw)
  clear hf hn hwt hs hnd hlv hc hw
  go_enter Try.func53, Try.ntmps53
  go_wp2_with fail
  refine HI.out.mono ?_
  rintro e w1 ⟨j, rfl, hj, b1⟩
  have HJ := hide hj
  have HB := hide b1
  clear b1 hj HI
  by_cases h0 : 0 ≤ j
  · have h1 : decide (0 ≤ j) = true := decide_eq_true h0
    have HE : Hid (true = hasM (ty4 3 0 wnm wa wn wc WK) T) := by unfold Hid; rw [← HJ.out, h1]
    go_wp2_with fail
    go_ret
    exact ⟨by rw [← HE.out]; simp, HB.out⟩
  · have h1 : decide (0 ≤ j) = false := decide_eq_false h0
    have HE : Hid (false = hasM (ty4 3 0 wnm wa wn wc WK) T) := by unfold Hid; rw [← HJ.out, h1]
    go_wp2_with fail
    go_ret
    exact ⟨by rw [← HE.out]; simp, HB.out⟩

set_option maxHeartbeats 1000000 in
set_option maxRecDepth 100000 in
theorem i_hasMain (x0 : Int) (x1 : ByteArray) (a : Option Addr) (n cap : Nat) (a3 : Option Addr) (n3 c3 : Nat) (T : Fo) (z : Nat) (wa : Option Addr) (wn wc : Nat) (wnm : ByteArray) (WK : Fo) (W : World) (hf : Fit E T (rep (E 2) n)) (hn : z ≤ W.heap.size) (hwt : T.wt ≤ 1048576) (hs : T.Sub W (fun c => c < z) a n cap) (hnd : T.inn.Nodup) (hlv : Live W T.inn) (hw : Want z W wa wn wc wnm WK) :
    Calls Try.prog 38 #[.agg #[.int .i64 x0, .string x1, .slice a n cap, .slice a3 n3 c3], .agg #[.int .i64 3, .int .i64 0, .string wnm, .slice wa wn wc]] W fun e W' => e = .returned (.bool (hasM (ty4 3 0 wnm wa wn wc WK) T)) ∧ Below W.heap.size W W' := by
  obtain ⟨V, hV⟩ : ∃ V, (W.alloc (.cells #[.int .i64 x0, .string x1, .slice a n cap, .slice a3 n3 c3] 41)).alloc (.cells #[.int .i64 3, .int .i64 0, .string wnm, .slice wa wn wc] 25) = V := ⟨_, rfl⟩
  have b0 : Below W.heap.size W V := by rw [← hV]; exact below_alloc2 _ _ _
  have q1 : Bx V W.heap.size [.int .i64 x0, .string x1, .slice a n cap, .slice a3 n3 c3] := by
    rw [← hV]
    exact (Bx.new W _ 41).kept (Kept.alloc (fun _ => True) _ _) trivial
  have q2 : Bx V (W.heap.size + 1) [.int .i64 3, .int .i64 0, .string wnm, .slice wa wn wc] := by
    rw [← hV]
    have := Bx.new (W.alloc (.cells #[.int .i64 x0, .string x1, .slice a n cap, .slice a3 n3 c3] 41)) [.int .i64 3, .int .i64 0, .string wnm, .slice wa wn wc] 25
    rwa [World.size_alloc] at this
  have hzb := b0.size
  have HI := hide (i_contains T n z (W.heap.size + 1) a cap wa wn wc wnm WK V hf (by omega) hwt (hs.below b0 (fun c hc => by omega)) hnd (hlv.below b0 (fun c hc => by
    have h1 : Fo.Subs W (fun c => c < z) (.s a n cap T .nil) := ⟨hs, trivial⟩
    have := h1.inn_of c (by simp [Fo.inn, hc])
    omega)) q2 (hw.below b0))
  have y2 := q1.cel 2 _ rfl
  have HB := hide b0
  have HV := hide hV
  clear hV b0 q1 q2 hf hn hwt hs hnd hlv hw hzb
  go_enter Try.func38, Try.ntmps38
  go_upto_region 1 with fail
  rw [HV.out]
  clear HV
  go_wp2_with fail
  refine HI.out.mono ?_
  rintro e w1 ⟨rfl, b1⟩
  have HB1 := hide (HB.out.trans (b1.mono HB.out.size))
  clear b1 HI
  go_wp2_with fail
  go_ret
  exact ⟨rfl, HB1.out⟩

end Go.Proofs.Ytanjgmmkodlffaa.U
