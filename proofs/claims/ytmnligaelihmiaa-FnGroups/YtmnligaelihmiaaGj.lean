import Derived.Test.YtmnligaelihmiaaGi
namespace Go.Proofs.Ytmnligaelihmiaa
open Go.RowKit Go.Joins
/-- What a call of the closure leaves. -/
structure WP (e : List (List Int)) (n0 lo T V EB WB : Nat) (ea : Option Addr) (ec : Nat) (s : Gr.St) (W : World) (x : Nat) (p : List Nat) (s' : Gr.St) (W' : World) : Prop where
  ws : WS e n0 lo T V EB WB ea ec s' W'
  kp : Kept (WK lo T V) W W'
  ms : Gr.meas e s' < Gr.meas e s
  pt : s'.path = p ∨ ∃ q, q ≠ [] ∧ s'.path = q ++ x :: p
  vi : ∀ z, 0 < s.num z → 0 < s'.num z
def WalkC (e : List (List Int)) (n0 lo T V EB WB : Nat) (ea : Option Addr) (ec : Nat) (m : Nat) : Prop := ∀ (s : Gr.St) (W : World) (x : Nat) (p : List Nat) (deep : Nat), Gr.meas e s < m → WS e n0 lo T V EB WB ea ec s W → s.path = x :: p → deep ≤ 16384 →
  Calls Try.prog 31 #[.int .i64 deep, .pointer (some ⟨T, 0, none⟩), .pointer (some ⟨EB, 0, none⟩), .pointer (some ⟨WB, 0, none⟩)] W fun r W' => r = .returned (.tuple #[]) ∧ ∃ s', WP e n0 lo T V EB WB ea ec s W x p s' W'
/-- What its loop knows. -/
structure WL (e : List (List Int)) (n0 lo T V EB WB : Nat) (ea : Option Addr) (ec : Nat) (s : Gr.St) (W : World) (x : Nat) (p : List Nat) (s' : Gr.St) (W' : World) : Prop where
  ws : WS e n0 lo T V EB WB ea ec s' W'
  kp : Kept (WK lo T V) W W'
  ms : Gr.meas e s' ≤ Gr.meas e s
  pt : s'.path = x :: p
  vi : ∀ z, 0 < s.num z → 0 < s'.num z
section
variable {e : List (List Int)} {n0 lo T V EB WB : Nat} {ea : Option Addr} {ec : Nat} {s : Gr.St} {W : World} {x : Nat} {p : List Nat} {s2 : Gr.St} {wr : World}
theorem WL.mw (h : WL e n0 lo T V EB WB ea ec s W x p s2 wr) {pv ov : Value} (m : MW e.length s2 lo T V wr pv ov) {k : Nat} (hk : k = s2.nxt x) : MW e.length (Gr.adv s2 x) lo T V (wr.setCell ⟨V, x * 4 + 2, none⟩ (iv (k + 1))) pv ov ∧ Kept (WK lo T V) wr (wr.setCell ⟨V, x * 4 + 2, none⟩ (iv (k + 1))) := by
  have hx := h.ws.inv.path_open (x := x) (by rw [h.pt]; simp)
  subst hk
  exact ⟨m.set (s' := { s2 with nxt := Gr.upd s2.nxt x (s2.nxt x + 1) }) (v := s2.nxt x + 1) hx.1 (by decide : 2 < 4) rfl rfl rfl (fun j hj y _ => fld_nxt _ _ _ j hj y), Kept.setCell _ _ _ _ (by simp [WK])⟩
/-- A name that is none. -/
theorem WL.skip (h : WL e n0 lo T V EB WB ea ec s W x p s2 wr) {r : List Int} (hr : e[x]? = some r) {v : Int} (hv : r[s2.nxt x]? = some v) (hn : ¬ (0 ≤ v ∧ v < e.length)) {U : World} (hm : ∃ pv ov, MW e.length (Gr.adv s2 x) lo T V U pv ov) (hk : Kept (WK lo T V) wr U) :
    WL e n0 lo T V EB WB ea ec s W x p (Gr.adv s2 x) U ∧ Gr.meas e (Gr.adv s2 x) < Gr.meas e s2 := by
  have h1 := Gr.meas_adv hr (List.getElem?_eq_some_iff.1 hv).1
  exact ⟨⟨h.ws.next (h.ws.inv.step_skip h.pt hr hv hn) hm hk, h.kp.trans hk, by have := h.ms; omega, h.pt, h.vi⟩, by omega⟩
/-- A name of a thing that was come to. -/
theorem WL.seen (h : WL e n0 lo T V EB WB ea ec s W x p s2 wr) {r : List Int} (hr : e[x]? = some r) {y : Nat} (hv : r[s2.nxt x]? = some (y : Int)) (hy : y < e.length) (h0 : 0 < s2.num y) {U : World} {pv ov : Value} (hm : MW e.length (Gr.adv s2 x) lo T V U pv ov) (hk : Kept (WK lo T V) wr U) :
    WL e n0 lo T V EB WB ea ec s W x p (Gr.seen s2 x y) (U.setCell ⟨V, x * 4 + 1, none⟩ (iv (min (s2.least x) (s2.num y)))) ∧ Gr.meas e (Gr.seen s2 x y) < Gr.meas e s2 := by
  have hx := h.ws.inv.path_open (x := x) (by rw [h.pt]; simp)
  have h1 := Gr.meas_adv hr (List.getElem?_eq_some_iff.1 hv).1
  have h2 : Gr.meas e (Gr.seen s2 x y) = Gr.meas e (Gr.adv s2 x) := Gr.meas_seen
  have m := hm.set (s' := { (Gr.adv s2 x) with least := Gr.upd (Gr.adv s2 x).least x (min (s2.least x) (s2.num y)) }) (v := min (s2.least x) (s2.num y)) hx.1 (by decide : 1 < 4) rfl rfl rfl (fun j hj z _ => fld_least _ _ _ j hj z)
  have k2 : Kept (WK lo T V) wr (U.setCell ⟨V, x * 4 + 1, none⟩ (iv (min (s2.least x) (s2.num y)))) := hk.trans (Kept.setCell _ _ _ _ (by simp [WK]))
  exact ⟨⟨h.ws.next (h.ws.inv.step_seen h.pt hr hv hy h0) ⟨pv, ov, m⟩ k2, h.kp.trans k2, by have := h.ms; omega, h.pt, h.vi⟩, by omega⟩
/-- A thing was come to. -/
theorem WL.come (h : WL e n0 lo T V EB WB ea ec s W x p s2 wr) {r : List Int} (hr : e[x]? = some r) {y : Nat} (hv : r[s2.nxt x]? = some (y : Int)) (hy : y < e.length) (h0 : s2.num y = 0) {U : World} (hm : ∃ pv ov, MW e.length (Gr.come (Gr.adv s2 x) y) lo T V U pv ov) (hk : Kept (WK lo T V) wr U) :
    WS e n0 lo T V EB WB ea ec (Gr.come (Gr.adv s2 x) y) U ∧ Gr.meas e (Gr.come (Gr.adv s2 x) y) < Gr.meas e s2 ∧ (∀ z, 0 < s2.num z → 0 < (Gr.come (Gr.adv s2 x) y).num z) := by
  have h1 := Gr.meas_adv hr (List.getElem?_eq_some_iff.1 hv).1
  have hx := h.ws.inv.path_open (x := x) (by rw [h.pt]; simp)
  have hxy : y ≠ x := fun e => by subst e; omega
  have h2 : Gr.meas e (Gr.come (Gr.adv s2 x) y) = Gr.meas e (Gr.adv s2 x) + 1 := Gr.meas_come (by show Gr.upd _ _ _ _ = 0; rw [Gr.upd_other hxy]; exact h.ws.inv.zr y h0)
  refine ⟨h.ws.next (h.ws.inv.step_come h.pt hr hv hy h0) hm hk, by omega, fun z hz => ?_⟩
  show 0 < Gr.upd s2.num y (s2.cnt + 1) z
  by_cases e1 : z = y
  · subst e1; rw [Gr.upd_same]; omega
  · rw [Gr.upd_other e1]; exact hz
end
set_option maxHeartbeats 4000000 in
set_option maxRecDepth 100000 in
theorem walk_step {e : List (List Int)} {n0 lo T V EB WB : Nat} {ea : Option Addr} {ec : Nat} (hn : e.length ≤ 1048576) (hr : ∀ (x : Nat) (r : List Int), e[x]? = some r → r.length ≤ 1048576) {m : Nat} (ih : WalkC e n0 lo T V EB WB ea ec m) : WalkC e n0 lo T V EB WB ea ec (m + 1) := by
  intro s W x p deep hms h hp hd
  obtain ⟨pv, ov, mw⟩ := h.mw
  have hx := h.inv.path_open (x := x) (by rw [hp]; simp)
  have HE := hide (end_any mw hp (by have h1 := h.inv.path_len; rw [hp] at h1; simp at h1; omega))
  have c0 := mw.bx.cel 0 _ rfl
  obtain ⟨n, hnn⟩ : ∃ n, n = e.length := ⟨_, rfl⟩
  rw [← hnn] at c0
  have hxn : (x : Int) < n := by omega
  have HN := hide hnn
  have HB := hide hn
  have HI := hide ih
  have HR := hide hr
  have HMS := hide hms
  have HX := hide hx
  have HL : Hid (∀ V', Kept (fun _ => True) W V' → WL e n0 lo T V EB WB ea ec s W x p s V') := fun V' kV => ⟨h.next h.inv ⟨pv, ov, mw.kept kV trivial trivial (fun _ _ => trivial) (fun _ _ => trivial)⟩ (kV.mono (fun _ _ _ => trivial)), kV.mono (fun _ _ _ => trivial), Nat.le_refl _, hp, fun z hz => hz⟩
  clear hnn ih hr hms hx h hp mw
  go_enter Try.func31, Try.ntmps31
  go_upto_region 2 with (go_at_call 32; refine HE.out.mono ?_; rintro e W1 ⟨rfl, rfl⟩)
  go_loopg [7] (Gr.meas e s) (fun g s7 wr => ∃ s2, (∃ v, s7 = v) ∧ Hid (g = Gr.meas e s2) ∧ Hid (WL e n0 lo T V EB WB ea ec s W x p s2 wr))
  case atStart => exact ⟨s, ⟨_, rfl⟩, rfl, HL.out _ (Kept.drew _ _)⟩
  case round =>
    obtain ⟨s2, ⟨v7, rfl⟩, hg, hL⟩ := hrel
    obtain ⟨pv2, ov2, m2⟩ := hL.out.ws.mw
    have hx2 := hL.out.ws.inv.path_open (x := x) (by rw [hL.out.pt]; simp)
    obtain ⟨row, hrow⟩ : ∃ row, e[x]? = some row := ⟨_, List.getElem?_eq_getElem hx2.1⟩
    have hrl := HR.out x row hrow
    obtain ⟨eb, eo, ax, cx, he1, he2, he3, he4⟩ := hL.out.ws.em x row hrow
    have v2 := m2.get (x := x) hx2.1 (by decide : 2 < 4)
    have ce := hL.out.ws.eb
    rw [he1, ← HN.out] at ce
    obtain ⟨k, hk⟩ : ∃ k, k = s2.nxt x := ⟨_, rfl⟩
    have v2' : wr.cell? ⟨V, x * 4 + 2, none⟩ = some (.int .i64 (k : Int)) := by rw [hk]; exact v2
    obtain ⟨L, hL2⟩ : ∃ L, L = row.length := ⟨_, rfl⟩
    rw [← hL2] at he3 hrl
    have HK := hide hk
    have HLL := hide hL2
    have HROW := hide hrow
    have HM2 := hide m2
    have HX2 := hide hx2
    have HE4 := hide he4
    have HEA := hide he1
    clear v2 hk hL2 hrow m2 hx2 he4 he1
    by_cases hkl : k < L
    · obtain ⟨v, hv⟩ : ∃ v, row[k]? = some v := ⟨_, List.getElem?_eq_getElem (by rw [← HLL.out]; exact hkl)⟩
      obtain ⟨bb, oo, rfl, hb2, cv⟩ := HE4.out k v hv
      have hkli : (k : Int) < (L : Int) := by omega
      have fk := HM2.out.vf (x * 4 + 2)
      have hkw : k + 1 ≤ 1048577 := by omega
      have HV := hide hv
      clear hv hb2
      go_upto_region 2 with fail
      go_region
      go_upto_region 3 with fail
      go_region
      go_upto_region 5 with fail
      have ev : (.int .i64 ((k : Int) + 1) : Value) = iv (k + 1) := by unfold iv; congr 1
      obtain ⟨M3, K3⟩ := hL.out.mw HM2.out HK.out
      rw [← ev] at M3 K3
      replace M3 := M3.drew.drew
      replace K3 := K3.dr.dr
      generalize (wr.setCell ⟨V, x * 4 + 2, none⟩ (.int .i64 ((k : Int) + 1))).drew.drew = U at M3 K3 ⊢
      have hEBl : EB < wr.heap.size := Nat.lt_of_lt_of_le hL.out.ws.bl.2.2.1.1 hL.out.ws.ll
      have ce2 := (K3.cell (p := ⟨EB, 0, none⟩) hEBl hL.out.ws.bl.2.2.1).trans ce
      have HV2 : Hid (row[s2.nxt x]? = some v) := by unfold Hid; rw [← HK.out]; exact HV.out
      by_cases hvi : 0 ≤ v ∧ v < (n : Int)
      · obtain ⟨y, rfl⟩ : ∃ y : Nat, v = (y : Int) := ⟨v.toNat, by omega⟩
        have HQ := hide (is_index (y : Int) n true (by simp [hvi]) U)
        have hyn : y < e.length := by rw [← HN.out]; omega
        have hyi : (y : Int) < (n : Int) := hvi.2
        have d0 := M3.bx.cel 0 _ rfl
        rw [← HN.out] at d0
        have dy := M3.get (x := y) hyn (by decide : 0 < 4)
        obtain ⟨ny, hny⟩ : ∃ ny, ny = s2.num y := ⟨_, rfl⟩
        have dy' : U.cell? ⟨V, y * 4, none⟩ = some (.int .i64 (ny : Int)) := by rw [hny]; exact dy
        have dl := M3.get (x := x) HX2.out.1 (by decide : 1 < 4)
        obtain ⟨lx, hlx⟩ : ∃ lx, lx = s2.least x := ⟨_, rfl⟩
        have dl' : U.cell? ⟨V, x * 4 + 1, none⟩ = some (.int .i64 (lx : Int)) := by rw [hlx]; exact dl
        have fl := M3.vf (x * 4 + 1)
        have HM3 := hide M3
        have HK3 := hide K3
        have HNY := hide hny
        have HLX := hide hlx
        have HYN := hide hyn
        clear dy dl M3 K3 hny hlx hvi hyn ev v2' he3 cv fk hEBl ce
        go_upto_region 6 with (go_at_call 28; refine HQ.out.mono ?_; rintro r W5 ⟨rfl, rfl⟩)
        by_cases h0 : 0 < ny
        · have h0i : (ny : Int) > 0 := by omega
          have HS := hide (hL.out.seen HROW.out HV2.out HYN.out (by have := HNY.out; omega) HM3.out HK3.out)
          rw [← HLX.out, ← HNY.out] at HS
          go_upto_region 8 with fail
          have HG := hide hg.out
          go_wp2_with fail
          all_goals
            rename_i hm
            have hS := HS.out
            first | rw [Nat.min_eq_right (by omega)] at hS | rw [Nat.min_eq_left (by omega)] at hS
            have HS3 := hide hS
            clear hS
            go_roundg (Gr.meas e (Gr.seen s2 x y))
            case measure => rw [HG.out]; exact HS3.out.2
            case rel => exact ⟨_, ⟨_, rfl⟩, rfl, HS3.out.1⟩
        · have hny0 : ny = 0 := by omega
          have h0i : ¬ (ny : Int) > 0 := by omega
          have h00 : s2.num y = 0 := by rw [← HNY.out]; exact hny0
          have hxy : x ≠ y := fun e1 => by subst e1; have := HX2.out.2.1; omega
          have hI := hL.out.ws.inv
          have HCM := hide (i_come HM3.out HYN.out HB.out (by show s2.cnt < _; exact hI.cnt_lt HYN.out h00) (by show s2.path.length < _; have h1 := hI.sub.length_le; have h2 := hI.opn_lt HYN.out h00; omega) (by show s2.opn.length < _; exact hI.opn_lt HYN.out h00))
          have HWC : Hid (∀ U6, (∃ pv ov, MW e.length (Gr.come (Gr.adv s2 x) y) lo T V U6 pv ov) → Kept (WK lo T V) W5 U6 → WS e n0 lo T V EB WB ea ec (Gr.come (Gr.adv s2 x) y) U6 ∧ Gr.meas e (Gr.come (Gr.adv s2 x) y) < Gr.meas e s2 ∧ (∀ z, 0 < s2.num z → 0 < (Gr.come (Gr.adv s2 x) y).num z) ∧ Kept (WK lo T V) W U6) := fun U6 hm6 hk6 => by
            have h1 := hL.out.come HROW.out HV2.out HYN.out h00 hm6 (HK3.out.trans hk6)
            exact ⟨h1.1, h1.2.1, h1.2.2, (hL.out.kp.trans HK3.out).trans hk6⟩
          have HG := hide hg.out
          have HXY := hide hxy
          have HPT := hide hL.out.pt
          have HMS2 := hide hL.out.ms
          have HVI := hide hL.out.vi
          clear hI h00 hny0 dl' fl hxy
          go_upto_region 10 with (go_at_call 33; refine HCM.out.mono ?_; rintro r U6 ⟨rfl, hm6, hk6⟩)
          obtain ⟨hws, hme, hvz, hkp⟩ := HWC.out U6 hm6 hk6
          obtain ⟨pv6, ov6, m6⟩ := hm6
          have hp6 : (Gr.come (Gr.adv s2 x) y).path = y :: x :: p := by show y :: s2.path = _; rw [HPT.out]
          obtain ⟨s6, hs6⟩ : ∃ s6, s6 = Gr.come (Gr.adv s2 x) y := ⟨_, rfl⟩
          rw [← hs6] at hws hme hvz hp6 m6
          by_cases hdp : deep < 16384
          · have hdi : (deep : Int) < 16384 := by omega
            have hdw : (deep : Int) + 1 = ((deep + 1 : Nat) : Int) := by omega
            have cw := hws.wb
            unfold wf at cw
            obtain ⟨d1, hd1⟩ : ∃ d1, d1 = deep + 1 := ⟨_, rfl⟩
            have HC := hide (HI.out s6 U6 y (x :: p) d1 (by have := HMS.out; have := HMS2.out; omega) hws hp6 (by omega))
            have HD := hide hd1
            have hdz : (deep : Int) + 1 = (d1 : Int) := by omega
            have HWS := hide hws
            have HME := hide hme
            have HVZ := hide hvz
            have HKP := hide hkp
            clear hws hme hvz hkp hs6 m6 hp6 hk6 hdw hd1
            go_upto_region 12 with (go_at_call 31; refine HC.out.mono ?_; rintro r U7 ⟨rfl, s7, h7⟩)
            obtain ⟨pv7, ov7, m7⟩ := h7.ws.mw
            have kp7 := HKP.out.trans h7.kp
            have vi7 : ∀ z, 0 < s.num z → 0 < s7.num z := fun z hz => h7.vi z (HVZ.out z (HVI.out z hz))
            rcases h7.pt with hp7 | ⟨q, hq, hp7⟩
            · have HE7 := hide (end_any m7 hp7 (by have h1 := h7.ws.inv.path_len; rw [hp7] at h1; simp at h1; omega))
              have HF := hide (show WL e n0 lo T V EB WB ea ec s W x p s7 U7.drew from ⟨h7.ws.drew, kp7.dr, by have := h7.ms; have := HME.out; have := HMS2.out; omega, hp7, vi7⟩)
              have HM7 : Hid (Gr.meas e s7 < Gr.meas e s2) := by have := h7.ms; have := HME.out; unfold Hid; omega
              clear h7 m7 kp7 vi7 hp7
              go_wp2_with (go_at_call 32; refine HE7.out.mono ?_; rintro r U8 ⟨rfl, rfl⟩)
              go_roundg (Gr.meas e s7)
              case measure => rw [HG.out]; exact HM7.out
              case rel => exact ⟨_, ⟨_, rfl⟩, rfl, HF.out⟩
            · obtain ⟨t, q', rfl⟩ : ∃ t q', q = t :: q' := by
                cases q with
                | nil => exact absurd rfl hq
                | cons t q' => exact ⟨t, q', rfl⟩
              have hp8 : s7.path = t :: (q' ++ y :: x :: p) := hp7
              have htx : (t : Int) ≠ (x : Int) := fun e1 => by
                have h1 := h7.ws.inv.top hp8 x (by simp)
                have e2 : t = x := by omega
                rw [e2] at h1; omega
              have hne : ((t : Int) != (x : Int)) = true := by simp [htx]
              have HE7 := hide (end_any m7 hp8 (by have h1 := h7.ws.inv.path_len; rw [hp8] at h1; simp at h1 ⊢; omega))
              have HF := hide (show WP e n0 lo T V EB WB ea ec s W x p s7 U7.drew from ⟨h7.ws.drew, kp7.dr, by have := h7.ms; have := HME.out; have := HMS2.out; omega, .inr ⟨(t :: q') ++ [y], by simp, by rw [hp7]; simp⟩, vi7⟩)
              clear h7 m7 kp7 vi7 hp7 hp8
              go_wp2_with (go_at_call 32; refine HE7.out.mono ?_; rintro r U8 ⟨rfl, rfl⟩)
              refine bodyPost_ret (results_none rfl _ _ _) rfl ?_
              exact ⟨rfl, _, HF.out⟩
          · have hdi : ¬ (deep : Int) < 16384 := by omega
            have hne : ((y : Int) != (x : Int)) = true := by
              have h1 : (y : Int) ≠ (x : Int) := fun e1 => HXY.out (by omega)
              simp [h1]
            have HE7 := hide (end_any m6 hp6 (by have h1 := hws.inv.path_len; rw [hp6] at h1; simp at h1 ⊢; omega))
            have HF := hide (show WP e n0 lo T V EB WB ea ec s W x p s6 U6.drew from ⟨hws.drew, hkp.dr, by have := HMS2.out; omega, .inr ⟨[y], by simp, by rw [hp6]; rfl⟩, fun z hz => hvz z (HVI.out z hz)⟩)
            clear hws m6 hkp hvz hme hp6 hs6 hk6
            go_wp2_with (go_at_call 32; refine HE7.out.mono ?_; rintro r U8 ⟨rfl, rfl⟩)
            refine bodyPost_ret (results_none rfl _ _ _) rfl ?_
            exact ⟨rfl, _, HF.out⟩
      · have HQ := hide (is_index v n false (by simp only [Bool.false_eq_true, false_iff]; exact hvi) U)
        have HS := hide (hL.out.skip HROW.out HV2.out (by rw [← HN.out]; exact hvi) ⟨_, _, M3⟩ K3)
        have HG := hide hg.out
        clear hvi M3 K3 ev v2' he3 cv fk ce
        go_wp2_with (go_at_call 28; refine HQ.out.mono ?_; rintro r W5 ⟨rfl, rfl⟩)
        go_roundg (Gr.meas e (Gr.adv s2 x))
        case measure => rw [HG.out]; exact HS.out.2
        case rel => exact ⟨_, ⟨_, rfl⟩, rfl, HS.out.1⟩
    · have hkli : ¬ (k : Int) < (L : Int) := by omega
      have HLV := hide (i_leave hL.out.ws.drew HB.out hL.out.pt (Gr.all_looked HROW.out (by have h1 := HK.out; have h2 := HLL.out; omega)))
      go_upto_region 2 with fail
      go_region
      go_wp2_with (go_at_call 34; refine HLV.out.mono ?_; rintro r W5 ⟨rfl, s5, h1, h2, h3, h4, h5⟩)
      go_end0
      exact ⟨rfl, s5, h1, hL.out.kp.trans (((Kept.drew _ _)).trans h2), by have := hL.out.ms; omega, .inl h4, fun z hz => h5 z (hL.out.vi z hz)⟩
theorem walk_all {e : List (List Int)} {n0 lo T V EB WB : Nat} {ea : Option Addr} {ec : Nat} (hn : e.length ≤ 1048576) (hr : ∀ (x : Nat) (r : List Int), e[x]? = some r → r.length ≤ 1048576) : ∀ m, WalkC e n0 lo T V EB WB ea ec m
  | 0 => fun _ _ _ _ _ h => absurd h (by omega)
  | m + 1 => walk_step hn hr (walk_all hn hr m)
end Go.Proofs.Ytmnligaelihmiaa
