import Derived.Test.YtmnligaelihmiaaGj
import Derived.Laws.EntriesVeiled
namespace Go.Proofs.Ytmnligaelihmiaa
open Go.RowKit Go.Joins
theorem Try.info57 : (Try.prog.info? 57).map (fun i => (i.zero, i.size, i.bytes)) = some (some (.agg #[.int .i64 0, .int .i64 0, .int .i64 0, .int .i64 0]), 4, 32) := by kernel_rfl
theorem run_make_visits (n : Nat) (hn : n ≤ 1048576) (w : World) :
    (Instr.makeSlice 54 (.int .i64 (n : Int)) (.int .i64 (n : Int))).run Try.prog w = .ok (.slice (some ⟨w.heap.size, 0, none⟩) n n) (w.alloc (.cells (madeCells #[.int .i64 0, .int .i64 0, .int .i64 0, .int .i64 0] (n * 4)) 57)) := by
  obtain ⟨i, hi, hzz⟩ := Option.map_eq_some_iff.1 Try.info57
  simp only [Prod.mk.injEq] at hzz
  obtain ⟨hz, hs, hb⟩ := hzz
  have hr := run_make (P := Try.prog) w 54 57 i _ Try.underlying54 hi hz .i64 .i64 n n (by omega) (Int.le_refl _) (by rw [hb]; omega) (by omega)
  simp only [Int.toNat_natCast, hs] at hr
  exact hr
theorem made_zero {n i : Nat} (hi : i < n * 4) : (madeCells #[.int .i64 0, .int .i64 0, .int .i64 0, .int .i64 0] (n * 4))[i]? = some (.int .i64 0) := by
  have h4 : i % 4 < 4 := Nat.mod_lt _ (by omega)
  have h5 : (#[Value.int .i64 0, .int .i64 0, .int .i64 0, .int .i64 0])[i % 4]! = .int .i64 0 := by
    match i % 4, h4 with
    | 0, _ => rfl
    | 1, _ => rfl
    | 2, _ => rfl
    | 3, _ => rfl
  simp only [madeCells, Array.getElem?_map]
  rw [Array.getElem?_eq_getElem (by simpa using hi)]
  simp only [Array.getElem_range, Option.map_some]
  exact congrArg some h5
/-- What the loop over all things knows. -/
structure WO (e : List (List Int)) (n0 lo T V EB WB : Nat) (ea : Option Addr) (ec : Nat) (A : World) (i : Nat) (s : Gr.St) (wr : World) : Prop where
  ws : WS e n0 lo T V EB WB ea ec s wr
  kp : Kept (WK lo T V) A wr
  vi : ∀ x, x < i → 0 < s.num x
theorem walks_start {e : List (List Int)} {n0 n : Nat} {ea : Option Addr} {ec : Nat} {W : World} (hnn : n = e.length) (hn : n ≤ 1048576) (he : EM e n0 ea W) (h0 : n0 ≤ W.heap.size) {A : World}
    (hA : ((((W.alloc (.cells #[.slice ea n ec] 23)).alloc (.cells (madeCells #[.int .i64 0, .int .i64 0, .int .i64 0, .int .i64 0] (n * 4)) 57)).alloc (.cells #[.slice (some ⟨W.heap.size + 1, 0, none⟩) n n, .slice none 0 0, .slice none 0 0, .int .i64 0] 62)).alloc (.cells #[wf (W.heap.size + 1 + 1) W.heap.size (W.heap.size + 1 + 1 + 1)] 39)) = A) :
    WO e n0 (W.heap.size + 4) (W.heap.size + 2) (W.heap.size + 1) W.heap.size (W.heap.size + 3) ea ec A 0 Gr.start A ∧ Kept (fun _ => True) W A := by
  obtain ⟨A1, hA1⟩ : ∃ A1, W.alloc (.cells #[.slice ea n ec] 23) = A1 := ⟨_, rfl⟩
  rw [hA1] at hA
  obtain ⟨A2, hA2⟩ : ∃ A2, A1.alloc (.cells (madeCells #[.int .i64 0, .int .i64 0, .int .i64 0, .int .i64 0] (n * 4)) 57) = A2 := ⟨_, rfl⟩
  rw [hA2] at hA
  obtain ⟨A3, hA3⟩ : ∃ A3, A2.alloc (.cells #[.slice (some ⟨W.heap.size + 1, 0, none⟩) n n, .slice none 0 0, .slice none 0 0, .int .i64 0] 62) = A3 := ⟨_, rfl⟩
  rw [hA3] at hA
  have z1 : A1.heap.size = W.heap.size + 1 := by rw [← hA1]; simp
  have z2 : A2.heap.size = W.heap.size + 2 := by rw [← hA2]; simp [z1]
  have z3 : A3.heap.size = W.heap.size + 3 := by rw [← hA3]; simp [z2]
  have z4 : A.heap.size = W.heap.size + 4 := by rw [← hA]; simp [z3]
  have k1 : Kept (fun _ => True) W A1 := by rw [← hA1]; exact Kept.alloc _ _ _
  have k2 : Kept (fun _ => True) A1 A2 := by rw [← hA2]; exact Kept.alloc _ _ _
  have k3 : Kept (fun _ => True) A2 A3 := by rw [← hA3]; exact Kept.alloc _ _ _
  have k4 : Kept (fun _ => True) A3 A := by rw [← hA]; exact Kept.alloc _ _ _
  have b1 : Bx A1 W.heap.size [.slice ea n ec] := by rw [← hA1]; exact Bx.new _ _ _
  have b3 : Bx A3 (W.heap.size + 2) [.slice (some ⟨W.heap.size + 1, 0, none⟩) n n, .slice none 0 0, .slice none 0 0, .int .i64 0] := by rw [← hA3, ← z2]; exact Bx.new _ _ _
  have b4 : Bx A (W.heap.size + 3) [wf (W.heap.size + 1 + 1) W.heap.size (W.heap.size + 1 + 1 + 1)] := by rw [← hA, ← z3]; exact Bx.new _ _ _
  have hV : A2.heap[W.heap.size + 1]? = some (.cells (madeCells #[.int .i64 0, .int .i64 0, .int .i64 0, .int .i64 0] (n * 4)) 57) := by rw [← hA2, ← z1]; exact heap_new _ _
  have kV : Kept (fun _ => True) A2 A := k3.trans k4
  have vz : ∀ i, i < n * 4 → A.cell? ⟨W.heap.size + 1, i, none⟩ = some (iv 0) := fun i hi => by
    rw [kV.cell (p := ⟨W.heap.size + 1, i, none⟩) (by show W.heap.size + 1 < A2.heap.size; omega) trivial]
    simp [World.cell?, hV, made_zero hi, iv]
  have vf : ∀ j, A.frozen? ⟨W.heap.size + 1, j, none⟩ = false := fun j => by
    rw [kV.frozen (p := ⟨W.heap.size + 1, j, none⟩) (by show W.heap.size + 1 < A2.heap.size; omega) trivial]
    simp [World.frozen?, hV]
  have kA : Kept (fun _ => True) W A := ((k1.trans k2).trans k3).trans k4
  refine ⟨⟨⟨Gr.Inv.start (by rw [← hnn]; simp only [Gr.B]; omega), ⟨.slice none 0 0, .slice none 0 0, ?_⟩, ?_, ?_, he.kept kA (fun _ _ => trivial) h0, ⟨by omega, by omega, ⟨by omega, by omega, by omega⟩, ⟨by omega, by omega, by omega⟩⟩, by omega⟩, Kept.refl _ _, fun x hx => by omega⟩, kA⟩
  · rw [← hnn]
    exact ⟨by omega, by omega, by omega, by omega, b3.kept k4 trivial, IR.nil _ _, IR.nil _ _, fun c hc => by simp [Value.ownBlock] at hc, fun x hx => ⟨vz _ (by omega), vz _ (by omega), vz _ (by omega), vz _ (by omega)⟩, vf⟩
  · rw [← hnn]
    exact ((b1.kept k2 trivial).kept kV trivial).cel 0 _ rfl
  · exact b4.cel 0 _ rfl
/-- The visits of a walk that is done. -/
def WV (e : List (List Int)) (V : Nat) (W : World) : Prop := ∃ s, Gr.Inv e s ∧ s.path = [] ∧ (∀ x, x < e.length → 0 < s.num x) ∧ (∀ x, x < e.length → W.cell? ⟨V, x * 4, none⟩ = some (iv (s.num x)) ∧ W.cell? ⟨V, x * 4 + 1, none⟩ = some (iv (s.least x)) ∧ W.cell? ⟨V, x * 4 + 2, none⟩ = some (iv (s.nxt x)) ∧ W.cell? ⟨V, x * 4 + 3, none⟩ = some (iv (s.com x)))
set_option maxHeartbeats 4000000 in
set_option maxRecDepth 100000 in
theorem i_walks {e : List (List Int)} {n0 : Nat} {ea : Option Addr} {ec : Nat} {W : World} (hn : e.length ≤ 1048576) (hr : ∀ (x : Nat) (r : List Int), e[x]? = some r → r.length ≤ 1048576) (he : EM e n0 ea W) (h0 : n0 ≤ W.heap.size) :
    Calls Try.prog 27 #[.slice ea e.length ec] W fun r W' => ∃ V, r = .returned (.slice (some ⟨V, 0, none⟩) e.length e.length) ∧ Hid (Below W.heap.size W W' ∧ W.heap.size ≤ V ∧ V < W'.heap.size ∧ WV e V W') := by
  obtain ⟨n, hnn⟩ : ∃ n, n = e.length := ⟨_, rfl⟩
  rw [← hnn] at hn ⊢
  have hmk := run_make_visits n hn
  have HN := hide hnn
  have HR := hide hr
  have HE := hide he
  have H0 := hide h0
  clear hnn hr he h0
  go_enter Try.func27, Try.ntmps27
  go_upto_region 4 with fail
  obtain ⟨A, hA⟩ : ∃ A, ((((W.alloc (.cells #[.slice ea n ec] 23)).alloc (.cells (madeCells #[.int .i64 0, .int .i64 0, .int .i64 0, .int .i64 0] (n * 4)) 57)).alloc (.cells #[.slice (some ⟨W.heap.size + 1, 0, none⟩) n n, .slice none 0 0, .slice none 0 0, .int .i64 0] 62)).alloc (.cells #[wf (W.heap.size + 1 + 1) W.heap.size (W.heap.size + 1 + 1 + 1)] 39)) = A := ⟨_, rfl⟩
  have hst := walks_start HN.out hn HE.out H0.out hA
  unfold wf at hA
  rw [hA]
  have ce := hst.1.ws.eb
  rw [← HN.out] at ce
  obtain ⟨b, hb⟩ : ∃ b, b = W.heap.size := ⟨_, rfl⟩
  rw [← hb] at hst ce
  have e1 : W.heap.size + 1 = b + 1 := by omega
  have e2 : W.heap.size + 1 + 1 = b + 2 := by omega
  have e3 : W.heap.size + 1 + 1 + 1 = b + 3 := by omega
  rw [e3, e2, e1, ← hb]
  have HS := hide hst
  have HA := hide hA
  have HB := hide hb
  have HNB := hide hn
  clear hst hA hmk hb e1 e2 e3
  go_upto_region 5 with fail
  go_loopw [13, 5] (fun s13 s5 wr => ∃ (i : Nat) (s : Gr.St), s13 = .int .i64 (i : Int) ∧ (∃ v, s5 = v) ∧ i ≤ n ∧ Hid (WO e n0 (b + 4) (b + 2) (b + 1) b (b + 3) ea ec A i s wr) ∧ Hid (s.path = [])) (fun s13 _ _ => n - (intOf s13).toNat)
  case atStart => exact ⟨0, Gr.start, rfl, ⟨_, rfl⟩, Nat.zero_le _, HS.out.1, rfl⟩
  case round =>
    obtain ⟨i, s, rfl, ⟨v5, rfl⟩, hin, hO, hP⟩ := hrel
    by_cases hi : i < n
    · obtain ⟨pv, ov, m⟩ := hO.out.ws.mw
      have hie : i < e.length := by rw [← HN.out]; exact hi
      have hii : (i : Int) < (n : Int) := by omega
      have HIN := hide hi
      have c0 := m.bx.cel 0 _ rfl
      rw [← HN.out] at c0
      have ci := m.get (x := i) hie (by decide : 0 < 4)
      obtain ⟨ni, hni⟩ : ∃ ni, ni = s.num i := ⟨_, rfl⟩
      have ci' : wr.cell? ⟨b + 1, i * 4, none⟩ = some (.int .i64 (ni : Int)) := by rw [hni]; exact ci
      have HNI := hide hni
      have HCM : Hid (s.num i = 0 → Calls Try.prog 33 #[.pointer (some ⟨b + 2, 0, none⟩), .int .i64 i] wr fun r W' => r = .returned (.tuple #[]) ∧ ∃ s1, Hid (WO e n0 (b + 4) (b + 2) (b + 1) b (b + 3) ea ec A (i + 1) s1 W')) := fun h00 => by
        have hI := hO.out.ws.inv
        have hp := hP.out
        refine (i_come m hie (by rw [← HN.out]; exact HNB.out) (hI.cnt_lt hie h00) (by rw [hp]; simp; omega) (hI.opn_lt hie h00)).mono ?_
        rintro r W' ⟨rfl, h1, h2⟩
        refine ⟨rfl, Gr.come s i, hO.out.ws.next (hI.root hp hie h00) h1 h2, hO.out.kp.trans h2, fun x hx => ?_⟩
        show 0 < Gr.upd _ _ _ _
        by_cases e1 : x = i
        · subst e1; rw [Gr.upd_same]; omega
        · rw [Gr.upd_other e1]; exact hO.out.vi x (by omega)
      have HNO : Hid (0 < s.num i → WO e n0 (b + 4) (b + 2) (b + 1) b (b + 3) ea ec A (i + 1) s wr) := fun h00 => ⟨hO.out.ws, hO.out.kp, fun x hx => by
        by_cases e1 : x = i
        · subst e1; exact h00
        · exact hO.out.vi x (by omega)⟩
      clear m hni ci hO hP
      by_cases hz : ni = 0
      · have hzi : (ni : Int) = 0 := by omega
        have HC2 := hide (HCM.out (by rw [← HNI.out]; exact hz))
        clear hz
        go_upto_region 9 with (go_at_call 33; refine HC2.out.mono ?_; rintro r U1 ⟨rfl, s1, h1⟩)
        go_loopg [25] (Gr.meas e s1) (fun g s25 wq => ∃ s2, (∃ v, s25 = v) ∧ Hid (g = Gr.meas e s2) ∧ Hid (WO e n0 (b + 4) (b + 2) (b + 1) b (b + 3) ea ec A (i + 1) s2 wq))
        case atStart => exact ⟨_, ⟨_, rfl⟩, rfl, h1⟩
        case round =>
          obtain ⟨s2, ⟨v25, rfl⟩, hg, hW⟩ := hrel
          obtain ⟨pv2, ov2, m2⟩ := hW.out.ws.mw
          obtain ⟨pa, pc, rfl, hp1, hp2, hp3⟩ := m2.rp.shape
          have d1 := m2.bx.cel 1 _ rfl
          obtain ⟨N, hNN⟩ : ∃ N, N = s2.path.reverse.length := ⟨_, rfl⟩
          rw [← hNN] at d1
          cases hpp : s2.path with
          | nil =>
            have hN0 : ¬ (N : Int) > 0 := by rw [hNN, hpp]; simp
            have HF := hide hW.out
            have HPP := hide hpp
            clear hW m2 hNN hpp hp3
            go_wp2_with fail
            go_roundw
            case rel => exact ⟨i + 1, s2, by (have h4 := HIN.out; have h5 := HNB.out; go_num), ⟨_, rfl⟩, by have := HIN.out; omega, HF.out, HPP.out⟩
            case measure => (have h4 := HIN.out; have h5 := HNB.out; simp [intOf]; omega)
          | cons x p =>
            have hN0 : (N : Int) > 0 := by rw [hNN, hpp]; simp
            have cw := hW.out.ws.wb
            unfold wf at cw
            have HC := hide (walk_all (by rw [← HN.out]; exact HNB.out) HR.out _ s2 wr x p 0 (Nat.lt_succ_self _) hW.out.ws hpp (by omega))
            have HG := hide hg.out
            have HF := hide hW.out
            clear hW m2 hNN hpp hp3
            go_wp2_with (go_at_call 31; refine HC.out.mono ?_; rintro r U7 ⟨rfl, s7, h7⟩)
            go_roundg (Gr.meas e s7)
            case measure => rw [HG.out]; exact h7.ms
            case rel => exact ⟨s7, ⟨_, rfl⟩, rfl, h7.ws, HF.out.kp.trans h7.kp, fun z hz => h7.vi z (HF.out.vi z hz)⟩
      · have hzi : ((ni : Int) == 0) = false := by simp; omega
        have hzj : decide ((ni : Int) = 0) = false := by simp; omega
        have h1 := hide (HNO.out (by rw [← HNI.out]; omega))
        go_upto_region 9 with fail
        go_loopg [25] (Gr.meas e s) (fun g s25 wq => ∃ s2, (∃ v, s25 = v) ∧ Hid (g = Gr.meas e s2) ∧ Hid (WO e n0 (b + 4) (b + 2) (b + 1) b (b + 3) ea ec A (i + 1) s2 wq))
        case atStart => exact ⟨_, ⟨_, rfl⟩, rfl, h1⟩
        case round =>
          obtain ⟨s2, ⟨v25, rfl⟩, hg, hW⟩ := hrel
          obtain ⟨pv2, ov2, m2⟩ := hW.out.ws.mw
          obtain ⟨pa, pc, rfl, hp1, hp2, hp3⟩ := m2.rp.shape
          have d1 := m2.bx.cel 1 _ rfl
          obtain ⟨N, hNN⟩ : ∃ N, N = s2.path.reverse.length := ⟨_, rfl⟩
          rw [← hNN] at d1
          cases hpp : s2.path with
          | nil =>
            have hN0 : ¬ (N : Int) > 0 := by rw [hNN, hpp]; simp
            have HF := hide hW.out
            have HPP := hide hpp
            clear hW m2 hNN hpp hp3
            go_wp2_with fail
            go_roundw
            case rel => exact ⟨i + 1, s2, by (have h4 := HIN.out; have h5 := HNB.out; go_num), ⟨_, rfl⟩, by have := HIN.out; omega, HF.out, HPP.out⟩
            case measure => (have h4 := HIN.out; have h5 := HNB.out; simp [intOf]; omega)
          | cons x p =>
            have hN0 : (N : Int) > 0 := by rw [hNN, hpp]; simp
            have cw := hW.out.ws.wb
            unfold wf at cw
            have HC := hide (walk_all (by rw [← HN.out]; exact HNB.out) HR.out _ s2 wr x p 0 (Nat.lt_succ_self _) hW.out.ws hpp (by omega))
            have HG := hide hg.out
            have HF := hide hW.out
            clear hW m2 hNN hpp hp3
            go_wp2_with (go_at_call 31; refine HC.out.mono ?_; rintro r U7 ⟨rfl, s7, h7⟩)
            go_roundg (Gr.meas e s7)
            case measure => rw [HG.out]; exact h7.ms
            case rel => exact ⟨s7, ⟨_, rfl⟩, rfl, h7.ws, HF.out.kp.trans h7.kp, fun z hz => h7.vi z (HF.out.vi z hz)⟩
    · have hii : ¬ (i : Int) < (n : Int) := by omega
      have hin2 : i = n := by omega
      obtain ⟨pv, ov, m⟩ := hO.out.ws.mw
      have c0 := m.bx.cel 0 _ rfl
      rw [← HN.out] at c0
      have HF : Hid (WO e n0 (b + 4) (b + 2) (b + 1) b (b + 3) ea ec A n s wr) := hin2 ▸ hO.out
      clear hO m hin2
      go_wp2_with fail
      go_ret
      have hx := HF.out
      have kA : Kept (fun c => c < b) W wr := (HS.out.2.mono (fun _ _ _ => trivial)).trans (hx.kp.mono (fun c _ h => ⟨by omega, by omega, by omega⟩))
      obtain ⟨pv, ov, m⟩ := hx.ws.mw
      have kB : Below W.heap.size W wr := kA.below (fun c hc => by have := HB.out; omega) (Nat.le_refl _)
      have hbW := HB.out
      refine ⟨b + 1, rfl, kB, by omega, by have := m.vl; have := m.ll; omega, s, hx.ws.inv, hP.out, fun x hx2 => hx.vi x (by rw [HN.out]; exact hx2), fun x hx2 => m.vs x hx2⟩
end Go.Proofs.Ytmnligaelihmiaa
