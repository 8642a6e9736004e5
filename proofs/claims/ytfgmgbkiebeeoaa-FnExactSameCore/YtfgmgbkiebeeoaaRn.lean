import Derived.Test.YtfgmgbkiebeeoaaJJ
import Derived.Deep.DeepCutAuto
namespace Go.Proofs.Ytfgmgbkiebeeoaa
open Go.RowKit Go.Joins

/-- What sameAlone answers. -/
def AloneC (X : Gx) (n0 G nb nc lsb cm kc ac tk ta : Nat) : Prop := ∀ (V : World) (al : Bool) (i b i' b' n : Nat) (r r' : Fo) (j : Nat) (y y' : Fo), X.At V G nb nc lsb cm kc ac tk ta → n0 ≤ V.heap.size → X.row al i b n r → X.row al i' b' n r' → j < n → X.ND[X.first al i + j]? = some ⟨b, X.O b + j * sz al + hr al, bdy al y⟩ → X.ND[X.first al i' + j]? = some ⟨b', X.O b' + j * sz al + hr al, bdy al y'⟩ → RM V (fun c => c < n0) b (X.O b + j * sz al) y → RM V (fun c => c < n0) b' (X.O b' + j * sz al) y' → Fit E y (fdl al) → Fit E y' (fdl al) →
    Calls Try.prog 30 #[.pointer (some ⟨G, 0, none⟩), .int .i64 ((X.first al i + j : Nat) : Int), .int .i64 ((X.first al i' + j : Nat) : Int)] V (SmP (hd al y y') V)

theorem info77' : (Try.prog.info? 77).map (fun i => (i.zero, i.size, i.bytes)) = some (some (.agg #[.int .i64 0, .int .i64 0]), 2, 16) := by kernel_rfl

theorem two_m (w : World) (n m : Nat) : Kept (fun _ => True) w ((w.alloc (.cells (madeCells #[.pointer none] n) 85)).alloc (.cells (madeCells #[.pointer none] m) 85)).drew ∧ MR ((w.alloc (.cells (madeCells #[.pointer none] n) 85)).alloc (.cells (madeCells #[.pointer none] m) 85)).drew w.heap.size n ∧ MR ((w.alloc (.cells (madeCells #[.pointer none] n) 85)).alloc (.cells (madeCells #[.pointer none] m) 85)).drew (w.heap.size + 1) m := by
  have h1 := MR.new w n
  have h2 := MR.new (w.alloc (.cells (madeCells #[.pointer none] n) 85)) m
  simp only [World.size_alloc] at h2
  exact ⟨((Kept.alloc _ _ _).trans (Kept.alloc _ _ _)).trans (Kept.drew _ _), (h1.kept (Kept.alloc (fun _ => True) _ _) trivial).kept (Kept.drew (fun _ => True) _) trivial, h2.kept (Kept.drew (fun _ => True) _) trivial⟩

/-- The two rows of sets. -/
def TwoM (w wx : World) (Tb Ub n m : Nat) : Prop := Kept (fun _ => True) w wx ∧ MR wx Tb n ∧ MR wx Ub m ∧ w.heap.size ≤ Tb ∧ w.heap.size ≤ Ub ∧ Tb ≠ Ub

set_option maxHeartbeats 40000000 in
set_option maxRecDepth 100000 in
theorem i_same {F H : Fo} (W : World) (hf : Fit E F (E 3)) (hg : Fit E H (E 3)) (hmk : ∀ V rb rc, Below W.heap.size W V → Bx V rb F.vals → Bx V rc H.vals → W.heap.size ≤ rb → W.heap.size ≤ rc → rb ≠ rc → RT2 V rb rc F H) (hal : ∀ X n0 G nb nc lsb cm kc ac tk ta, X.Ok → AloneC X n0 G nb nc lsb cm kc ac tk ta) :
    Calls Try.prog 11 #[.agg F.vals.toArray, .agg H.vals.toArray] W (SmP (H.sim F) W) := by
  obtain ⟨D, hD⟩ : ∃ D, H.sim F = D := ⟨_, rfl⟩
  obtain ⟨k, nm, mn, la, ln, lc, lk, na, nn, nc, nk, ka, kn, kc, kk, aa, an, ac, ak, e, -⟩ := core_open hf
  obtain ⟨k', nm', mn', la', ln', lc', lk', na', nn', nc', nk', ka', kn', kc', kk', aa', an', ac', ak', e', -⟩ := core_open hg
  have hv : F.vals = [.int .i64 k, .string nm, .bool mn, .slice la ln lc, .slice na nn nc, .slice ka kn kc, .slice aa an ac] := by rw [e]; rfl
  have hv' : H.vals = [.int .i64 k', .string nm', .bool mn', .slice la' ln' lc', .slice na' nn' nc', .slice ka' kn' kc', .slice aa' an' ac'] := by rw [e']; rfl
  rw [hD, hv, hv']
  obtain ⟨A1, hA1⟩ : ∃ A1, (W.alloc (.cells [.int .i64 k, .string nm, .bool mn, .slice la ln lc, .slice na nn nc, .slice ka kn kc, .slice aa an ac].toArray 36)).alloc (.cells [.int .i64 k', .string nm', .bool mn', .slice la' ln' lc', .slice na' nn' nc', .slice ka' kn' kc', .slice aa' an' ac'].toArray 36) = A1 := ⟨_, rfl⟩
  obtain ⟨pb, hpb⟩ : ∃ pb, W.heap.size = pb := ⟨_, rfl⟩
  obtain ⟨qb, hqb⟩ : ∃ qb, pb + 1 = qb := ⟨_, rfl⟩
  have tb := two_b1 W [.int .i64 k, .string nm, .bool mn, .slice la ln lc, .slice na nn nc, .slice ka kn kc, .slice aa an ac] [.int .i64 k', .string nm', .bool mn', .slice la' ln' lc', .slice na' nn' nc', .slice ka' kn' kc', .slice aa' an' ac'] 36 36
  have HA : Hid (Kept (fun _ => True) W A1 ∧ Bx A1 pb [.int .i64 k, .string nm, .bool mn, .slice la ln lc, .slice na nn nc, .slice ka kn kc, .slice aa an ac] ∧ Bx A1 qb [.int .i64 k', .string nm', .bool mn', .slice la' ln' lc', .slice na' nn' nc', .slice ka' kn' kc', .slice aa' an' ac']) := by
    obtain ⟨h1, h2, h3, -⟩ := tb
    rw [hA1] at h1 h2 h3
    rw [← hqb, ← hpb]
    exact ⟨⟨h3.os, h3.tape, h3.output, h3.size, h3.block⟩, ⟨h1.lt, h1.cel, h1.live⟩, ⟨h2.lt, h2.cel, h2.live⟩⟩
  have HS : Hid (∀ V, Kept (fun _ => True) A1 V → V.cell? ⟨pb, 0, none⟩ = some (.int .i64 k) ∧ V.cell? ⟨pb, 1, none⟩ = some (.string nm) ∧ V.cell? ⟨pb, 2, none⟩ = some (.bool mn) ∧ V.cell? ⟨pb, 3, none⟩ = some (.slice la ln lc) ∧ V.cell? ⟨pb, 4, none⟩ = some (.slice na nn nc) ∧ V.cell? ⟨pb, 5, none⟩ = some (.slice ka kn kc) ∧ V.cell? ⟨pb, 6, none⟩ = some (.slice aa an ac) ∧ V.cell? ⟨qb, 0, none⟩ = some (.int .i64 k') ∧ V.cell? ⟨qb, 1, none⟩ = some (.string nm') ∧ V.cell? ⟨qb, 2, none⟩ = some (.bool mn') ∧ V.cell? ⟨qb, 3, none⟩ = some (.slice la' ln' lc') ∧ V.cell? ⟨qb, 4, none⟩ = some (.slice na' nn' nc') ∧ V.cell? ⟨qb, 5, none⟩ = some (.slice ka' kn' kc') ∧ V.cell? ⟨qb, 6, none⟩ = some (.slice aa' an' ac')) := fun V k => by
    obtain ⟨-, x1, x2⟩ := HA.out
    exact ⟨(x1.kept k trivial).cel 0 _ rfl, (x1.kept k trivial).cel 1 _ rfl, (x1.kept k trivial).cel 2 _ rfl, (x1.kept k trivial).cel 3 _ rfl, (x1.kept k trivial).cel 4 _ rfl, (x1.kept k trivial).cel 5 _ rfl, (x1.kept k trivial).cel 6 _ rfl, (x2.kept k trivial).cel 0 _ rfl, (x2.kept k trivial).cel 1 _ rfl, (x2.kept k trivial).cel 2 _ rfl, (x2.kept k trivial).cel 3 _ rfl, (x2.kept k trivial).cel 4 _ rfl, (x2.kept k trivial).cel 5 _ rfl, (x2.kept k trivial).cel 6 _ rfl⟩
  have k0' := HS.out A1.drew (Kept.drew _ _)
  have HMK : Hid (∀ wx rb rc, TwoB A1 wx rb rc [.int .i64 k, .string nm, .bool mn, .slice la ln lc, .slice na nn nc, .slice ka kn kc, .slice aa an ac] [.int .i64 k', .string nm', .bool mn', .slice la' ln' lc', .slice na' nn' nc', .slice ka' kn' kc', .slice aa' an' ac'] → ∀ A3, A3 = wx.alloc (.cells #[.slice (some ⟨rb, 0, none⟩) 1 1, .slice (some ⟨rc, 0, none⟩) 1 1] 33) → Hid (RT2 A3 rb rc F H) ∧ Below W.heap.size W A3 ∧ Calls Try.prog 20 #[.slice (some ⟨wx.heap.size, 0, none⟩) 2 2] A3 fun e W' => ∃ G, e = .returned (.pointer (some ⟨G, 0, none⟩)) ∧ Hid (GE2 A3 W' rb rc F H G)) := fun wx rb rc tw A3 hA3 => by
    obtain ⟨kA, -, -⟩ := HA.out
    obtain ⟨t1, t2, t3, t4, t5, t6⟩ := tw
    have k3 : Kept (fun _ => True) wx A3 := by rw [hA3]; exact Kept.alloc _ _ _
    have x3 : Bx A3 wx.heap.size [.slice (some ⟨rb, 0, none⟩) 1 1, .slice (some ⟨rc, 0, none⟩) 1 1] := by rw [hA3]; exact Bx.new _ _ _
    have bw : Below W.heap.size W A3 := Below.kept (Below.refl _ W) ((kA.trans t3).trans k3) (fun _ _ => trivial) (Nat.le_refl _)
    have z := kA.size
    have rt := hmk A3 rb rc bw (by rw [hv]; exact t1.kept k3 trivial) (by rw [hv']; exact t2.kept k3 trivial) (by omega) (by omega) t6
    exact ⟨rt, bw, i_ground2 rt (x3.cel 0 _ rfl) (x3.cel 1 _ rfl)⟩
  have HA1 := hide hA1
  have HD := hide hD
  have HPB := hide hpb
  have HQB := hide hqb
  have HAL := hide hal
  clear hmk hv hv' e e' hA1 tb hD hf hg hal hpb hqb
  go_enter Try.func11, Try.ntmps11
  go_upto_region 1 with fail
  rw [HPB.out, HQB.out]
  have ea : (W.alloc (.cells #[.int .i64 k, .string nm, .bool mn, .slice la ln lc, .slice na nn nc, .slice ka kn kc, .slice aa an ac] 36)).alloc (.cells #[.int .i64 k', .string nm', .bool mn', .slice la' ln' lc', .slice na' nn' nc', .slice ka' kn' kc', .slice aa' an' ac'] 36) = A1 := HA1.out
  rw [ea]
  clear ea HA1 HPB HQB
  go_cut [5, 6] (fun s5 s6 wx => ∃ rb rc : Nat, s5 = .slice (some ⟨rb, 0, none⟩) 1 1 ∧ s6 = .slice (some ⟨rc, 0, none⟩) 1 1 ∧ Hid (TwoB A1 wx rb rc [.int .i64 k, .string nm, .bool mn, .slice la ln lc, .slice na nn nc, .slice ka kn kc, .slice aa an ac] [.int .i64 k', .string nm', .bool mn', .slice la' ln' lc', .slice na' nn' nc', .slice ka' kn' kc', .slice aa' an' ac']))
  case first =>
    go_region_held3 (fun V => V.cell? ⟨pb, 0, none⟩ = some (.int .i64 k) ∧ V.cell? ⟨pb, 1, none⟩ = some (.string nm) ∧ V.cell? ⟨pb, 2, none⟩ = some (.bool mn) ∧ V.cell? ⟨pb, 3, none⟩ = some (.slice la ln lc) ∧ V.cell? ⟨pb, 4, none⟩ = some (.slice na nn nc) ∧ V.cell? ⟨pb, 5, none⟩ = some (.slice ka kn kc) ∧ V.cell? ⟨pb, 6, none⟩ = some (.slice aa an ac) ∧ V.cell? ⟨qb, 0, none⟩ = some (.int .i64 k') ∧ V.cell? ⟨qb, 1, none⟩ = some (.string nm') ∧ V.cell? ⟨qb, 2, none⟩ = some (.bool mn') ∧ V.cell? ⟨qb, 3, none⟩ = some (.slice la' ln' lc') ∧ V.cell? ⟨qb, 4, none⟩ = some (.slice na' nn' nc') ∧ V.cell? ⟨qb, 5, none⟩ = some (.slice ka' kn' kc') ∧ V.cell? ⟨qb, 6, none⟩ = some (.slice aa' an' ac'))
      (first | with_reducible exact k0' | (refine HS.out _ ?_; repeat first | with_reducible exact Kept.refl _ _ | with_reducible refine Kept.alloc' ?_ | with_reducible refine Kept.drew' ?_ | with_reducible refine Kept.set' (by first | with_reducible exact Nat.le_refl _ | (simp; done) | (simp; omega)) ?_))
      (first | fail)
    all_goals
      go_wp2_with fail
      go_meet
      case rel =>
        first
          | exact ⟨_, _, rfl, rfl, two_b1 A1 [.int .i64 k, .string nm, .bool mn, .slice la ln lc, .slice na nn nc, .slice ka kn kc, .slice aa an ac] [.int .i64 k', .string nm', .bool mn', .slice la' ln' lc', .slice na' nn' nc', .slice ka' kn' kc', .slice aa' an' ac'] 36 36⟩
          | exact ⟨_, _, rfl, rfl, two_b2 A1 [.int .i64 k, .string nm, .bool mn, .slice la ln lc, .slice na nn nc, .slice ka kn kc, .slice aa an ac] [.int .i64 k', .string nm', .bool mn', .slice la' ln' lc', .slice na' nn' nc', .slice ka' kn' kc', .slice aa' an' ac'] 36 36⟩
  case rest =>
    obtain ⟨rb, rc, rfl, rfl, TW⟩ := hcut
    rename World => wx
    clear k0' HS
    obtain ⟨A3, hA3⟩ : ∃ A3, wx.alloc (.cells #[.slice (some ⟨rb, 0, none⟩) 1 1, .slice (some ⟨rc, 0, none⟩) 1 1] 33) = A3 := ⟨_, rfl⟩
    obtain ⟨hrt, hbw, hcg⟩ := HMK.out wx rb rc TW.out A3 hA3.symm
    have HCG := hide hcg
    have HBW := hide hbw
    have HA3 := hide hA3
    clear hcg hbw hA3 HMK TW HA
    go_upto_region 3 with (go_at_call 20; rw [HA3.out]; refine HCG.out.mono ?_; rintro e Wg ⟨G, rfl, hge⟩)
    obtain ⟨X, nb, nc0, lsb, cm, xok, g8, g9, HST⟩ := GE2.start hrt.out hge.out
    have hl1 : X.ND.length ≤ 10000000 := by have := xok.lim; omega
    have hl2 : X.LS.length ≤ 10000000 := xok.lim.2.1
    obtain ⟨n, hn⟩ : ∃ n, X.ND.length = n := ⟨_, rfl⟩
    obtain ⟨nl, hnl⟩ : ∃ nl, X.LS.length = nl := ⟨_, rfl⟩
    rw [hn] at g8 hl1 HST
    rw [hnl] at g9 hl2 HST
    have hm1 := run_make85 n hl1
    have hm2 := run_make85 nl hl2
    have HGG : Hid (∀ V, Kept (fun _ => True) Wg V → V.cell? ⟨G, 8, none⟩ = some (.slice (some ⟨nb, 0, none⟩) n nc0) ∧ V.cell? ⟨G, 9, none⟩ = some (.slice (some ⟨lsb, 0, none⟩) nl cm)) := fun V k => ⟨(k.cell (p := ⟨G, 8, none⟩) (block_lt_of_cell g8) trivial).trans g8, (k.cell (p := ⟨G, 9, none⟩) (block_lt_of_cell g9) trivial).trans g9⟩
    have k0' := HGG.out Wg.drew (Kept.drew _ _)
    have HS1 := hide HST
    have XOK := hide xok
    have HRT := hrt
    have HN := hide hn
    have HNL := hide hnl
    clear HST xok hge hrt hn hnl
    go_cut [8, 9] (fun s8 s9 wc => ∃ Tb Ub : Nat, s8 = .slice (some ⟨Tb, 0, none⟩) n n ∧ s9 = .slice (some ⟨Ub, 0, none⟩) nl nl ∧ Hid (TwoM Wg wc Tb Ub n nl))
    case first =>
      go_region_held3 (fun V => V.cell? ⟨G, 8, none⟩ = some (.slice (some ⟨nb, 0, none⟩) n nc0) ∧ V.cell? ⟨G, 9, none⟩ = some (.slice (some ⟨lsb, 0, none⟩) nl cm))
        (first | with_reducible exact k0' | (refine HGG.out _ ?_; repeat first | with_reducible exact Kept.refl _ _ | with_reducible refine Kept.alloc' ?_ | with_reducible refine Kept.drew' ?_ | with_reducible refine Kept.set' (by first | with_reducible exact Nat.le_refl _ | (simp; done) | (simp; omega)) ?_))
        (first | fail)
      all_goals
        go_wp2_with fail
        go_meet
        case rel =>
          first
            | exact ⟨_, _, rfl, rfl, (two_m Wg n nl).1, (two_m Wg n nl).2.1, (two_m Wg n nl).2.2, Nat.le_refl _, Nat.le_succ _, (Nat.ne_of_lt (Nat.lt_succ_self _))⟩
            | exact ⟨_, _, rfl, rfl, (two_m Wg nl n).1, (two_m Wg nl n).2.2, (two_m Wg nl n).2.1, Nat.le_succ _, Nat.le_refl _, (Nat.ne_of_gt (Nat.lt_succ_self _))⟩
    case rest =>
      obtain ⟨Tb, Ub, rfl, rfl, TM⟩ := hcut
      rename World => w3
      have H23 : Hid (Calls Try.prog 23 #[.pointer (some ⟨G, 0, none⟩), .slice (some ⟨rb, 0, none⟩) 1 1] w3 fun e V1 => ∃ i : Nat, e = .returned (.int .i64 (i : Int)) ∧ Hid (Calls Try.prog 23 #[.pointer (some ⟨G, 0, none⟩), .slice (some ⟨rc, 0, none⟩) 1 1] V1 fun e V2 => ∃ j : Nat, e = .returned (.int .i64 (j : Int)) ∧ Hid (SS X A3 rc F H G Tb Ub i j V2))) := HS1.out w3 Tb Ub TM.out.1 TM.out.2.1 TM.out.2.2.1 TM.out.2.2.2.1 TM.out.2.2.2.2.1 TM.out.2.2.2.2.2
      clear k0' HGG g8 g9 hm1 hm2 HS1 TM
      go_upto_region 5 with (first
        | (go_at_call_of 23 (Value.slice (some ⟨rb, 0, none⟩) 1 1); refine H23.out.mono ?_; rintro e V1 ⟨i0, rfl, H24⟩)
        | (go_at_call_of 23 (Value.slice (some ⟨rc, 0, none⟩) 1 1); refine H24.out.mono ?_; rintro e V2 ⟨j0, rfl, HSS⟩))
      obtain ⟨nb2, nc2, lsb2, cm2, kc2, ac2, tk, ta, p0, ex, ey, eal, er, er', sc, sv, pi, hbe⟩ := HSS.out
      obtain ⟨lo, hlo⟩ : ∃ lo, V2.heap.size = lo := ⟨_, rfl⟩
      obtain ⟨n0, hn0⟩ : ∃ n0, A3.heap.size = n0 := ⟨_, rfl⟩
      obtain ⟨BR, hBR⟩ : ∃ BR, rc :: H.inn = BR := ⟨_, rfl⟩
      obtain ⟨V3, hV3⟩ : ∃ V3, V2.alloc (.cells #[.int .i64 (i0 : Int), .int .i64 (j0 : Int)] 77) = V3 := ⟨_, rfl⟩
      rw [hlo, hn0] at sc
      rw [hlo, hV3] at sv
      rw [hn0, hBR] at pi
      rw [hV3, hlo]
      have SCC := hide sc
      have HAC := hide (HAL.out X n0 G nb2 nc2 lsb2 cm2 kc2 ac2 tk ta XOK.out)
      have HBB : Hid (∀ V tn un Q qv, SV X V2 lo Tb Ub V tn un Q qv → Below W.heap.size W V) := fun V tn un Q qv s => by
        have z := HBW.out.size
        have l1 := SCC.out.lt
        have l2 := SCC.out.n0
        exact Below.kept (HBW.out.trans (hbe.mono z)) s.kp (fun c hc => ⟨by omega, by omega, by omega⟩) (Nat.le_refl _)
      have HD0 : Hid (D ↔ qsim [p0]) := by
        rw [← HD.out]
        refine ⟨fun e x hx => ?_, fun e => ?_⟩
        · rw [List.mem_singleton.1 hx, er, er']; exact e
        · have := e p0 (by simp); rw [er, er'] at this; exact this
      have HT0 : Hid (qsum [p0] ≤ 4000000) := by
        have h1 := HRT.out.tc
        have : qsum [p0] = tcK F := by simp [qsum, eal, er, tcB]
        unfold Hid
        omega
      have HV0 : Hid (∃ tn un, SV X V2 lo Tb Ub V3 tn un [p0] (.slice (some ⟨lo, 0, none⟩) 1 1) ∧ PI X V2 (fun c => c < n0) BR [p0] [] [] tn un) := ⟨_, _, sv, pi⟩
      clear sc sv pi hbe HSS ex ey eal er er' hV3 HAL HD HBW HRT hlo hn0 hBR
      go_loopg [10] (qsum [p0]) (fun g s10 wl => ∃ (Q : List Pe) (qa : Option Addr) (qn qc : Nat), s10 = .slice qa qn qc ∧ Hid (g = qsum Q) ∧ Hid (qsum Q ≤ 4000000) ∧ Hid (qn = Q.length) ∧ Hid (∃ tn un, SV X V2 lo Tb Ub wl tn un Q (.slice qa qn qc) ∧ PI X V2 (fun c => c < n0) BR Q [] [] tn un) ∧ Hid (D ↔ qsim Q))
      case atStart => exact ⟨[p0], _, _, _, rfl, rfl, HT0, rfl, HV0, HD0⟩
      case round =>
        obtain ⟨Q, qa, qn, qc, rfl, hg, hT, hqn, hs, hq⟩ := hrel
        clear HV0 HD0 HT0
        rcases List.eq_nil_or_concat Q with rfl | ⟨Q0, p, e0⟩
        · have e1 : qn = 0 := hqn.out
          subst e1
          have HY : Hid D := hq.out.2 (fun x hx => by cases hx)
          have HB : Hid (Below W.heap.size W wr) := by
            obtain ⟨tn, un, sv, -⟩ := hs.out
            exact HBB.out _ _ _ _ _ sv
          clear hs hq hg hT hqn HAC
          go_wp2_with fail
          go_ret
          exact SmP.yes HY.out HB.out
        · rw [List.concat_eq_append] at e0
          subst e0
          obtain ⟨tn, un, sv, pi⟩ := hs.out
          obtain ⟨qb, qe, e1, hc, cx, cy, sv0⟩ := sv.pop
          cases e1
          obtain ⟨pi0, cu0⟩ := pi.pop XOK.out
          have pok := pi.ok p (by simp)
          have hml := pi.len XOK.out
          obtain ⟨m0, hm0⟩ : ∃ m0, Q0.length = m0 := ⟨_, rfl⟩
          obtain ⟨mm, hmm⟩ : ∃ mm, Q0.length + 1 = mm := ⟨_, rfl⟩
          rw [hm0] at cx cy sv0
          rw [hmm] at hc
          have hTT := hT.out
          have hml2 : mm ≤ 4000000 := by rw [List.length_append] at hml; simp only [List.length_cons, List.length_nil] at hml; omega
          rw [hmm]
          have hmi : (mm : Int) - 1 = (m0 : Int) := by omega
          have hmp : (0 : Int) < (mm : Int) := by omega
          have hmn : (m0 : Int) < (mm : Int) := by omega
          have hmc : m0 ≤ qc := by omega
          have hmc2 : (m0 : Int) ≤ (qc : Int) := by omega
          obtain ⟨px, hpx⟩ : ∃ px, p.x = px := ⟨_, rfl⟩
          obtain ⟨py, hpy⟩ : ∃ py, p.y = py := ⟨_, rfl⟩
          obtain ⟨f, hff⟩ : ∃ f, X.first p.al p.i = f := ⟨_, rfl⟩
          obtain ⟨f', hff'⟩ : ∃ f', X.first p.al p.i' = f' := ⟨_, rfl⟩
          obtain ⟨pn, hpn⟩ : ∃ pn, p.n = pn := ⟨_, rfl⟩
          have lx := pok.lx
          have ly := pok.ly
          rw [hpx, hff, hpn] at lx
          rw [hpy, hff', hpn] at ly
          rw [hpx] at cx
          rw [hpy] at cy
          have hxl : px < nl := by rw [← HNL.out]; exact (List.getElem?_eq_some_iff.1 lx).1
          have hyl : py < nl := by rw [← HNL.out]; exact (List.getElem?_eq_some_iff.1 ly).1
          have hxi : (px : Int) < (nl : Int) := by omega
          have hyi : (py : Int) < (nl : Int) := by omega
          have HCC : Hid (∀ V, Kept (fun _ => True) wr V → V.cell? ⟨G, 9, none⟩ = some (.slice (some ⟨lsb2, 0, none⟩) nl cm2) ∧ V.cell? ⟨qb, m0 * 2, none⟩ = some (.int .i64 (px : Int)) ∧ V.cell? ⟨qb, m0 * 2 + 1, none⟩ = some (.int .i64 (py : Int)) ∧ V.cell? ⟨lsb2, px * 2, none⟩ = some (.int .i64 (f : Int)) ∧ V.cell? ⟨lsb2, px * 2 + 1, none⟩ = some (.int .i64 (pn : Int)) ∧ V.cell? ⟨lsb2, py * 2, none⟩ = some (.int .i64 (f' : Int)) ∧ V.cell? ⟨lsb2, py * 2 + 1, none⟩ = some (.int .i64 (pn : Int))) := fun V k => by
            have a := (sv.keep SCC.out k).at SCC.out
            have g9 := a.n9
            rw [HNL.out] at g9
            exact ⟨g9, (k.cell (p := ⟨qb, m0 * 2, none⟩) (block_lt_of_cell cx) trivial).trans cx, (k.cell (p := ⟨qb, m0 * 2 + 1, none⟩) (block_lt_of_cell cy) trivial).trans cy, (a.ls px _ lx).1, (a.ls px _ lx).2, (a.ls py _ ly).1, (a.ls py _ ly).2⟩
          have k0' := HCC.out wr (Kept.refl _ _)
          have k1' := HCC.out wr.drew (Kept.drew _ _)
          obtain ⟨M, hM⟩ : ∃ M, qsum (Q0 ++ [p]) = M := ⟨_, rfl⟩
          have HM : Hid (qsum Q0 + tcB p.al p.r = M) := by unfold Hid; rw [← hM, qsum_app]
          have HL0 : Hid (∀ wc b1 b2, TwoB wr wc b1 b2 [.int .i64 (f : Int), .int .i64 (pn : Int)] [.int .i64 (f' : Int), .int .i64 (pn : Int)] → ∃ tn un, LI X V2 n0 lo Tb Ub BR D M p [(b1, [.int .i64 (f : Int), .int .i64 (pn : Int)]), (b2, [.int .i64 (f' : Int), .int .i64 (pn : Int)])] wc Q0 Q0 (.slice (some ⟨qb, 0, none⟩) m0 qc) p.r.inn (p.r'.sim p.r) (tcB p.al p.r + 0) tn un ∧ Cu X V2 (fun c => c < n0) BR p 0 pn p.r p.r' tn) := fun wc b1 b2 tw => by
            obtain ⟨t1, t2, t3, t4, t5, -⟩ := tw
            have li : LI X V2 n0 lo Tb Ub BR D M p [] wr Q0 Q0 (.slice (some ⟨qb, 0, none⟩) m0 qc) p.r.inn (p.r'.sim p.r) (tcB p.al p.r + 0) tn un := ⟨sv0, pi0, by rw [hq.out]; exact qsim_app, by have := HM.out; omega, fun e he => by cases he⟩
            rw [← hpn]
            exact ⟨tn, un, li.more SCC.out t3 (by rw [hpn]; exact t1) (by rw [hpn]; exact t2) t4 t5, cu0⟩
          have HJM : Hid (0 < pn ∧ pn ≤ 4000000) := by
            obtain ⟨h1, h2⟩ := XOK.out.pos _ _ _ _ _ pok.e
            have h3 := tcB_pos h2
            have h4 := HM.out
            rw [← hpn]
            exact ⟨h1, by omega⟩
          have HG : Hid (M = qsum (Q0 ++ [p])) := hM.symm
          have HM4 : Hid (M ≤ 4000000) := by rw [← hM]; exact hTT
          have HFF := hide hff
          have HFF' := hide hff'
          have HPN := hide hpn
          have HQ0 : Hid (m0 = Q0.length) := hm0.symm
          clear sv pi sv0 pi0 cu0 pok hml cx cy lx ly hq hs hT hTT hm0 hmm hpx hpy hff hff' hpn hM hqn hxl hyl
          go_upto_region 7 with fail
          go_cut [12, 13] (fun s12 s13 wc => ∃ b1 b2 : Nat, s12 = .pointer (some ⟨b1, 0, none⟩) ∧ s13 = .pointer (some ⟨b2, 0, none⟩) ∧ Hid (TwoB wr wc b1 b2 [.int .i64 (f : Int), .int .i64 (pn : Int)] [.int .i64 (f' : Int), .int .i64 (pn : Int)]))
          case first =>
            go_region_held3 (fun V => V.cell? ⟨G, 9, none⟩ = some (.slice (some ⟨lsb2, 0, none⟩) nl cm2) ∧ V.cell? ⟨qb, m0 * 2, none⟩ = some (.int .i64 (px : Int)) ∧ V.cell? ⟨qb, m0 * 2 + 1, none⟩ = some (.int .i64 (py : Int)) ∧ V.cell? ⟨lsb2, px * 2, none⟩ = some (.int .i64 (f : Int)) ∧ V.cell? ⟨lsb2, px * 2 + 1, none⟩ = some (.int .i64 (pn : Int)) ∧ V.cell? ⟨lsb2, py * 2, none⟩ = some (.int .i64 (f' : Int)) ∧ V.cell? ⟨lsb2, py * 2 + 1, none⟩ = some (.int .i64 (pn : Int)))
              (first | with_reducible exact k1' | (refine HCC.out _ ?_; repeat first | with_reducible exact Kept.refl _ _ | with_reducible refine Kept.alloc' ?_ | with_reducible refine Kept.drew' ?_ | with_reducible refine Kept.set' (by first | with_reducible exact Nat.le_refl _ | (simp; done) | (simp; omega)) ?_))
              (first | fail)
            all_goals
              go_wp2_with fail
              go_meet
              case rel =>
                first
                  | exact ⟨_, _, rfl, rfl, two_b1 wr [.int .i64 (f : Int), .int .i64 (pn : Int)] [.int .i64 (f' : Int), .int .i64 (pn : Int)] 80 80⟩
                  | exact ⟨_, _, rfl, rfl, two_b2 wr [.int .i64 (f : Int), .int .i64 (pn : Int)] [.int .i64 (f' : Int), .int .i64 (pn : Int)] 80 80⟩
          case rest =>
            obtain ⟨b1, b2, rfl, rfl, TW⟩ := hcut
            rename World => wc
            have HLI : Hid (∃ tn un, LI X V2 n0 lo Tb Ub BR D M p [(b1, [.int .i64 (f : Int), .int .i64 (pn : Int)]), (b2, [.int .i64 (f' : Int), .int .i64 (pn : Int)])] wc Q0 Q0 (.slice (some ⟨qb, 0, none⟩) m0 qc) p.r.inn (p.r'.sim p.r) (tcB p.al p.r + 0) tn un ∧ Cu X V2 (fun c => c < n0) BR p 0 pn p.r p.r' tn) := HL0.out wc b1 b2 TW.out
            have c12 : wc.cell? ⟨b1, 1, none⟩ = some (.int .i64 (pn : Int)) := TW.out.1.cel 1 _ rfl
            have hqn : Hid (m0 = Q0.length) := HQ0
            clear TW HL0 k0' k1' HCC hmi hmp hmn hxi hyi
            go_upto_region 10 with fail
            go_loopw [10, 79] (fun s10 s79 wl => ∃ (j m : Nat) (q q' : Fo) (Q : List Pe) (qa : Option Addr) (qn qc : Nat), s10 = .slice qa qn qc ∧ s79 = .int .i64 (j : Int) ∧ Hid (qn = Q.length) ∧ j + m = pn ∧ Hid (∃ tn un, LI X V2 n0 lo Tb Ub BR D M p [(b1, [.int .i64 (f : Int), .int .i64 (pn : Int)]), (b2, [.int .i64 (f' : Int), .int .i64 (pn : Int)])] wl Q Q (.slice qa qn qc) q.inn (q'.sim q) (tcB p.al q + j) tn un ∧ Cu X V2 (fun c => c < n0) BR p j m q q' tn)) (fun _ s79 _ => pn - (intOf s79).toNat)
            case atStart => exact ⟨0, pn, p.r, p.r', Q0, _, _, _, rfl, rfl, hqn, by omega, HLI⟩
            case round =>
              obtain ⟨j, m, q, q', Q, qa, qn, qc, rfl, rfl, hqn, hjm, hli⟩ := hrel
              clear HLI
              cases m with
              | zero =>
                have ej : j = pn := by omega
                subst ej
                obtain ⟨tn, un, li, cu⟩ := hli.out
                have eq0 : q = .nil := fit_nil cu.fq
                have eq0' : q' = .nil := fit_nil cu.fq'
                have HE : Hid (qsum Q < M ∧ qsum Q ≤ 4000000 ∧ (D ↔ qsim Q) ∧ ∃ tn un, SV X V2 lo Tb Ub wr tn un Q (.slice qa qn qc) ∧ PI X V2 (fun c => c < n0) BR Q [] [] tn un) := by
                  have h1 := li.me
                  have h2 := HJM.out
                  have h3 := HM4.out
                  refine ⟨by omega, by omega, ?_, tn, un, li.sv, li.pi.less (List.nil_sublist _) (List.nil_sublist _)⟩
                  rw [li.sm, eq0, eq0']
                  exact ⟨fun e => e.1, fun e => ⟨e, trivial⟩⟩
                clear li cu eq0 eq0' hli
                go_wp2_with fail
                go_roundg (qsum Q)
                case measure =>
                  have h1 := hg.out
                  have h2 := HG.out
                  have h3 := HE.out.1
                  omega
                case rel => exact ⟨Q, _, _, _, rfl, rfl, HE.out.2.1, hqn, HE.out.2.2.2, HE.out.2.2.1⟩
              | succ m =>
                have hji : (j : Int) < (pn : Int) := by omega
                obtain ⟨tn, un, li, cu⟩ := hli.out
                obtain ⟨y, q1, y', q1', e1, e2, f1, f2, t1, t2, m1, m2, hbr, htn, cu'⟩ := cu.step
                have c10 : wr.cell? ⟨b1, 0, none⟩ = some (.int .i64 (f : Int)) := (li.bx (b1, [.int .i64 (f : Int), .int .i64 (pn : Int)]) (by simp)).1.cel 0 _ rfl
                have c20 : wr.cell? ⟨b2, 0, none⟩ = some (.int .i64 (f' : Int)) := (li.bx (b2, [.int .i64 (f' : Int), .int .i64 (pn : Int)]) (by simp)).1.cel 0 _ rfl
                have c10d : wr.drew.cell? ⟨b1, 0, none⟩ = some (.int .i64 (f : Int)) := c10
                have c20d : wr.drew.cell? ⟨b2, 0, none⟩ = some (.int .i64 (f' : Int)) := c20
                obtain ⟨a, ha⟩ : ∃ a, f + j = a := ⟨_, rfl⟩
                obtain ⟨a', ha'⟩ : ∃ a', f' + j = a' := ⟨_, rfl⟩
                have hn4 := XOK.out.lim
                have HVI := hide (fun V (k : Kept (fun _ => True) wr V) => (li.keep SCC.out k).visit SCC.out cu)
                rw [HFF.out, ha] at t1 cu'
                rw [HFF'.out, ha'] at t2
                rw [HFF.out, HFF'.out, ha, ha'] at HVI
                have hal : a < n := by rw [← HN.out]; exact (List.getElem?_eq_some_iff.1 t1).1
                have hal' : a' < n := by rw [← HN.out]; exact (List.getElem?_eq_some_iff.1 t2).1
                have hai : (a : Int) < (n : Int) := by omega
                have hai' : (a' : Int) < (n : Int) := by omega
                rw [HN.out] at hn4
                have hwa : IntKind.i64.wrap ((f : Int) + (j : Int)) = (a : Int) := by rw [IntKind.wrap_i64]; omega
                have hwa' : IntKind.i64.wrap ((f' : Int) + (j : Int)) = (a' : Int) := by rw [IntKind.wrap_i64]; omega
                subst e1 e2
                have HV29 : Hid (∀ V, Kept (fun _ => True) wr V → Calls Try.prog 29 #[.pointer (some ⟨Tb, a, none⟩), .pointer (some ⟨Tb, a', none⟩)] V fun e V' => ∃ v, e = .returned v ∧ (v = .bool true ∧ Hid (∃ tn un, LI X V2 n0 lo Tb Ub BR D M p [(b1, [.int .i64 (f : Int), .int .i64 (pn : Int)]), (b2, [.int .i64 (f' : Int), .int .i64 (pn : Int)])] V' Q Q (.slice qa qn qc) (y.app q1).inn ((y'.app q1').sim (y.app q1)) (tcB p.al (y.app q1) + j) tn un ∧ Cu X V2 (fun c => c < n0) BR p (j + 1) m q1 q1' tn))) := fun V k => by
                  refine (HVI.out V k).mono ?_
                  rintro e V' ⟨rfl, l5⟩
                  exact ⟨_, rfl, rfl, _, _, l5, cu'⟩
                have HCU : Hid (X.row p.al p.i p.b pn p.r ∧ X.row p.al p.i' p.b' pn p.r' ∧ X.ND[a]? = some ⟨p.b, X.O p.b + j * sz p.al + hr p.al, bdy p.al y⟩ ∧ X.ND[a']? = some ⟨p.b', X.O p.b' + j * sz p.al + hr p.al, bdy p.al y'⟩ ∧ RM V2 (fun c => c < n0) p.b (X.O p.b + j * sz p.al) y ∧ RM V2 (fun c => c < n0) p.b' (X.O p.b' + j * sz p.al) y' ∧ (∀ c ∈ y'.inn, c ∈ BR)) := by
                  rw [← HPN.out]
                  exact ⟨cu.e, cu.f, t1, t2, m1, m2, hbr⟩
                have F1 := hide f1
                have F2 := hide f2
                have HA := hide ha
                have HA' := hide ha'
                clear li cu cu' HVI t1 t2 m1 m2 hbr htn hli f1 f2 ha ha' hn4 hal hal'
                go_upto_region 12 with fail
                go_cut [95] (fun s95 wx => s95 = .bool false ∧ Hid (∃ tn un, LI X V2 n0 lo Tb Ub BR D M p [(b1, [.int .i64 (f : Int), .int .i64 (pn : Int)]), (b2, [.int .i64 (f' : Int), .int .i64 (pn : Int)])] wx Q Q (.slice qa qn qc) (y.app q1).inn ((y'.app q1').sim (y.app q1)) (tcB p.al (y.app q1) + j) tn un ∧ Cu X V2 (fun c => c < n0) BR p (j + 1) m q1 q1' tn))
                case first =>
                  go_region_law (first
                    | (refine step_call (by rfl) 29 #[.pointer (some ⟨Tb, a, none⟩), .pointer (some ⟨Tb, a', none⟩)] (by simp [go_sem]) _ (HV29.out _ (Kept.drew _ _)) ?_; rintro v5 W5 ⟨rfl, h5⟩)
                    | fail)
                  all_goals
                    go_wp2_with fail
                    go_meet
                    case rel => exact ⟨rfl, h5⟩
                case rest =>
                  obtain ⟨rfl, h5⟩ := hcut
                  rename World => wd
                  clear HV29 c10 c20 c10d c20d
                  obtain ⟨tn, un, li, cu⟩ := h5.out
                  have d10 : wd.cell? ⟨b1, 0, none⟩ = some (.int .i64 (f : Int)) := (li.bx (b1, [.int .i64 (f : Int), .int .i64 (pn : Int)]) (by simp)).1.cel 0 _ rfl
                  have d20 : wd.cell? ⟨b2, 0, none⟩ = some (.int .i64 (f' : Int)) := (li.bx (b2, [.int .i64 (f' : Int), .int .i64 (pn : Int)]) (by simp)).1.cel 0 _ rfl
                  have H30 : Hid (Calls Try.prog 30 #[.pointer (some ⟨G, 0, none⟩), .int .i64 (a : Int), .int .i64 (a' : Int)] wd (SmP (hd p.al y y') wd)) := by
                    obtain ⟨r1, r2, t1, t2, m1, m2, -⟩ := HCU.out
                    have e1 := HA.out
                    have e2 := HA'.out
                    have hc := HAC.out wd p.al p.i p.b p.i' p.b' pn p.r p.r' j y y' (li.sv.at SCC.out) (by have := SCC.out.n0; have := SCC.out.lt; have := li.sv.hv; omega) r1 r2 (by omega) (by rw [HFF.out, e1]; exact t1) (by rw [HFF'.out, e2]; exact t2) (li.sv.rm SCC.out m1) (li.sv.rm SCC.out m2) F1.out F2.out
                    rw [HFF.out, HFF'.out, e1, e2] at hc
                    exact hc
                  by_cases hh : hd p.al y y'
                  · have HT : Hid (Calls Try.prog 30 #[.pointer (some ⟨G, 0, none⟩), .int .i64 (a : Int), .int .i64 (a' : Int)] wd fun e W' => e = .returned (.bool true) ∧ Kept (fun _ => True) wd W') := H30.out.mono (fun e W' h => by
                      obtain ⟨v, rfl, hv, hb⟩ := h
                      exact ⟨by rw [hv.2 hh], kt hb⟩)
                    obtain ⟨x, hx⟩ : ∃ x, bdy p.al y = x := ⟨_, rfl⟩
                    obtain ⟨x', hx'⟩ : ∃ x', bdy p.al y' = x' := ⟨_, rfl⟩
                    obtain ⟨-, -, t1, t2, m1, m2, hbr⟩ := HCU.out
                    obtain ⟨⟨l1, l2⟩, hp1, L1, L2⟩ := XOK.out.kid a _ t1
                    obtain ⟨⟨l1', l2'⟩, hp2, L1', L2'⟩ := XOK.out.kid a' _ t2
                    have hnum := hd_num F1.out F2.out hh
                    have hfx := bdy_fit F1.out
                    have hfx' := bdy_fit F2.out
                    have rx := m1.body F1.out
                    have rx' := m2.body F2.out
                    have hbx : ∀ c ∈ (bdy p.al y').inn, c ∈ BR := fun c hc => hbr c (bdy_inn F2.out c hc)
                    dsimp only at L1 L2 L1' L2'
                    have LS5 : Hid (∀ V, Kept (fun _ => True) wd V → LI X V2 n0 lo Tb Ub BR D M p [(b1, [.int .i64 (f : Int), .int .i64 (pn : Int)]), (b2, [.int .i64 (f' : Int), .int .i64 (pn : Int)])] V Q Q (.slice qa qn qc) (cbN x q1.inn 0) (RN x x' (q1'.sim q1) 0) (cN x (tcB p.al q1 + (j + 1)) 0) tn un) := fun V k => by
                      rw [← hx, ← hx']
                      exact (li.keep SCC.out k).split F1.out F2.out hh
                    have HC15 : Hid (∀ V, Kept (fun _ => True) wd V → V.cell? ⟨G, 8, none⟩ = some (.slice (some ⟨nb2, 0, none⟩) n nc2) ∧ V.cell? ⟨nb2, a * 3 + 1, none⟩ = some (.int .i64 (l1 : Int)) ∧ V.cell? ⟨nb2, a * 3 + 2, none⟩ = some (.int .i64 (l2 : Int)) ∧ V.cell? ⟨nb2, a' * 3 + 1, none⟩ = some (.int .i64 (l1' : Int)) ∧ V.cell? ⟨nb2, a' * 3 + 2, none⟩ = some (.int .i64 (l2' : Int)) ∧ V.cell? ⟨b1, 0, none⟩ = some (.int .i64 (f : Int)) ∧ V.cell? ⟨b2, 0, none⟩ = some (.int .i64 (f' : Int))) := fun V k => by
                      have at5 := (li.sv.keep SCC.out k).at SCC.out
                      have g8 := at5.n8
                      rw [HN.out] at g8
                      obtain ⟨-, n1, n2⟩ := at5.nd a _ _ t1 hp1
                      obtain ⟨-, n3, n4⟩ := at5.nd a' _ _ t2 hp2
                      have bx := (li.keep SCC.out k).bx
                      exact ⟨g8, n1, n2, n3, n4, (bx (b1, [.int .i64 (f : Int), .int .i64 (pn : Int)]) (by simp)).1.cel 0 _ rfl, (bx (b2, [.int .i64 (f' : Int), .int .i64 (pn : Int)]) (by simp)).1.cel 0 _ rfl⟩
                    rw [hx] at L1 L2 hfx rx hnum
                    rw [hx'] at L1' L2' hfx' rx' hbx hnum
                    have HAT : Hid (∀ b3 b4 at_, at_ < 2 → ∀ V Q qv, (∃ tn un, LI X V2 n0 lo Tb Ub BR D M p [(b3, [.int .i64 (l1 : Int), .int .i64 (l2 : Int)]), (b4, [.int .i64 (l1' : Int), .int .i64 (l2' : Int)]), (b1, [.int .i64 (f : Int), .int .i64 (pn : Int)]), (b2, [.int .i64 (f' : Int), .int .i64 (pn : Int)])] V Q Q qv (cbN x q1.inn at_) (RN x x' (q1'.sim q1) at_) (cN x (tcB p.al q1 + (j + 1)) at_) tn un ∧ Cu X V2 (fun c => c < n0) BR p (j + 1) m q1 q1' tn) → (sel at_ (l1, l2) < nl ∧ sel at_ (l1', l2') < nl) ∧ ((sel at_ (l1, l2) = 0 ∧ sel at_ (l1', l2') = 0 ∧ (Calls Try.prog 29 #[.pointer (some ⟨Ub, 0, none⟩), .pointer (some ⟨Ub, 0, none⟩)] V fun e V' => e = .returned (.bool false) ∧ V' = V) ∧ Hid (∃ tn un, LI X V2 n0 lo Tb Ub BR D M p [(b3, [.int .i64 (l1 : Int), .int .i64 (l2 : Int)]), (b4, [.int .i64 (l1' : Int), .int .i64 (l2' : Int)]), (b1, [.int .i64 (f : Int), .int .i64 (pn : Int)]), (b2, [.int .i64 (f' : Int), .int .i64 (pn : Int)])] V Q Q qv (cbN x q1.inn (at_ + 1)) (RN x x' (q1'.sim q1) (at_ + 1)) (cN x (tcB p.al q1 + (j + 1)) (at_ + 1)) tn un ∧ Cu X V2 (fun c => c < n0) BR p (j + 1) m q1 q1' tn)) ∨
                        (∃ pe : Pe, pe.x = sel at_ (l1, l2) ∧ pe.y = sel at_ (l1', l2') ∧ Calls Try.prog 29 #[.pointer (some ⟨Ub, sel at_ (l1, l2), none⟩), .pointer (some ⟨Ub, sel at_ (l1', l2'), none⟩)] V fun e V' => e = .returned (.bool true) ∧ Hid (∃ tn un, LI X V2 n0 lo Tb Ub BR D M p [(b3, [.int .i64 (l1 : Int), .int .i64 (l2 : Int)]), (b4, [.int .i64 (l1' : Int), .int .i64 (l2' : Int)]), (b1, [.int .i64 (f : Int), .int .i64 (pn : Int)]), (b2, [.int .i64 (f' : Int), .int .i64 (pn : Int)])] V' Q (Q ++ [pe]) qv (cbN x q1.inn (at_ + 1)) (RN x x' (q1'.sim q1) (at_ + 1)) (cN x (tcB p.al q1 + (j + 1)) (at_ + 1)) tn un ∧ Cu X V2 (fun c => c < n0) BR p (j + 1) m q1 q1' tn)))) := fun b3 b4 at_ hat V Q qv h => by
                      obtain ⟨tn, un, li, cu⟩ := h
                      obtain ⟨s1, s2⟩ := li.atStep (pp := (l1, l2)) (pp' := (l1', l2')) SCC.out hat L1 L2 L1' L2' hfx hfx' hnum rx rx' hbx
                      rw [HNL.out] at s1
                      refine ⟨s1, ?_⟩
                      rcases s2 with ⟨z1, z2, z3, z4⟩ | ⟨pe, z1, z2, z3⟩
                      · exact .inl ⟨z1, z2, z3, tn, un, z4, cu⟩
                      · refine .inr ⟨pe, z1, z2, z3.mono ?_⟩
                        rintro e V' ⟨rfl, un', z4⟩
                        exact ⟨rfl, tn, un', z4, cu⟩
                    have HCu := hide cu
                    clear li cu h5 H30 L1 L2 L1' L2' hfx hfx' rx rx' hbx hnum hx hx' t1 t2 m1 m2 hbr hp1 hp2 HCU hh
                    go_upto_region 15 with (go_at_call 30; refine HT.out.mono ?_; rintro e w5 ⟨rfl, k5⟩)
                    have K5 := hide k5
                    have k0' := HC15.out w5 k5
                    have k1' := HC15.out w5.drew (k5.trans (Kept.drew _ _))
                    have HC16 : Hid (∀ V, Kept (fun _ => True) w5 V → V.cell? ⟨G, 8, none⟩ = some (.slice (some ⟨nb2, 0, none⟩) n nc2) ∧ V.cell? ⟨nb2, a * 3 + 1, none⟩ = some (.int .i64 (l1 : Int)) ∧ V.cell? ⟨nb2, a * 3 + 2, none⟩ = some (.int .i64 (l2 : Int)) ∧ V.cell? ⟨nb2, a' * 3 + 1, none⟩ = some (.int .i64 (l1' : Int)) ∧ V.cell? ⟨nb2, a' * 3 + 2, none⟩ = some (.int .i64 (l2' : Int)) ∧ V.cell? ⟨b1, 0, none⟩ = some (.int .i64 (f : Int)) ∧ V.cell? ⟨b2, 0, none⟩ = some (.int .i64 (f' : Int))) := fun V k => HC15.out V (K5.out.trans k)
                    clear k5 HT HC15 d10 d20
                    go_cut [15, 16] (fun s15 s16 wx => ∃ b3 b4 : Nat, s15 = .pointer (some ⟨b3, 0, none⟩) ∧ s16 = .pointer (some ⟨b4, 0, none⟩) ∧ Hid (TwoB w5 wx b3 b4 [.int .i64 (l1 : Int), .int .i64 (l2 : Int)] [.int .i64 (l1' : Int), .int .i64 (l2' : Int)]))
                    case first =>
                      go_region_held3 (fun V => V.cell? ⟨G, 8, none⟩ = some (.slice (some ⟨nb2, 0, none⟩) n nc2) ∧ V.cell? ⟨nb2, a * 3 + 1, none⟩ = some (.int .i64 (l1 : Int)) ∧ V.cell? ⟨nb2, a * 3 + 2, none⟩ = some (.int .i64 (l2 : Int)) ∧ V.cell? ⟨nb2, a' * 3 + 1, none⟩ = some (.int .i64 (l1' : Int)) ∧ V.cell? ⟨nb2, a' * 3 + 2, none⟩ = some (.int .i64 (l2' : Int)) ∧ V.cell? ⟨b1, 0, none⟩ = some (.int .i64 (f : Int)) ∧ V.cell? ⟨b2, 0, none⟩ = some (.int .i64 (f' : Int)))
                        (first | with_reducible exact k1' | (refine HC16.out _ ?_; repeat first | with_reducible exact Kept.refl _ _ | with_reducible refine Kept.alloc' ?_ | with_reducible refine Kept.drew' ?_ | with_reducible refine Kept.set' (by first | with_reducible exact Nat.le_refl _ | (simp; done) | (simp; omega)) ?_))
                        (first | fail)
                      all_goals
                        go_wp2_with fail
                        go_meet
                        case rel =>
                          first
                            | exact ⟨_, _, rfl, rfl, two_b1 w5 [.int .i64 (l1 : Int), .int .i64 (l2 : Int)] [.int .i64 (l1' : Int), .int .i64 (l2' : Int)] 77 77⟩
                            | exact ⟨_, _, rfl, rfl, two_b2 w5 [.int .i64 (l1 : Int), .int .i64 (l2 : Int)] [.int .i64 (l1' : Int), .int .i64 (l2' : Int)] 77 77⟩
                    case rest =>
                      obtain ⟨b3, b4, rfl, rfl, TW⟩ := hcut
                      rename World => we
                      have HAA := hide (HAT.out b3 b4)
                      have HL0 : Hid (∃ tn un, LI X V2 n0 lo Tb Ub BR D M p [(b3, [.int .i64 (l1 : Int), .int .i64 (l2 : Int)]), (b4, [.int .i64 (l1' : Int), .int .i64 (l2' : Int)]), (b1, [.int .i64 (f : Int), .int .i64 (pn : Int)]), (b2, [.int .i64 (f' : Int), .int .i64 (pn : Int)])] we Q Q (.slice qa qn qc) (cbN x q1.inn 0) (RN x x' (q1'.sim q1) 0) (cN x (tcB p.al q1 + (j + 1)) 0) tn un ∧ Cu X V2 (fun c => c < n0) BR p (j + 1) m q1 q1' tn) := by
                        obtain ⟨t1, t2, t3, t4, t5, -⟩ := TW.out
                        exact ⟨tn, un, (LS5.out w5 K5.out).more SCC.out t3 t1 t2 t4 t5, HCu.out⟩
                      clear TW HC16 k0' k1' LS5 HAT K5
                      go_upto_region 17 with fail
                      go_loopw [10, 129] (fun s10 s129 wl => ∃ (at_ : Nat) (Q : List Pe) (qa : Option Addr) (qn qc : Nat), s10 = .slice qa qn qc ∧ s129 = .int .i64 (at_ : Int) ∧ at_ ≤ 2 ∧ Hid (qn = Q.length) ∧ Hid (∃ tn un, LI X V2 n0 lo Tb Ub BR D M p [(b3, [.int .i64 (l1 : Int), .int .i64 (l2 : Int)]), (b4, [.int .i64 (l1' : Int), .int .i64 (l2' : Int)]), (b1, [.int .i64 (f : Int), .int .i64 (pn : Int)]), (b2, [.int .i64 (f' : Int), .int .i64 (pn : Int)])] wl Q Q (.slice qa qn qc) (cbN x q1.inn at_) (RN x x' (q1'.sim q1) at_) (cN x (tcB p.al q1 + (j + 1)) at_) tn un ∧ Cu X V2 (fun c => c < n0) BR p (j + 1) m q1 q1' tn)) (fun _ s129 _ => 2 - (intOf s129).toNat)
                      case atStart => exact ⟨0, Q, _, _, _, rfl, rfl, by omega, hqn, HL0⟩
                      case round =>
                        clear HL0 hqn
                        obtain ⟨at_, Q, qa, qn, qc, rfl, rfl, hat, hqn, hst⟩ := hrel
                        by_cases h2 : at_ = 2
                        · subst h2
                          have HE : Hid (∃ tn un, LI X V2 n0 lo Tb Ub BR D M p [(b1, [.int .i64 (f : Int), .int .i64 (pn : Int)]), (b2, [.int .i64 (f' : Int), .int .i64 (pn : Int)])] wr Q Q (.slice qa qn qc) q1.inn (q1'.sim q1) (tcB p.al q1 + (j + 1)) tn un ∧ Cu X V2 (fun c => c < n0) BR p (j + 1) m q1 q1' tn) := by
                            obtain ⟨tn, un, li, cu⟩ := hst.out
                            exact ⟨tn, un, li.fewer (fun e he => List.mem_cons_of_mem _ (List.mem_cons_of_mem _ he)), cu⟩
                          have hpl := HJM.out
                          have hwj : IntKind.i64.wrap ((j : Int) + 1) = ((j + 1 : Nat) : Int) := by rw [IntKind.wrap_i64]; omega
                          clear hst HAA
                          go_wp2_with fail
                          go_roundw
                          case rel => exact ⟨j + 1, m, q1, q1', Q, _, _, _, rfl, by go_num, hqn, by omega, HE⟩
                          case measure =>
                            simp [intOf]
                            omega
                        · have hlt : at_ < 2 := by omega
                          have hti : (at_ : Int) < 2 := by omega
                          obtain ⟨sl, hsl⟩ : ∃ sl, sel at_ (l1, l2) = sl := ⟨_, rfl⟩
                          obtain ⟨sl', hsl'⟩ : ∃ sl', sel at_ (l1', l2') = sl' := ⟨_, rfl⟩
                          have HKP : Hid (∀ V, Kept (fun _ => True) wr V → ∃ tn un, LI X V2 n0 lo Tb Ub BR D M p [(b3, [.int .i64 (l1 : Int), .int .i64 (l2 : Int)]), (b4, [.int .i64 (l1' : Int), .int .i64 (l2' : Int)]), (b1, [.int .i64 (f : Int), .int .i64 (pn : Int)]), (b2, [.int .i64 (f' : Int), .int .i64 (pn : Int)])] V Q Q (.slice qa qn qc) (cbN x q1.inn at_) (RN x x' (q1'.sim q1) at_) (cN x (tcB p.al q1 + (j + 1)) at_) tn un ∧ Cu X V2 (fun c => c < n0) BR p (j + 1) m q1 q1' tn) := fun V k => by
                            obtain ⟨tn, un, li, cu⟩ := hst.out
                            exact ⟨tn, un, li.keep SCC.out k, cu⟩
                          have HBX : Hid (∀ (V : World) Q' (Q2 : List Pe) qv at2, (∃ tn un, LI X V2 n0 lo Tb Ub BR D M p [(b3, [.int .i64 (l1 : Int), .int .i64 (l2 : Int)]), (b4, [.int .i64 (l1' : Int), .int .i64 (l2' : Int)]), (b1, [.int .i64 (f : Int), .int .i64 (pn : Int)]), (b2, [.int .i64 (f' : Int), .int .i64 (pn : Int)])] V Q' Q2 qv (cbN x q1.inn at2) (RN x x' (q1'.sim q1) at2) (cN x (tcB p.al q1 + (j + 1)) at2) tn un ∧ Cu X V2 (fun c => c < n0) BR p (j + 1) m q1 q1' tn) → V.cell? ⟨b3, at_, none⟩ = some (.int .i64 (sl : Int)) ∧ V.cell? ⟨b4, at_, none⟩ = some (.int .i64 (sl' : Int))) := fun V Q' Q2 qv at2 h => by
                            obtain ⟨tn, un, li, cu⟩ := h
                            have x3 := (li.bx (b3, [.int .i64 (l1 : Int), .int .i64 (l2 : Int)]) (by simp)).1
                            have x4 := (li.bx (b4, [.int .i64 (l1' : Int), .int .i64 (l2' : Int)]) (by simp)).1
                            rw [← hsl, ← hsl']
                            match at_, hlt with
                            | 0, _ => exact ⟨x3.cel 0 _ rfl, x4.cel 0 _ rfl⟩
                            | 1, _ => exact ⟨x3.cel 1 _ rfl, x4.cel 1 _ rfl⟩
                          obtain ⟨c3, c4⟩ := HBX.out wr _ _ _ at_ hst.out
                          have c3d : wr.drew.cell? ⟨b3, at_, none⟩ = some (.int .i64 (sl : Int)) := c3
                          have c4d : wr.drew.cell? ⟨b4, at_, none⟩ = some (.int .i64 (sl' : Int)) := c4
                          obtain ⟨s1, s2⟩ := HAA.out at_ hlt wr.drew Q _ (HKP.out _ (Kept.drew _ _))
                          rw [hsl, hsl'] at s1 s2
                          have hs1 : (sl : Int) < (nl : Int) := by omega
                          have hs2 : (sl' : Int) < (nl : Int) := by omega
                          have hwt : IntKind.i64.wrap ((at_ : Int) + 1) = ((at_ + 1 : Nat) : Int) := by rw [IntKind.wrap_i64]; omega
                          clear hst hsl hsl' HKP HAA s1
                          rcases s2 with ⟨z1, z2, z3, z4⟩ | ⟨pe, z1, z2, z3⟩
                          · have hz1 : 0 < nl := by omega
                            have c3z : wr.cell? ⟨b3, at_, none⟩ = some (.int .i64 0) := by rw [c3, z1]; rfl
                            have c4z : wr.cell? ⟨b4, at_, none⟩ = some (.int .i64 0) := by rw [c4, z2]; rfl
                            have c3y : wr.drew.cell? ⟨b3, at_, none⟩ = some (.int .i64 0) := c3z
                            have c4y : wr.drew.cell? ⟨b4, at_, none⟩ = some (.int .i64 0) := c4z
                            clear c3 c4 c3d c4d z1 z2 hs1 hs2
                            have Z3 : Hid (Calls Try.prog 29 #[.pointer (some ⟨Ub, 0, none⟩), .pointer (some ⟨Ub, 0, none⟩)] wr.drew fun e V' => ∃ v, e = .returned v ∧ (v = .bool false ∧ Hid (∃ tn un, LI X V2 n0 lo Tb Ub BR D M p [(b3, [.int .i64 (l1 : Int), .int .i64 (l2 : Int)]), (b4, [.int .i64 (l1' : Int), .int .i64 (l2' : Int)]), (b1, [.int .i64 (f : Int), .int .i64 (pn : Int)]), (b2, [.int .i64 (f' : Int), .int .i64 (pn : Int)])] V' Q Q (.slice qa qn qc) (cbN x q1.inn (at_ + 1)) (RN x x' (q1'.sim q1) (at_ + 1)) (cN x (tcB p.al q1 + (j + 1)) (at_ + 1)) tn un ∧ Cu X V2 (fun c => c < n0) BR p (j + 1) m q1 q1' tn))) := z3.mono (fun e V' h => by
                              obtain ⟨rfl, rfl⟩ := h
                              exact ⟨_, rfl, rfl, z4⟩)
                            clear z3 z4 HBX
                            go_upto_region 19 with fail
                            go_cut [142] (fun s142 wx => s142 = .bool false ∧ Hid (∃ tn un, LI X V2 n0 lo Tb Ub BR D M p [(b3, [.int .i64 (l1 : Int), .int .i64 (l2 : Int)]), (b4, [.int .i64 (l1' : Int), .int .i64 (l2' : Int)]), (b1, [.int .i64 (f : Int), .int .i64 (pn : Int)]), (b2, [.int .i64 (f' : Int), .int .i64 (pn : Int)])] wx Q Q (.slice qa qn qc) (cbN x q1.inn (at_ + 1)) (RN x x' (q1'.sim q1) (at_ + 1)) (cN x (tcB p.al q1 + (j + 1)) (at_ + 1)) tn un ∧ Cu X V2 (fun c => c < n0) BR p (j + 1) m q1 q1' tn))
                            case first =>
                              go_region_law (first
                                | (refine step_call (by rfl) 29 #[.pointer (some ⟨Ub, 0, none⟩), .pointer (some ⟨Ub, 0, none⟩)] (by simp [go_sem]) _ Z3.out ?_; rintro v6 W6 ⟨rfl, h6⟩)
                                | fail)
                              all_goals
                                go_wp2_with fail
                                go_meet
                                case rel => exact ⟨rfl, h6⟩
                            case rest =>
                              obtain ⟨rfl, h6⟩ := hcut
                              rename World => wf
                              clear Z3 c3z c4z c3y c4y
                              go_wp2_with fail
                              go_roundw
                              case rel => exact ⟨at_ + 1, Q, _, _, _, rfl, by go_num, by omega, hqn, h6⟩
                              case measure =>
                                simp [intOf]
                                omega
                          · have Z3 : Hid (Calls Try.prog 29 #[.pointer (some ⟨Ub, sl, none⟩), .pointer (some ⟨Ub, sl', none⟩)] wr.drew fun e V' => ∃ v, e = .returned v ∧ (v = .bool true ∧ Hid (∃ tn un, LI X V2 n0 lo Tb Ub BR D M p [(b3, [.int .i64 (l1 : Int), .int .i64 (l2 : Int)]), (b4, [.int .i64 (l1' : Int), .int .i64 (l2' : Int)]), (b1, [.int .i64 (f : Int), .int .i64 (pn : Int)]), (b2, [.int .i64 (f' : Int), .int .i64 (pn : Int)])] V' Q (Q ++ [pe]) (.slice qa qn qc) (cbN x q1.inn (at_ + 1)) (RN x x' (q1'.sim q1) (at_ + 1)) (cN x (tcB p.al q1 + (j + 1)) (at_ + 1)) tn un ∧ Cu X V2 (fun c => c < n0) BR p (j + 1) m q1 q1' tn))) := z3.mono (fun e V' h => by
                              obtain ⟨rfl, h6⟩ := h
                              exact ⟨_, rfl, rfl, h6⟩)
                            have HPX := hide z1
                            have HPY := hide z2
                            clear z3 z1 z2
                            go_upto_region 19 with fail
                            go_cut [142] (fun s142 wx => s142 = .bool true ∧ Hid (∃ tn un, LI X V2 n0 lo Tb Ub BR D M p [(b3, [.int .i64 (l1 : Int), .int .i64 (l2 : Int)]), (b4, [.int .i64 (l1' : Int), .int .i64 (l2' : Int)]), (b1, [.int .i64 (f : Int), .int .i64 (pn : Int)]), (b2, [.int .i64 (f' : Int), .int .i64 (pn : Int)])] wx Q (Q ++ [pe]) (.slice qa qn qc) (cbN x q1.inn (at_ + 1)) (RN x x' (q1'.sim q1) (at_ + 1)) (cN x (tcB p.al q1 + (j + 1)) (at_ + 1)) tn un ∧ Cu X V2 (fun c => c < n0) BR p (j + 1) m q1 q1' tn))
                            case first =>
                              go_region_law (first
                                | (refine step_call (by rfl) 29 #[.pointer (some ⟨Ub, sl, none⟩), .pointer (some ⟨Ub, sl', none⟩)] (by simp [go_sem]) _ Z3.out ?_; rintro v6 W6 ⟨rfl, h6⟩)
                                | fail)
                              all_goals
                                go_wp2_with fail
                                go_meet
                                case rel => exact ⟨rfl, h6⟩
                            case rest =>
                              obtain ⟨rfl, h6⟩ := hcut
                              rename World => wf
                              clear Z3 c3 c4 c3d c4d
                              obtain ⟨c3, c4⟩ := HBX.out wf _ _ _ _ h6.out
                              have c3d : wf.drew.cell? ⟨b3, at_, none⟩ = some (.int .i64 (sl : Int)) := c3
                              have c4d : wf.drew.cell? ⟨b4, at_, none⟩ = some (.int .i64 (sl' : Int)) := c4
                              have HOW : Hid (∀ V, Kept (fun _ => True) wf V → V.ownsRow lo 77 2 (.slice qa qn qc) qn (qcs Q) ∧ lo ≤ V.heap.size) := fun V k => by
                                obtain ⟨tn, un, li, cu⟩ := h6.out
                                have s := li.sv.keep SCC.out k
                                have ow := s.ow
                                rw [← hqn.out] at ow
                                exact ⟨ow, s.hv⟩
                              have HFN : Hid (∀ V g cap w', Kept (fun _ => True) wf V → w'.ownsRow lo 77 2 (.slice (some ⟨g, 0, none⟩) (qn + 1) cap) (qn + 1) (qcs Q ++ [.int .i64 (sl : Int), .int .i64 (sl' : Int)]) → V.grownBy w' (Value.slice qa qn qc).ownBlock → ((Value.slice qa qn qc).ownBlock = some g ∨ g = V.heap.size) → Hid (∃ tn un, LI X V2 n0 lo Tb Ub BR D M p [(b3, [.int .i64 (l1 : Int), .int .i64 (l2 : Int)]), (b4, [.int .i64 (l1' : Int), .int .i64 (l2' : Int)]), (b1, [.int .i64 (f : Int), .int .i64 (pn : Int)]), (b2, [.int .i64 (f' : Int), .int .i64 (pn : Int)])] w' (Q ++ [pe]) (Q ++ [pe]) (.slice (some ⟨g, 0, none⟩) (qn + 1) cap) (cbN x q1.inn (at_ + 1)) (RN x x' (q1'.sim q1) (at_ + 1)) (cN x (tcB p.al q1 + (j + 1)) (at_ + 1)) tn un ∧ Cu X V2 (fun c => c < n0) BR p (j + 1) m q1 q1' tn)) := fun V g cap w' k o1 o2 o3 => by
                                obtain ⟨tn, un, li, cu⟩ := h6.out
                                have l2 := li.keep SCC.out k
                                rw [hqn.out, ← HPX.out, ← HPY.out] at o1
                                rw [hqn.out] at l2 o2 o3 ⊢
                                exact ⟨tn, un, l2.push SCC.out o1 o2 o3, cu⟩
                              have HNB : Hid (qn + 1 ≤ maxLen ∧ (qn + 1) * 16 ≤ 140737488355328) := by
                                obtain ⟨tn, un, li, cu⟩ := h6.out
                                have h1 := li.pi.len XOK.out
                                have h2 := li.me
                                have h3 := HM4.out
                                have h4 := hqn.out
                                rw [List.length_append, List.length_singleton] at h1
                                refine ⟨?_, by omega⟩
                                unfold maxLen
                                omega
                              have HQN : Hid (qn + 1 = (Q ++ [pe]).length) := by
                                have h4 := hqn.out
                                unfold Hid
                                rw [List.length_append, List.length_singleton]
                                omega
                              clear h6 HBX
                              go_upto_region 20 with fail
                              go_region_law (first
                                | (refine ur_draw (by rfl) _ _ 78 77 (by rfl) info77' Try.underlying78 rfl (by decide) lo _ (.slice qa qn qc) qn (qcs Q) [.int .i64 (sl : Int), .int .i64 (sl' : Int)] _ 1 (by rfl) (HOW.out _ (by repeat first | with_reducible exact Kept.refl _ _ | with_reducible refine Kept.alloc' ?_ | with_reducible refine Kept.drew' ?_)).1 (by rfl) (by first | exact heap_new _ _ | exact heap_new_dr _ _) (HOW.out _ (by repeat first | with_reducible exact Kept.refl _ _ | with_reducible refine Kept.alloc' ?_ | with_reducible refine Kept.drew' ?_)).2 rfl (by simp [Value.oneCell']) HNB.out.1 HNB.out.2 ?_; intro g7 cp w7 hO7 hG7 hat7; have h7 := HFN.out _ g7 cp w7 (by repeat first | with_reducible exact Kept.refl _ _ | with_reducible refine Kept.alloc' ?_ | with_reducible refine Kept.drew' ?_) hO7 hG7 hat7; clear hO7 hG7 hat7)
                                | fail)
                              all_goals
                                clear HFN HOW HNB c3 c4 c3d c4d
                                go_wp2_with fail
                                go_roundw
                                case rel => exact ⟨at_ + 1, Q ++ [pe], _, _, _, rfl, by go_num, by omega, HQN, h7⟩
                                case measure =>
                                  simp [intOf]
                                  omega
                  · have HNS : Hid (¬ D) := fun e => hh ((sim_step p.al F1.out F2.out).1 (li.sm.1 e).2).1
                    have HF : Hid (Calls Try.prog 30 #[.pointer (some ⟨G, 0, none⟩), .int .i64 (a : Int), .int .i64 (a' : Int)] wd fun e W' => e = .returned (.bool false) ∧ Kept (fun _ => True) wd W') := H30.out.mono (fun e W' h => by
                      obtain ⟨v, rfl, hv, hb⟩ := h
                      cases v with
                      | true => exact absurd (hv.1 rfl) hh
                      | false => exact ⟨rfl, kt hb⟩)
                    have HBW5 : Hid (∀ V, Kept (fun _ => True) wd V → Below W.heap.size W V) := fun V k => HBB.out _ _ _ _ _ (li.sv.keep SCC.out k)
                    clear li cu h5 H30 HCU hh
                    go_wp2_with (go_at_call 30; refine HF.out.mono ?_; rintro e w5 ⟨rfl, k5⟩)
                    go_ret
                    exact SmP.no HNS.out (HBW5.out _ k5)

end Go.Proofs.Ytfgmgbkiebeeoaa
