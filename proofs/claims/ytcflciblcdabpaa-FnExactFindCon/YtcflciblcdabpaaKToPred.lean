import Derived.Test.YtcflciblcdabpaaKa
namespace Go.Proofs.Ytcflciblcdabpaa
open Go.RowKit Go.Joins

set_option maxHeartbeats 2000000 in
set_option maxRecDepth 100000 in
theorem to_C_Pred (m : Nat) : ToC Try.prog E 79 (E 5) m := by
  intro F nb W hm hf hn h1 hs
  replace hf : Fit E F [.t, .i] := hf
  obtain ⟨x0, F0, rfl, hx0, hf⟩ := fit_t hf
  obtain ⟨x1, F1, rfl, hx1, hf⟩ := fit_i hf
  obtain rfl := fit_nil hf
  clear hs
  simp only [Fo.size] at hm
  simp only [Fo.wt, textSize] at h1
  simp only [Fo.vals]
  obtain ⟨V0, hV0⟩ : ∃ V0, ((W.alloc (.cells #[.string x0, .int .i64 x1] 157)).alloc (.cells #[.string ⟨#[]⟩, .int .i64 0] 154)).alloc (.cells #[.string x0, .int .i64 x1] 154) = V0 := ⟨_, rfl⟩
  have b0 : Below W.heap.size W V0 := by rw [← hV0]; exact below_alloc3 _ _ _ _
  have z0 : V0.heap.size = W.heap.size + 1 + 1 + 1 := by rw [← hV0]; simp
  have q1 : Bx V0 W.heap.size [.string x0, .int .i64 x1] := by
    rw [← hV0]
    exact (Bx.new _ _ _).kept ((Kept.alloc (fun _ => True) _ _).trans (Kept.alloc _ _ _)) trivial
  have q2 : Bx V0 (W.heap.size + 1) [.string ⟨#[]⟩, .int .i64 0] := by
    rw [← hV0]
    have := (Bx.new (W.alloc (.cells #[.string x0, .int .i64 x1] 157)) [.string ⟨#[]⟩, .int .i64 0] 154).kept (Kept.alloc (fun _ => True) _ (.cells #[.string x0, .int .i64 x1] 154)) trivial
    rwa [World.size_alloc] at this
  have q3 : Bx V0 (W.heap.size + 1 + 1) [.string x0, .int .i64 x1] := by
    rw [← hV0]
    have := Bx.new ((W.alloc (.cells #[.string x0, .int .i64 x1] 157)).alloc (.cells #[.string ⟨#[]⟩, .int .i64 0] 154)) [.string x0, .int .i64 x1] 154
    rwa [World.size_alloc, World.size_alloc] at this
  have HV0 := hide hV0
  clear hV0
  have HB0 := hide b0
  have HZ0 := hide z0
  have HQ10 := hide q1
  have HQ20 := hide q2
  have HQ30 := hide q3
  clear b0 z0 q1 q2 q3
  go_enter Try.func79, Try.ntmps79
  clear HV0 HQ10 HQ20 HQ30 HB0 HZ0
  go_wp2_with fail
  refine bodyPost_ret (v := .agg #[.string x0, .int .i64 x1]) (by simp [results, Try.results79, go_sem]) rfl ⟨(.v (.string x0) (.v (.int .i64 x1) .nil)), rfl, Fo.sim.refl _, ?_, ⟨trivial, List.nodup_nil, fun _ hc => by simp [Fo.inn] at hc⟩⟩
  refine (fun (V : World) (kV : Kept (fun c => c < W.heap.size) W V) => (kV.below (fun _ hc => hc) (Nat.le_refl _) : Below W.heap.size W V)) _ ?_
  repeat first | (with_reducible refine Kept.set ?_ (by simp; try omega)) | (with_reducible refine Kept.trans ?_ (Kept.alloc _ _ _)) | with_reducible exact Kept.refl _ _

theorem Try.info154 : (Try.prog.info? 154).map (fun i => (i.zero, i.size, i.bytes)) = some (some (.agg #[.string ⟨#[]⟩, .int .i64 0]), 2, 24) := by kernel_rfl
theorem run_make_PredS (n : Nat) (hn : n ≤ 1048576) (w : World) :
    (Instr.makeSlice 101 (.int .i64 (n : Int)) (.int .i64 (n : Int))).run Try.prog w = .ok (.slice (some ⟨w.heap.size, 0, none⟩) n n) (w.alloc (.cells (madeCells (Value.cells (.agg #[.string ⟨#[]⟩, .int .i64 0])) (n * 2)) 154)) := by
  obtain ⟨i, hi, hzz⟩ := Option.map_eq_some_iff.1 Try.info154
  simp only [Prod.mk.injEq] at hzz
  obtain ⟨hz, hs, hb⟩ := hzz
  have hr := run_make (P := Try.prog) w 101 154 i _ Try.underlying101 hi hz .i64 .i64 n n (by omega) (Int.le_refl _) (by rw [hb]; omega) (by omega)
  simp only [Int.toNat_natCast, hs] at hr
  exact hr
set_option maxHeartbeats 2000000 in
set_option maxRecDepth 100000 in
theorem to_R_PredS_of (m : Nat) (h : ToC Try.prog E 79 (E 5) m) : ToR Try.prog E 69 (E 5) m := by
  intro F n nb W a cap hm hf hn ht hs
  have hmk := run_make_PredS n (by omega)
  have HR := hide (Rd.start hf hs)
  have HM := hide hm
  clear hf hs hm
  go_enter Try.func69, Try.ntmps69
  go_wp2_with fail
  clear hmk
  have HI : Hid (ToI (E 5) n F W 0 F .nil .nil (W.alloc (.cells (madeCells #[.string ⟨#[]⟩, .int .i64 0] (n * 2)) 154))) := ToI.start _ _ (size_madeCells _ _)
  have HR0 := hide (HR.out.below (below_alloc1 W (.cells (madeCells #[.string ⟨#[]⟩, .int .i64 0] (n * 2)) 154)) hn)
  skip
  generalize W.alloc (.cells (madeCells #[.string ⟨#[]⟩, .int .i64 0] (n * 2)) 154) = W0 at *
  go_loopw [4] (fun s4 wr => ∃ (i : Nat) (r Fp Gp : Fo), s4 = .int .i64 i ∧ i ≤ n ∧ Hid (ToI (E 5) n F W i r Fp Gp wr) ∧ Hid (Rd E (E 5) n nb a i r wr)) (fun s4 _ => n - (intOf s4).toNat)
  case atStart => exact ⟨0, F, .nil, .nil, rfl, Nat.zero_le _, HI, HR0⟩
  case round =>
    obtain ⟨i, r, Fp, Gp, rfl, hin, hI, hR⟩ := hrel
    by_cases hi : i < n
    · obtain ⟨x, q, b, o, rfl, hx, rfl, hb, hc, hxs, hR1⟩ := hR.out.next hi (by decide)
      have HR1 := hide hR1
      have hfs := hI.out.eq
      have hzs : x.size ≤ F.size ∧ x.wt ≤ F.wt := by rw [← hfs, Fo.app_size, Fo.app_wt, Fo.app_size, Fo.app_wt]; omega
      have hxl : Hid (x.len = 2) := Fit.len hx
      have hws := hI.out.size
      have hbl := hI.out.bel.size
      have hii : (i : Int) < n := by omega
      have hri := hI.out.room
      clear hR hR1 hfs
      have HC := hide (h x nb wr (by have := HM.out; omega) hx (by omega) (by omega) hxs)
      have HBL := hide (And.intro hws hbl)
      clear hws hbl hzs hxs
      have hx' : Fit E x [.t, .i] := hx
      obtain ⟨X, hX⟩ : ∃ X, x = X := ⟨_, rfl⟩
      have HXE := hide hX
      rw [hX] at hx'
      clear hX
      obtain ⟨x0, F0, rfl, hx0, hx'⟩ := fit_t hx'
      obtain ⟨x1, F1, rfl, hx1, hx'⟩ := fit_i hx'
      obtain rfl := fit_nil hx'
      rw [HXE.out] at HC hc
      simp only [Fo.vals] at HC hc
      have p0 : wr.cell? ⟨b, o + i * 2, none⟩ = some (.string x0) := hc 0 _ rfl
      have p1 : wr.cell? ⟨b, o + i * 2 + 1, none⟩ = some (.int .i64 x1) := hc 1 _ rfl
      clear hc
      go_wp2_with fail
      refine HC.out.mono ?_
      clear HC
      rintro e w1 ⟨G, rfl, s0, b1, o0⟩
      have HO := hide o0
      have HB1 := hide b1
      have HSG := hide s0
      obtain ⟨G', hG'⟩ : ∃ G', G = G' := ⟨_, rfl⟩
      have HGE := hide hG'
      rw [hG'] at s0 ⊢
      clear hG'
      obtain ⟨u0, rfl, s0_1⟩ := Fo.sim_v s0
      obtain ⟨u1, rfl, s0_2⟩ := Fo.sim_v s0_1
      obtain rfl := Fo.sim_nil s0_2
      simp only [Fo.vals]
      have hR2 := hri.below b1 (by have := HBL.out; omega)
      obtain ⟨⟨v0, l0⟩, f0⟩ := hR2 (i * 2) (by show _ < n * 2; omega)
      obtain ⟨⟨v1, l1⟩, f1⟩ := hR2 (i * 2 + 1) (by show _ < n * 2; omega)
      clear hR2 hri b1 o0
      go_wp2_with fail
      go_roundw
      case rel =>
        refine ⟨i + 1, q, Fp.app x, Gp.app G, by go_num, by omega, ?_, ?_⟩
        · have h1 := hI.out.step (G := G) hi hxl.out HB1.out (by rw [HXE.out]; exact HSG.out) HO.out
          rw [HGE.out] at h1 ⊢
          exact h1
        · have h1 := (HR1.out.below HB1.out (by have := HBL.out; omega)).kept (setL_kept [.string x0, .int .i64 x1] w1 W.heap.size (i * 2)) (by have := HBL.out; have := HB1.out.size; omega) (fun c hc => by show c ≠ _; omega)
          exact h1
      case measure => simp [intOf]; omega
    · obtain ⟨rfl, rfl⟩ := hR.out.done hi
      have h1 := hide (hI.out.finish (by omega))
      clear hR hI
      go_wp2_with fail
      go_ret
      exact ⟨W.heap.size, Gp, rfl, h1.out.1, h1.out.2.1, h1.out.2.2⟩

theorem to_R_PredS (m : Nat) : ToR Try.prog E 69 (E 5) m := to_R_PredS_of m (to_C_Pred m)
end Go.Proofs.Ytcflciblcdabpaa
