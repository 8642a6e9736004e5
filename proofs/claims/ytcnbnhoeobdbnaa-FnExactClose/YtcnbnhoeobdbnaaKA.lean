import Derived.Test.YtcnbnhoeobdbnaaKa
import Derived.Deep.RegionHeld3
namespace Go.Proofs.Ytcnbnhoeobdbnaa.U
open Go.RowKit Go.Joins

set_option maxHeartbeats 2000000 in
set_option maxRecDepth 100000 in
theorem to_C_Type (m : Nat) (h : ToR Try.prog E 45 (E 0) m) : ToC Try.prog E 11 (E 0) (m + 1) := by
  intro F nb W hm hf hn h1 hs
  replace hf : Fit E F [.i, .i, .t, .s 0] := hf
  obtain ⟨x0, F0, rfl, hx0, hf⟩ := fit_i hf
  obtain ⟨x1, F1, rfl, hx1, hf⟩ := fit_i hf
  obtain ⟨x2, F2, rfl, hx2, hf⟩ := fit_t hf
  obtain ⟨a3, n3, c3, k3, F3, rfl, hf3, hf⟩ := fit_s hf
  obtain rfl := fit_nil hf
  obtain ⟨hs3, -⟩ := hs
  simp only [Fo.size] at hm
  simp only [Fo.wt, textSize] at h1
  simp only [Fo.vals]
  have HS3 : Hid (Fo.Sub W (fun c => c < nb) a3 n3 c3 k3) := hs3
  clear hs3
  obtain ⟨V0, hV0⟩ : ∃ V0, ((W.alloc (.cells #[.int .i64 x0, .int .i64 x1, .string x2, .slice a3 n3 c3] 24)).alloc (.cells #[.int .i64 0, .int .i64 0, .string ⟨#[]⟩, .slice none 0 0] 29)).alloc (.cells #[.int .i64 x0, .int .i64 x1, .string x2, .slice none 0 0] 29) = V0 := ⟨_, rfl⟩
  have b0 : Below W.heap.size W V0 := by rw [← hV0]; exact below_alloc3 _ _ _ _
  have z0 : V0.heap.size = W.heap.size + 1 + 1 + 1 := by rw [← hV0]; simp
  have q1 : Bx V0 W.heap.size [.int .i64 x0, .int .i64 x1, .string x2, .slice a3 n3 c3] := by
    rw [← hV0]
    exact (Bx.new _ _ _).kept ((Kept.alloc (fun _ => True) _ _).trans (Kept.alloc _ _ _)) trivial
  have q2 : Bx V0 (W.heap.size + 1) [.int .i64 0, .int .i64 0, .string ⟨#[]⟩, .slice none 0 0] := by
    rw [← hV0]
    have := (Bx.new (W.alloc (.cells #[.int .i64 x0, .int .i64 x1, .string x2, .slice a3 n3 c3] 24)) [.int .i64 0, .int .i64 0, .string ⟨#[]⟩, .slice none 0 0] 29).kept (Kept.alloc (fun _ => True) _ (.cells #[.int .i64 x0, .int .i64 x1, .string x2, .slice none 0 0] 29)) trivial
    rwa [World.size_alloc] at this
  have q3 : Bx V0 (W.heap.size + 1 + 1) [.int .i64 x0, .int .i64 x1, .string x2, .slice none 0 0] := by
    rw [← hV0]
    have := Bx.new ((W.alloc (.cells #[.int .i64 x0, .int .i64 x1, .string x2, .slice a3 n3 c3] 24)).alloc (.cells #[.int .i64 0, .int .i64 0, .string ⟨#[]⟩, .slice none 0 0] 29)) [.int .i64 x0, .int .i64 x1, .string x2, .slice none 0 0] 29
    rwa [World.size_alloc, World.size_alloc] at this
  have HV0 := hide hV0
  clear hV0
  have HB0 := hide b0
  have HZ0 := hide z0
  have HQ10 := hide q1
  have HQ20 := hide q2
  have HQ30 := hide q3
  clear b0 z0 q1 q2 q3
  go_enter Try.func11, Try.ntmps11
  go_wp2_with fail
  rw [HV0.out]
  clear HV0
  have HC1 := h k3 n3 nb V0 a3 c3 (by omega) hf3 (by have := HB0.out.size; omega) (by omega) (HS3.out.below HB0.out (fun c hc => by omega))
  refine HC1.mono ?_
  clear HC1
  rintro e w1 ⟨d3, g3, rfl, s3, b1, o3⟩
  have z1 := b1.size
  have Q1 := HQ10.out.below b1
  have Q2 := HQ20.out.below b1
  have Q3 := HQ30.out.below b1
  have HO1 := hide o3
  have HBe1 := hide b1
  have l10 : w1.cell? ⟨W.heap.size + 1 + 1, 0, none⟩ = some (.int .i64 x0) := Q3.cel 0 _ rfl
  have f10 := Q3.live 0
  have m10 : w1.cell? ⟨W.heap.size + 1, 0, none⟩ = some (.int .i64 0) := Q2.cel 0 _ rfl
  have v10 := Q2.live 0
  have l11 : w1.cell? ⟨W.heap.size + 1 + 1, 1, none⟩ = some (.int .i64 x1) := Q3.cel 1 _ rfl
  have f11 := Q3.live 1
  have m11 : w1.cell? ⟨W.heap.size + 1, 1, none⟩ = some (.int .i64 0) := Q2.cel 1 _ rfl
  have v11 := Q2.live 1
  have l12 : w1.cell? ⟨W.heap.size + 1 + 1, 2, none⟩ = some (.string x2) := Q3.cel 2 _ rfl
  have f12 := Q3.live 2
  have m12 : w1.cell? ⟨W.heap.size + 1, 2, none⟩ = some (.string ⟨#[]⟩) := Q2.cel 2 _ rfl
  have v12 := Q2.live 2
  have l13 : w1.cell? ⟨W.heap.size + 1 + 1, 3, none⟩ = some (.slice none 0 0) := Q3.cel 3 _ rfl
  have f13 := Q3.live 3
  have m13 : w1.cell? ⟨W.heap.size + 1, 3, none⟩ = some (.slice none 0 0) := Q2.cel 3 _ rfl
  have v13 := Q2.live 3
  have Hz1 := hide z1
  clear z1 Q1 Q2 Q3 o3 b1
  go_wp2_with fail
  have hz0 := HZ0.out
  refine bodyPost_ret (v := .agg #[.int .i64 x0, .int .i64 x1, .string x2, .slice (some ⟨d3, 0, none⟩) n3 n3]) (by simp [results, Try.results11, go_sem, m10, m11, m12, m13]) rfl ⟨(.v (.int .i64 x0) (.v (.int .i64 x1) (.v (.string x2) (.s (some ⟨d3, 0, none⟩) n3 n3 g3 .nil)))), rfl, ⟨rfl, rfl, rfl, rfl, s3, trivial⟩, ?_⟩
  refine (fun (V : World) (kV : Kept (fun c => c ≠ W.heap.size + 1 ∧ c ≠ W.heap.size + 1 + 1) w1 V) => (?_ : Below W.heap.size W V ∧ Own W.heap.size V (.v (.int .i64 x0) (.v (.int .i64 x1) (.v (.string x2) (.s (some ⟨d3, 0, none⟩) n3 n3 g3 .nil)))))) _ ?_
  · have hbz := HB0.out.size
    have hzl := Hz1.out
    have Bl := HB0.out.trans (HBe1.out.mono hbz)
    refine ⟨Below.kept Bl kV (fun c hc => by omega) (Nat.le_refl _), ?_⟩
    have R1 : Own V0.heap.size w1 (.s (some ⟨d3, 0, none⟩) n3 n3 g3 .nil) := HO1.out
    exact Own.mono (show Own V0.heap.size V (.v (.int .i64 x0) (.v (.int .i64 x1) (.v (.string x2) (.s (some ⟨d3, 0, none⟩) n3 n3 g3 .nil)))) from (((R1.kept kV (fun c hc _ => by omega)).v _).v _).v _) (by omega)
  · repeat first | (with_reducible refine Kept.set ?_ (by simp)) | with_reducible exact Kept.refl _ _

theorem Try.info29 : (Try.prog.info? 29).map (fun i => (i.zero, i.size, i.bytes)) = some (some (.agg #[.int .i64 0, .int .i64 0, .string ⟨#[]⟩, .slice none 0 0]), 4, 56) := by kernel_rfl
theorem run_make_TypeS (n : Nat) (hn : n ≤ 1048576) (w : World) :
    (Instr.makeSlice 27 (.int .i64 (n : Int)) (.int .i64 (n : Int))).run Try.prog w = .ok (.slice (some ⟨w.heap.size, 0, none⟩) n n) (w.alloc (.cells (madeCells (Value.cells (.agg #[.int .i64 0, .int .i64 0, .string ⟨#[]⟩, .slice none 0 0])) (n * 4)) 29)) := by
  obtain ⟨i, hi, hzz⟩ := Option.map_eq_some_iff.1 Try.info29
  simp only [Prod.mk.injEq] at hzz
  obtain ⟨hz, hs, hb⟩ := hzz
  have hr := run_make (P := Try.prog) w 27 29 i _ Try.underlying27 hi hz .i64 .i64 n n (by omega) (Int.le_refl _) (by rw [hb]; omega) (by omega)
  simp only [Int.toNat_natCast, hs] at hr
  exact hr
set_option maxHeartbeats 2000000 in
set_option maxRecDepth 100000 in
theorem to_R_TypeS_of (m : Nat) (h : ToC Try.prog E 11 (E 0) m) : ToR Try.prog E 45 (E 0) m := by
  intro F n nb W a cap hm hf hn ht hs
  have hmk := run_make_TypeS n (by omega)
  have HR := hide (Rd.start hf hs)
  have HM := hide hm
  clear hf hs hm
  go_enter Try.func45, Try.ntmps45
  go_wp2_with fail
  clear hmk
  have HI : Hid (ToI (E 0) n F W 0 F .nil .nil (W.alloc (.cells (madeCells #[.int .i64 0, .int .i64 0, .string ⟨#[]⟩, .slice none 0 0] (n * 4)) 29))) := ToI.start _ _ (size_madeCells _ _)
  have HR0 := hide (HR.out.below (below_alloc1 W (.cells (madeCells #[.int .i64 0, .int .i64 0, .string ⟨#[]⟩, .slice none 0 0] (n * 4)) 29)) hn)
  skip
  generalize W.alloc (.cells (madeCells #[.int .i64 0, .int .i64 0, .string ⟨#[]⟩, .slice none 0 0] (n * 4)) 29) = W0 at *
  go_loopw [4] (fun s4 wr => ∃ (i : Nat) (r Fp Gp : Fo), s4 = .int .i64 i ∧ i ≤ n ∧ Hid (ToI (E 0) n F W i r Fp Gp wr) ∧ Hid (Rd E (E 0) n nb a i r wr)) (fun s4 _ => n - (intOf s4).toNat)
  case atStart => exact ⟨0, F, .nil, .nil, rfl, Nat.zero_le _, HI, HR0⟩
  case round =>
    obtain ⟨i, r, Fp, Gp, rfl, hin, hI, hR⟩ := hrel
    by_cases hi : i < n
    · obtain ⟨x, q, b, o, rfl, hx, rfl, hb, hc, hxs, hR1⟩ := hR.out.next hi (by decide)
      have HR1 := hide hR1
      have hfs := hI.out.eq
      have hzs : x.size ≤ F.size ∧ x.wt ≤ F.wt := by rw [← hfs, Fo.app_size, Fo.app_wt, Fo.app_size, Fo.app_wt]; omega
      have hxl : Hid (x.len = 4) := Fit.len hx
      have hws := hI.out.size
      have hbl := hI.out.bel.size
      have hii : (i : Int) < n := by omega
      have hri := hI.out.room
      clear hR hR1 hfs
      have HC := hide (h x nb wr (by have := HM.out; omega) hx (by omega) (by omega) hxs)
      have HBL := hide (And.intro hws hbl)
      clear hws hbl hzs hxs
      have hx' : Fit E x [.i, .i, .t, .s 0] := hx
      obtain ⟨X, hX⟩ : ∃ X, x = X := ⟨_, rfl⟩
      have HXE := hide hX
      rw [hX] at hx'
      clear hX
      obtain ⟨x0, F0, rfl, hx0, hx'⟩ := fit_i hx'
      obtain ⟨x1, F1, rfl, hx1, hx'⟩ := fit_i hx'
      obtain ⟨x2, F2, rfl, hx2, hx'⟩ := fit_t hx'
      obtain ⟨a3, n3, c3, k3, F3, rfl, hf3, hx'⟩ := fit_s hx'
      obtain rfl := fit_nil hx'
      rw [HXE.out] at HC hc
      simp only [Fo.vals] at HC hc
      have p0 : wr.cell? ⟨b, o + i * 4, none⟩ = some (.int .i64 x0) := hc 0 _ rfl
      have p1 : wr.cell? ⟨b, o + i * 4 + 1, none⟩ = some (.int .i64 x1) := hc 1 _ rfl
      have p2 : wr.cell? ⟨b, o + i * 4 + 2, none⟩ = some (.string x2) := hc 2 _ rfl
      have p3 : wr.cell? ⟨b, o + i * 4 + 3, none⟩ = some (.slice a3 n3 c3) := hc 3 _ rfl
      clear hc
      go_wp2_with fail
      refine HC.out.mono ?_
      clear HC
      rintro e w1 ⟨G, rfl, s0, b1, o0⟩
      have HO := hide o0
      have HB1 := hide b1
      have HSG := hide s0
      obtain ⟨G', hG'⟩ : ∃ G', G = G' := ⟨_, rfl⟩
      have HGE := hide hG'
      rw [hG'] at s0 ⊢
      clear hG'
      obtain ⟨u0, rfl, s0_1⟩ := Fo.sim_v s0
      obtain ⟨u1, rfl, s0_2⟩ := Fo.sim_v s0_1
      obtain ⟨u2, rfl, s0_3⟩ := Fo.sim_v s0_2
      obtain ⟨d3, e3, t3, u3, rfl, r3, s0_4⟩ := Fo.sim_s s0_3
      obtain rfl := Fo.sim_nil s0_4
      simp only [Fo.vals]
      have hR2 := hri.below b1 (by have := HBL.out; omega)
      obtain ⟨⟨v0, l0⟩, f0⟩ := hR2 (i * 4) (by show _ < n * 4; omega)
      obtain ⟨⟨v1, l1⟩, f1⟩ := hR2 (i * 4 + 1) (by show _ < n * 4; omega)
      obtain ⟨⟨v2, l2⟩, f2⟩ := hR2 (i * 4 + 2) (by show _ < n * 4; omega)
      obtain ⟨⟨v3, l3⟩, f3⟩ := hR2 (i * 4 + 3) (by show _ < n * 4; omega)
      clear hR2 hri b1 o0
      go_wp2_with fail
      go_roundw
      case rel =>
        refine ⟨i + 1, q, Fp.app x, Gp.app G, by go_num, by omega, ?_, ?_⟩
        · have h1 := hI.out.step (G := G) hi hxl.out HB1.out (by rw [HXE.out]; exact HSG.out) HO.out
          rw [HGE.out] at h1 ⊢
          exact h1
        · have h1 := (HR1.out.below HB1.out (by have := HBL.out; omega)).kept (setL_kept [.int .i64 x0, .int .i64 x1, .string x2, .slice d3 n3 e3] w1 W.heap.size (i * 4)) (by have := HBL.out; have := HB1.out.size; omega) (fun c hc => by show c ≠ _; omega)
          exact h1
      case measure => simp [intOf]; omega
    · obtain ⟨rfl, rfl⟩ := hR.out.done hi
      have h1 := hide (hI.out.finish (by omega))
      clear hR hI
      go_wp2_with fail
      go_ret
      exact ⟨W.heap.size, Gp, rfl, h1.out.1, h1.out.2.1, h1.out.2.2⟩

theorem to_both_Type : ∀ m, ToC Try.prog E 11 (E 0) m ∧ ToR Try.prog E 45 (E 0) m
  | 0 => have c : ToC Try.prog E 11 (E 0) 0 := (fun F _ _ hm hf => absurd (Fit.len hf) (by have := F.len_le; show ¬ F.len = 4; omega)); ⟨c, to_R_TypeS_of 0 c⟩
  | m + 1 => have c := to_C_Type m (to_both_Type m).2; ⟨c, to_R_TypeS_of (m + 1) c⟩
theorem to_R_TypeS (m : Nat) : ToR Try.prog E 45 (E 0) m := (to_both_Type m).2
theorem to_C_Type_all (m : Nat) : ToC Try.prog E 11 (E 0) m := (to_both_Type m).1
end Go.Proofs.Ytcnbnhoeobdbnaa.U

namespace Go.Proofs.Ytcnbnhoeobdbnaa.U
open Go.RowKit Go.Joins

set_option maxHeartbeats 2000000 in
set_option maxRecDepth 100000 in
theorem to_C_Pred (m : Nat) : ToC Try.prog E 67 (E 2) m := by
  intro F nb W hm hf hn h1 hs
  replace hf : Fit E F [.t, .i] := hf
  obtain ⟨x0, F0, rfl, hx0, hf⟩ := fit_t hf
  obtain ⟨x1, F1, rfl, hx1, hf⟩ := fit_i hf
  obtain rfl := fit_nil hf
  clear hs
  simp only [Fo.size] at hm
  simp only [Fo.wt, textSize] at h1
  simp only [Fo.vals]
  obtain ⟨V0, hV0⟩ : ∃ V0, ((W.alloc (.cells #[.string x0, .int .i64 x1] 112)).alloc (.cells #[.string ⟨#[]⟩, .int .i64 0] 115)).alloc (.cells #[.string x0, .int .i64 x1] 115) = V0 := ⟨_, rfl⟩
  have b0 : Below W.heap.size W V0 := by rw [← hV0]; exact below_alloc3 _ _ _ _
  have z0 : V0.heap.size = W.heap.size + 1 + 1 + 1 := by rw [← hV0]; simp
  have q1 : Bx V0 W.heap.size [.string x0, .int .i64 x1] := by
    rw [← hV0]
    exact (Bx.new _ _ _).kept ((Kept.alloc (fun _ => True) _ _).trans (Kept.alloc _ _ _)) trivial
  have q2 : Bx V0 (W.heap.size + 1) [.string ⟨#[]⟩, .int .i64 0] := by
    rw [← hV0]
    have := (Bx.new (W.alloc (.cells #[.string x0, .int .i64 x1] 112)) [.string ⟨#[]⟩, .int .i64 0] 115).kept (Kept.alloc (fun _ => True) _ (.cells #[.string x0, .int .i64 x1] 115)) trivial
    rwa [World.size_alloc] at this
  have q3 : Bx V0 (W.heap.size + 1 + 1) [.string x0, .int .i64 x1] := by
    rw [← hV0]
    have := Bx.new ((W.alloc (.cells #[.string x0, .int .i64 x1] 112)).alloc (.cells #[.string ⟨#[]⟩, .int .i64 0] 115)) [.string x0, .int .i64 x1] 115
    rwa [World.size_alloc, World.size_alloc] at this
  have HV0 := hide hV0
  clear hV0
  have HB0 := hide b0
  have HZ0 := hide z0
  have HQ10 := hide q1
  have HQ20 := hide q2
  have HQ30 := hide q3
  clear b0 z0 q1 q2 q3
  go_enter Try.func67, Try.ntmps67
  clear HV0 HQ10 HQ20 HQ30 HB0 HZ0
  go_wp2_with fail
  refine bodyPost_ret (v := .agg #[.string x0, .int .i64 x1]) (by simp [results, Try.results67, go_sem]) rfl ⟨(.v (.string x0) (.v (.int .i64 x1) .nil)), rfl, Fo.sim.refl _, ?_, ⟨trivial, List.nodup_nil, fun _ hc => by simp [Fo.inn] at hc⟩⟩
  refine (fun (V : World) (kV : Kept (fun c => c < W.heap.size) W V) => (kV.below (fun _ hc => hc) (Nat.le_refl _) : Below W.heap.size W V)) _ ?_
  repeat first | (with_reducible refine Kept.set ?_ (by simp; try omega)) | (with_reducible refine Kept.trans ?_ (Kept.alloc _ _ _)) | with_reducible exact Kept.refl _ _

theorem Try.info115 : (Try.prog.info? 115).map (fun i => (i.zero, i.size, i.bytes)) = some (some (.agg #[.string ⟨#[]⟩, .int .i64 0]), 2, 24) := by kernel_rfl
theorem run_make_PredS (n : Nat) (hn : n ≤ 1048576) (w : World) :
    (Instr.makeSlice 49 (.int .i64 (n : Int)) (.int .i64 (n : Int))).run Try.prog w = .ok (.slice (some ⟨w.heap.size, 0, none⟩) n n) (w.alloc (.cells (madeCells (Value.cells (.agg #[.string ⟨#[]⟩, .int .i64 0])) (n * 2)) 115)) := by
  obtain ⟨i, hi, hzz⟩ := Option.map_eq_some_iff.1 Try.info115
  simp only [Prod.mk.injEq] at hzz
  obtain ⟨hz, hs, hb⟩ := hzz
  have hr := run_make (P := Try.prog) w 49 115 i _ Try.underlying49 hi hz .i64 .i64 n n (by omega) (Int.le_refl _) (by rw [hb]; omega) (by omega)
  simp only [Int.toNat_natCast, hs] at hr
  exact hr
set_option maxHeartbeats 2000000 in
set_option maxRecDepth 100000 in
theorem to_R_PredS_of (m : Nat) (h : ToC Try.prog E 67 (E 2) m) : ToR Try.prog E 31 (E 2) m := by
  intro F n nb W a cap hm hf hn ht hs
  have hmk := run_make_PredS n (by omega)
  have HR := hide (Rd.start hf hs)
  have HM := hide hm
  clear hf hs hm
  go_enter Try.func31, Try.ntmps31
  go_wp2_with fail
  clear hmk
  have HI : Hid (ToI (E 2) n F W 0 F .nil .nil (W.alloc (.cells (madeCells #[.string ⟨#[]⟩, .int .i64 0] (n * 2)) 115))) := ToI.start _ _ (size_madeCells _ _)
  have HR0 := hide (HR.out.below (below_alloc1 W (.cells (madeCells #[.string ⟨#[]⟩, .int .i64 0] (n * 2)) 115)) hn)
  skip
  generalize W.alloc (.cells (madeCells #[.string ⟨#[]⟩, .int .i64 0] (n * 2)) 115) = W0 at *
  go_loopw [4] (fun s4 wr => ∃ (i : Nat) (r Fp Gp : Fo), s4 = .int .i64 i ∧ i ≤ n ∧ Hid (ToI (E 2) n F W i r Fp Gp wr) ∧ Hid (Rd E (E 2) n nb a i r wr)) (fun s4 _ => n - (intOf s4).toNat)
  case atStart => exact ⟨0, F, .nil, .nil, rfl, Nat.zero_le _, HI, HR0⟩
  case round =>
    obtain ⟨i, r, Fp, Gp, rfl, hin, hI, hR⟩ := hrel
    by_cases hi : i < n
    · obtain ⟨x, q, b, o, rfl, hx, rfl, hb, hc, hxs, hR1⟩ := hR.out.next hi (by decide)
      have HR1 := hide hR1
      have hfs := hI.out.eq
      have hzs : x.size ≤ F.size ∧ x.wt ≤ F.wt := by rw [← hfs, Fo.app_size, Fo.app_wt, Fo.app_size, Fo.app_wt]; omega
      have hxl : Hid (x.len = 2) := Fit.len hx
      have hws := hI.out.size
      have hbl := hI.out.bel.size
      have hii : (i : Int) < n := by omega
      have hri := hI.out.room
      clear hR hR1 hfs
      have HC := hide (h x nb wr (by have := HM.out; omega) hx (by omega) (by omega) hxs)
      have HBL := hide (And.intro hws hbl)
      clear hws hbl hzs hxs
      have hx' : Fit E x [.t, .i] := hx
      obtain ⟨X, hX⟩ : ∃ X, x = X := ⟨_, rfl⟩
      have HXE := hide hX
      rw [hX] at hx'
      clear hX
      obtain ⟨x0, F0, rfl, hx0, hx'⟩ := fit_t hx'
      obtain ⟨x1, F1, rfl, hx1, hx'⟩ := fit_i hx'
      obtain rfl := fit_nil hx'
      rw [HXE.out] at HC hc
      simp only [Fo.vals] at HC hc
      have p0 : wr.cell? ⟨b, o + i * 2, none⟩ = some (.string x0) := hc 0 _ rfl
      have p1 : wr.cell? ⟨b, o + i * 2 + 1, none⟩ = some (.int .i64 x1) := hc 1 _ rfl
      clear hc
      go_wp2_with fail
      refine HC.out.mono ?_
      clear HC
      rintro e w1 ⟨G, rfl, s0, b1, o0⟩
      have HO := hide o0
      have HB1 := hide b1
      have HSG := hide s0
      obtain ⟨G', hG'⟩ : ∃ G', G = G' := ⟨_, rfl⟩
      have HGE := hide hG'
      rw [hG'] at s0 ⊢
      clear hG'
      obtain ⟨u0, rfl, s0_1⟩ := Fo.sim_v s0
      obtain ⟨u1, rfl, s0_2⟩ := Fo.sim_v s0_1
      obtain rfl := Fo.sim_nil s0_2
      simp only [Fo.vals]
      have hR2 := hri.below b1 (by have := HBL.out; omega)
      obtain ⟨⟨v0, l0⟩, f0⟩ := hR2 (i * 2) (by show _ < n * 2; omega)
      obtain ⟨⟨v1, l1⟩, f1⟩ := hR2 (i * 2 + 1) (by show _ < n * 2; omega)
      clear hR2 hri b1 o0
      go_wp2_with fail
      go_roundw
      case rel =>
        refine ⟨i + 1, q, Fp.app x, Gp.app G, by go_num, by omega, ?_, ?_⟩
        · have h1 := hI.out.step (G := G) hi hxl.out HB1.out (by rw [HXE.out]; exact HSG.out) HO.out
          rw [HGE.out] at h1 ⊢
          exact h1
        · have h1 := (HR1.out.below HB1.out (by have := HBL.out; omega)).kept (setL_kept [.string x0, .int .i64 x1] w1 W.heap.size (i * 2)) (by have := HBL.out; have := HB1.out.size; omega) (fun c hc => by show c ≠ _; omega)
          exact h1
      case measure => simp [intOf]; omega
    · obtain ⟨rfl, rfl⟩ := hR.out.done hi
      have h1 := hide (hI.out.finish (by omega))
      clear hR hI
      go_wp2_with fail
      go_ret
      exact ⟨W.heap.size, Gp, rfl, h1.out.1, h1.out.2.1, h1.out.2.2⟩

theorem to_R_PredS (m : Nat) : ToR Try.prog E 31 (E 2) m := to_R_PredS_of m (to_C_Pred m)
end Go.Proofs.Ytcnbnhoeobdbnaa.U

namespace Go.Proofs.Ytcnbnhoeobdbnaa.U
open Go.RowKit Go.Joins

theorem Try.info2 : (Try.prog.info? 2).map (fun i => (i.zero, i.size, i.bytes)) = some (some (.int .i64 0), 1, 8) := by kernel_rfl
theorem run_make_Int64S (n : Nat) (hn : n ≤ 1048576) (w : World) :
    (Instr.makeSlice 34 (.int .i64 (n : Int)) (.int .i64 (n : Int))).run Try.prog w = .ok (.slice (some ⟨w.heap.size, 0, none⟩) n n) (w.alloc (.cells (madeCells (Value.cells (.int .i64 0)) (n * 1)) 2)) := by
  obtain ⟨i, hi, hzz⟩ := Option.map_eq_some_iff.1 Try.info2
  simp only [Prod.mk.injEq] at hzz
  obtain ⟨hz, hs, hb⟩ := hzz
  have hr := run_make (P := Try.prog) w 34 2 i _ Try.underlying34 hi hz .i64 .i64 n n (by omega) (Int.le_refl _) (by rw [hb]; omega) (by omega)
  simp only [Int.toNat_natCast, hs] at hr
  exact hr
set_option maxHeartbeats 2000000 in
set_option maxRecDepth 100000 in
theorem to_R_Int64S (m : Nat) : ToR Try.prog E 32 (E 3) m := by
  intro F n nb W a cap hm hf hn ht hs
  have hmk := run_make_Int64S n (by omega)
  have HR := hide (Rd.start hf hs)
  have HM := hide hm
  clear hf hs hm
  go_enter Try.func32, Try.ntmps32
  go_wp2_with fail
  clear hmk
  have HI : Hid (ToI (E 3) n F W 0 F .nil .nil (W.alloc (.cells (madeCells #[.int .i64 0] (n * 1)) 2))) := ToI.start _ _ (size_madeCells _ _)
  have HR0 := hide (HR.out.below (below_alloc1 W (.cells (madeCells #[.int .i64 0] (n * 1)) 2)) hn)
  rw [Nat.mul_one] at *
  generalize W.alloc (.cells (madeCells #[.int .i64 0] n) 2) = W0 at *
  go_loopw [4] (fun s4 wr => ∃ (i : Nat) (r Fp Gp : Fo), s4 = .int .i64 i ∧ i ≤ n ∧ Hid (ToI (E 3) n F W i r Fp Gp wr) ∧ Hid (Rd E (E 3) n nb a i r wr)) (fun s4 _ => n - (intOf s4).toNat)
  case atStart => exact ⟨0, F, .nil, .nil, rfl, Nat.zero_le _, HI, HR0⟩
  case round =>
    obtain ⟨i, r, Fp, Gp, rfl, hin, hI, hR⟩ := hrel
    by_cases hi : i < n
    · obtain ⟨x, q, b, o, rfl, hx, rfl, hb, hc, hxs, hR1⟩ := hR.out.next hi (by decide)
      have HR1 := hide hR1
      have hfs := hI.out.eq
      have hzs : x.size ≤ F.size ∧ x.wt ≤ F.wt := by rw [← hfs, Fo.app_size, Fo.app_wt, Fo.app_size, Fo.app_wt]; omega
      have hxl : Hid (x.len = 1) := Fit.len hx
      have hws := hI.out.size
      have hbl := hI.out.bel.size
      have hii : (i : Int) < n := by omega
      have hri := hI.out.room
      clear hR hR1 hfs
      replace hx : Fit E x [.i] := hx
      obtain ⟨x0, F0, rfl, hx0, hx⟩ := fit_i hx
      obtain rfl := fit_nil hx
      have p0 : wr.cell? ⟨b, o + i * 1, none⟩ = some (.int .i64 x0) := hc 0 _ rfl
      rw [Nat.mul_one] at p0
      obtain ⟨⟨v0, l0⟩, f0⟩ := hri i (by show _ < n * 1; omega)
      have HBL := hide (And.intro hws hbl)
      clear hc hxs hri hws hbl hzs
      go_wp2_with fail
      go_roundw
      case rel =>
        refine ⟨i + 1, q, Fp.app (.v (.int .i64 x0) .nil), Gp.app (.v (.int .i64 x0) .nil), by go_num, by omega, ?_, ?_⟩
        · have h1 := hI.out.step (G := .v (.int .i64 x0) .nil) hi hxl.out (Below.refl _ _) ⟨rfl, trivial⟩ ⟨trivial, List.nodup_nil, fun _ hc => by simp [Fo.inn] at hc⟩
          have e3 : i * (E 3).length = i := Nat.mul_one i
          rw [e3] at h1
          exact h1
        · exact HR1.out.kept (setL_kept [.int .i64 x0] wr W.heap.size i) (by have := HBL.out; omega) (fun c hc => by show c ≠ _; omega)
      case measure => simp [intOf]; omega
    · obtain ⟨rfl, rfl⟩ := hR.out.done hi
      have h1 := hide (hI.out.finish (by omega))
      clear hR hI
      go_wp2_with fail
      go_ret
      exact ⟨W.heap.size, Gp, rfl, h1.out.1, h1.out.2.1, h1.out.2.2⟩

end Go.Proofs.Ytcnbnhoeobdbnaa.U

namespace Go.Proofs.Ytcnbnhoeobdbnaa.U
open Go.RowKit Go.Joins

theorem Fo.sim.split : ∀ {x y r q : Fo}, x.len = y.len → (y.app q).sim (x.app r) → y.sim x ∧ q.sim r
  | .nil, .nil, _, _, _, h => ⟨trivial, h⟩
  | .v _ x, .v _ y, r, q, e, ⟨h1, h2⟩ => by
    obtain ⟨h3, h4⟩ := Fo.sim.split (x := x) (y := y) (by simpa [Fo.len] using e) h2
    exact ⟨⟨h1, h3⟩, h4⟩
  | .s _ _ _ _ x, .s _ _ _ _ y, r, q, e, ⟨h1, h0, h2⟩ => by
    obtain ⟨h3, h4⟩ := Fo.sim.split (x := x) (y := y) (by simpa [Fo.len] using e) h2
    exact ⟨⟨h1, h0, h3⟩, h4⟩
  | .nil, .v _ _, _, _, e, _ => by simp [Fo.len] at e
  | .nil, .s _ _ _ _ _, _, _, e, _ => by simp [Fo.len] at e
  | .v _ _, .nil, _, _, e, _ => by simp [Fo.len] at e
  | .s _ _ _ _ _, .nil, _, _, e, _ => by simp [Fo.len] at e
  | .v _ _, .s _ _ _ _ _, _, _, _, h => h.elim
  | .s _ _ _ _ _, .v _ _, _, _, _, h => h.elim

end Go.Proofs.Ytcnbnhoeobdbnaa.U

namespace Go.Proofs.Ytcnbnhoeobdbnaa.U
open Go.RowKit Go.Joins

set_option maxHeartbeats 2000000 in
set_option maxRecDepth 100000 in
theorem eq_C_Pred (m : Nat) : EqC Try.prog E 71 (E 2) m := by
  intro F G nb W hm hf hn hsim hs ht
  replace hf : Fit E F [.t, .i] := hf
  obtain ⟨x0, F0, rfl, hx0, hf⟩ := fit_t hf
  obtain ⟨x1, F1, rfl, hx1, hf⟩ := fit_i hf
  obtain rfl := fit_nil hf
  obtain ⟨u0, rfl, s_1⟩ := Fo.sim_v hsim
  obtain ⟨u1, rfl, s_2⟩ := Fo.sim_v s_1
  obtain rfl := Fo.sim_nil s_2
  clear hsim s_1 s_2
  clear hs ht
  simp only [Fo.size] at hm
  simp only [Fo.vals]
  have hB0 := hide (below_alloc2 W (.cells #[.string x0, .int .i64 x1] 115) (.cells #[.string x0, .int .i64 x1] 115))
  go_enter Try.func71, Try.ntmps71
  go_wp2_with fail
  go_ret
  exact ⟨rfl, hB0.out⟩

set_option maxHeartbeats 2000000 in
set_option maxRecDepth 100000 in
theorem eq_R_PredS_of (m : Nat) (h : EqC Try.prog E 71 (E 2) m) : EqR Try.prog E 35 (E 2) m := by
  intro F G n nb W a b cap dap hm hf hn hsim hs ht
  have hmx : n ≤ 9223372036854775807 := by have h2 := hs.1; have h3 := hs.2.1; simp only [maxLen] at h3; omega
  have HR := hide (Rd.start hf hs)
  have HR' := hide (Rd.start (hsim.fit hf) ht)
  have HM := hide hm
  have HSI := hide hsim
  clear hf hs hm ht hsim
  go_enter Try.func35, Try.ntmps35
  go_wp2_with fail
  go_loopw [5] (fun s5 wr => ∃ (i : Nat) (r q : Fo), s5 = .int .i64 i ∧ i ≤ n ∧ Hid (r.size ≤ F.size) ∧ Hid (q.sim r) ∧ Hid (Rd E (E 2) n nb a i r wr) ∧ Hid (Rd E (E 2) n nb b i q wr) ∧ Hid (Below W.heap.size W wr)) (fun s5 _ => n - (intOf s5).toNat)
  case atStart => exact ⟨0, F, G, rfl, Nat.zero_le _, Nat.le_refl _, HSI, HR, HR', Below.refl _ _⟩
  case round =>
    obtain ⟨i, r, q, rfl, hin, hrs, hrq, hR, hR', hB⟩ := hrel
    by_cases hi : i < n
    · obtain ⟨x, rr, g, o, rfl, hx, rfl, hg, hc, hxs, hR1⟩ := hR.out.next hi (by decide)
      obtain ⟨y, qq, g', o', rfl, hy, rfl, hg', hc', hys, hR1'⟩ := hR'.out.next hi (by decide)
      have HR1 := hide hR1
      have HR1' := hide hR1'
      obtain ⟨hxy, hqr⟩ := Fo.sim.split (x := x) (y := y) (by rw [Fit.len hx, Fit.len hy]) hrq.out
      have HQ := hide hqr
      have HZ := hrs.out
      rw [Fo.app_size] at HZ
      have hbz := hB.out.size
      have hii : (i : Int) < n := by omega
      clear hR hR' hR1 hR1' hrs hrq hqr hy
      replace hx : Fit E x [.t, .i] := hx
      have HC : Hid (∀ V, Below wr.heap.size wr V → Calls Try.prog 71 #[.agg x.vals.toArray, .agg y.vals.toArray] V fun e W' => e = .returned (.bool true) ∧ Below V.heap.size V W') := fun V bV => h x y nb V (by have := HM.out; omega) hx (by have := bV.size; omega) hxy (hxs.below bV (fun c hc => by omega)) (hys.below bV (fun c hc => by omega))
      have HZ1 := hide HZ
      have HBZ := hide hbz
      clear HZ hbz hxs hys
      obtain ⟨x0, F0, rfl, hx0, hx⟩ := fit_t hx
      obtain ⟨x1, F1, rfl, hx1, hx⟩ := fit_i hx
      obtain rfl := fit_nil hx
      obtain ⟨u0, rfl, s_1⟩ := Fo.sim_v hxy
      obtain ⟨u1, rfl, s_2⟩ := Fo.sim_v s_1
      obtain rfl := Fo.sim_nil s_2
      clear hxy s_1 s_2
      simp only [Fo.vals] at HC hc hc'
      have HS : Hid (∀ V, Below wr.heap.size wr V → V.cell? ⟨g, o + i * 2, none⟩ = some (.string x0) ∧ V.cell? ⟨g, o + i * 2 + 1, none⟩ = some (.int .i64 x1) ∧ V.cell? ⟨g', o' + i * 2, none⟩ = some (.string x0) ∧ V.cell? ⟨g', o' + i * 2 + 1, none⟩ = some (.int .i64 x1)) := fun V bV => by
        have h1 := hc.below bV (by have := HBZ.out; omega)
        have h2 := hc'.below bV (by have := HBZ.out; omega)
        exact ⟨h1 0 _ rfl, h1 1 _ rfl, h2 0 _ rfl, h2 1 _ rfl⟩
      clear hc hc'
      have hd0 : Hid (Below wr.heap.size wr wr.drew) := (Below.refl _ wr).drew
      have kk0 := HS.out wr.drew hd0.out
      have kk00 := HS.out wr (Below.refl _ _)
      have HC0 := hide (HC.out wr.drew hd0.out)
      obtain ⟨p0, p1, p2, p3⟩ := kk00
      clear HC
      go_wp2_with fail
      go_region_held3 (fun V => V.cell? ⟨g, o + i * 2, none⟩ = some (.string x0) ∧ V.cell? ⟨g, o + i * 2 + 1, none⟩ = some (.int .i64 x1) ∧ V.cell? ⟨g', o' + i * 2, none⟩ = some (.string x0) ∧ V.cell? ⟨g', o' + i * 2 + 1, none⟩ = some (.int .i64 x1))
        (first | with_reducible exact kk1 | with_reducible exact kk0)
        (first | (go_at_call 71; refine HC0.out.mono ?_; rintro e w1 ⟨rfl, b1⟩; have HB1 : Hid (Below wr.heap.size wr w1) := hd0.out.trans b1; have kk1 := HS.out w1 HB1.out; clear b1))
      all_goals
        go_wp2_with fail
        go_roundw
        case rel => exact ⟨i + 1, rr, qq, by go_num, by omega, (by show _ ≤ _; have := HZ1.out; omega), HQ, HR1.out.below HB1.out (by have := HBZ.out; omega), HR1'.out.below HB1.out (by have := HBZ.out; omega), hB.out.trans (HB1.out.mono HBZ.out)⟩
        case measure => simp [intOf]; omega
    · obtain ⟨-, rfl⟩ := hR.out.done hi
      clear hR hR' hrs hrq
      go_wp2_with fail
      go_ret
      exact ⟨rfl, hB.out⟩

theorem eq_R_PredS (m : Nat) : EqR Try.prog E 35 (E 2) m := eq_R_PredS_of m (eq_C_Pred m)
end Go.Proofs.Ytcnbnhoeobdbnaa.U

namespace Go.Proofs.Ytcnbnhoeobdbnaa.U
open Go.RowKit Go.Joins

set_option maxHeartbeats 2000000 in
set_option maxRecDepth 100000 in
theorem eq_C_Type (m : Nat) (h : EqR Try.prog E 47 (E 0) m) : EqC Try.prog E 13 (E 0) (m + 1) := by
  intro F G nb W hm hf hn hsim hs ht
  replace hf : Fit E F [.i, .i, .t, .s 0] := hf
  obtain ⟨x0, F0, rfl, hx0, hf⟩ := fit_i hf
  obtain ⟨x1, F1, rfl, hx1, hf⟩ := fit_i hf
  obtain ⟨x2, F2, rfl, hx2, hf⟩ := fit_t hf
  obtain ⟨a3, n3, c3, k3, F3, rfl, hf3, hf⟩ := fit_s hf
  obtain rfl := fit_nil hf
  obtain ⟨u0, rfl, s_1⟩ := Fo.sim_v hsim
  obtain ⟨u1, rfl, s_2⟩ := Fo.sim_v s_1
  obtain ⟨u2, rfl, s_3⟩ := Fo.sim_v s_2
  obtain ⟨d3, e3, t3, u3, rfl, r3, s_4⟩ := Fo.sim_s s_3
  obtain rfl := Fo.sim_nil s_4
  clear hsim s_1 s_2 s_3 s_4
  obtain ⟨hs3, -⟩ := hs
  obtain ⟨ht3, -⟩ := ht
  simp only [Fo.size] at hm
  simp only [Fo.vals]
  have HS3 : Hid (Fo.Sub W (fun c => c < nb) a3 n3 c3 k3) := hs3
  have HT3 : Hid (Fo.Sub W (fun c => c < nb) d3 n3 e3 t3) := ht3
  clear hs3 ht3
  obtain ⟨w0, hV0⟩ : ∃ V0, (W.alloc (.cells #[.int .i64 x0, .int .i64 x1, .string x2, .slice a3 n3 c3] 29)).alloc (.cells #[.int .i64 x0, .int .i64 x1, .string x2, .slice d3 n3 e3] 29) = V0 := ⟨_, rfl⟩
  have HB0 : Hid (Below W.heap.size W w0) := by rw [← hV0]; exact below_alloc2 _ _ _
  have Q0 : Hid (Bx w0 W.heap.size [.int .i64 x0, .int .i64 x1, .string x2, .slice a3 n3 c3]) := by
    rw [← hV0]
    exact (Bx.new _ _ _).kept (Kept.alloc (fun _ => True) _ _) trivial
  have R0 : Hid (Bx w0 (W.heap.size + 1) [.int .i64 x0, .int .i64 x1, .string x2, .slice d3 n3 e3]) := by
    rw [← hV0]
    have := Bx.new (W.alloc (.cells #[.int .i64 x0, .int .i64 x1, .string x2, .slice a3 n3 c3] 29)) [.int .i64 x0, .int .i64 x1, .string x2, .slice d3 n3 e3] 29
    rwa [World.size_alloc] at this
  have HV0 := hide hV0
  clear hV0
  go_enter Try.func13, Try.ntmps13
  go_wp2_with fail
  rw [HV0.out]
  clear HV0
  have HC1 := h k3 t3 n3 nb w0 a3 d3 c3 e3 (by omega) hf3 (by have := HB0.out.size; omega) r3 (HS3.out.below HB0.out (fun c hc => by omega)) (HT3.out.below HB0.out (fun c hc => by omega))
  refine HC1.mono ?_
  clear HC1
  rintro e w1 ⟨rfl, b1⟩
  have HB1 := hide (HB0.out.trans (b1.mono HB0.out.size))
  have Q1 := hide (Q0.out.below b1)
  have R1 := hide (R0.out.below b1)
  clear b1
  go_wp2_with fail
  go_ret
  exact ⟨rfl, HB1.out⟩

set_option maxHeartbeats 2000000 in
set_option maxRecDepth 100000 in
theorem eq_R_TypeS_of (m : Nat) (h : EqC Try.prog E 13 (E 0) m) : EqR Try.prog E 47 (E 0) m := by
  intro F G n nb W a b cap dap hm hf hn hsim hs ht
  have hmx : n ≤ 9223372036854775807 := by have h2 := hs.1; have h3 := hs.2.1; simp only [maxLen] at h3; omega
  have HR := hide (Rd.start hf hs)
  have HR' := hide (Rd.start (hsim.fit hf) ht)
  have HM := hide hm
  have HSI := hide hsim
  clear hf hs hm ht hsim
  go_enter Try.func47, Try.ntmps47
  go_wp2_with fail
  go_loopw [5] (fun s5 wr => ∃ (i : Nat) (r q : Fo), s5 = .int .i64 i ∧ i ≤ n ∧ Hid (r.size ≤ F.size) ∧ Hid (q.sim r) ∧ Hid (Rd E (E 0) n nb a i r wr) ∧ Hid (Rd E (E 0) n nb b i q wr) ∧ Hid (Below W.heap.size W wr)) (fun s5 _ => n - (intOf s5).toNat)
  case atStart => exact ⟨0, F, G, rfl, Nat.zero_le _, Nat.le_refl _, HSI, HR, HR', Below.refl _ _⟩
  case round =>
    obtain ⟨i, r, q, rfl, hin, hrs, hrq, hR, hR', hB⟩ := hrel
    by_cases hi : i < n
    · obtain ⟨x, rr, g, o, rfl, hx, rfl, hg, hc, hxs, hR1⟩ := hR.out.next hi (by decide)
      obtain ⟨y, qq, g', o', rfl, hy, rfl, hg', hc', hys, hR1'⟩ := hR'.out.next hi (by decide)
      have HR1 := hide hR1
      have HR1' := hide hR1'
      obtain ⟨hxy, hqr⟩ := Fo.sim.split (x := x) (y := y) (by rw [Fit.len hx, Fit.len hy]) hrq.out
      have HQ := hide hqr
      have HZ := hrs.out
      rw [Fo.app_size] at HZ
      have hbz := hB.out.size
      have hii : (i : Int) < n := by omega
      clear hR hR' hR1 hR1' hrs hrq hqr hy
      replace hx : Fit E x [.i, .i, .t, .s 0] := hx
      have HC : Hid (∀ V, Below wr.heap.size wr V → Calls Try.prog 13 #[.agg x.vals.toArray, .agg y.vals.toArray] V fun e W' => e = .returned (.bool true) ∧ Below V.heap.size V W') := fun V bV => h x y nb V (by have := HM.out; omega) hx (by have := bV.size; omega) hxy (hxs.below bV (fun c hc => by omega)) (hys.below bV (fun c hc => by omega))
      have HZ1 := hide HZ
      have HBZ := hide hbz
      clear HZ hbz hxs hys
      obtain ⟨x0, F0, rfl, hx0, hx⟩ := fit_i hx
      obtain ⟨x1, F1, rfl, hx1, hx⟩ := fit_i hx
      obtain ⟨x2, F2, rfl, hx2, hx⟩ := fit_t hx
      obtain ⟨a3, n3, c3, k3, F3, rfl, hf3, hx⟩ := fit_s hx
      obtain rfl := fit_nil hx
      obtain ⟨u0, rfl, s_1⟩ := Fo.sim_v hxy
      obtain ⟨u1, rfl, s_2⟩ := Fo.sim_v s_1
      obtain ⟨u2, rfl, s_3⟩ := Fo.sim_v s_2
      obtain ⟨d3, e3, t3, u3, rfl, r3, s_4⟩ := Fo.sim_s s_3
      obtain rfl := Fo.sim_nil s_4
      clear hxy s_1 s_2 s_3 s_4
      simp only [Fo.vals] at HC hc hc'
      have HS : Hid (∀ V, Below wr.heap.size wr V → V.cell? ⟨g, o + i * 4, none⟩ = some (.int .i64 x0) ∧ V.cell? ⟨g, o + i * 4 + 1, none⟩ = some (.int .i64 x1) ∧ V.cell? ⟨g, o + i * 4 + 2, none⟩ = some (.string x2) ∧ V.cell? ⟨g, o + i * 4 + 3, none⟩ = some (.slice a3 n3 c3) ∧ V.cell? ⟨g', o' + i * 4, none⟩ = some (.int .i64 x0) ∧ V.cell? ⟨g', o' + i * 4 + 1, none⟩ = some (.int .i64 x1) ∧ V.cell? ⟨g', o' + i * 4 + 2, none⟩ = some (.string x2) ∧ V.cell? ⟨g', o' + i * 4 + 3, none⟩ = some (.slice d3 n3 e3)) := fun V bV => by
        have h1 := hc.below bV (by have := HBZ.out; omega)
        have h2 := hc'.below bV (by have := HBZ.out; omega)
        exact ⟨h1 0 _ rfl, h1 1 _ rfl, h1 2 _ rfl, h1 3 _ rfl, h2 0 _ rfl, h2 1 _ rfl, h2 2 _ rfl, h2 3 _ rfl⟩
      clear hc hc'
      have hd0 : Hid (Below wr.heap.size wr wr.drew) := (Below.refl _ wr).drew
      have kk0 := HS.out wr.drew hd0.out
      have kk00 := HS.out wr (Below.refl _ _)
      have HC0 := hide (HC.out wr.drew hd0.out)
      obtain ⟨p0, p1, p2, p3, p4, p5, p6, p7⟩ := kk00
      clear HC
      go_wp2_with fail
      go_region_held3 (fun V => V.cell? ⟨g, o + i * 4, none⟩ = some (.int .i64 x0) ∧ V.cell? ⟨g, o + i * 4 + 1, none⟩ = some (.int .i64 x1) ∧ V.cell? ⟨g, o + i * 4 + 2, none⟩ = some (.string x2) ∧ V.cell? ⟨g, o + i * 4 + 3, none⟩ = some (.slice a3 n3 c3) ∧ V.cell? ⟨g', o' + i * 4, none⟩ = some (.int .i64 x0) ∧ V.cell? ⟨g', o' + i * 4 + 1, none⟩ = some (.int .i64 x1) ∧ V.cell? ⟨g', o' + i * 4 + 2, none⟩ = some (.string x2) ∧ V.cell? ⟨g', o' + i * 4 + 3, none⟩ = some (.slice d3 n3 e3))
        (first | with_reducible exact kk1 | with_reducible exact kk0)
        (first | (go_at_call 13; refine HC0.out.mono ?_; rintro e w1 ⟨rfl, b1⟩; have HB1 : Hid (Below wr.heap.size wr w1) := hd0.out.trans b1; have kk1 := HS.out w1 HB1.out; clear b1))
      all_goals
        go_wp2_with fail
        go_roundw
        case rel => exact ⟨i + 1, rr, qq, by go_num, by omega, (by show _ ≤ _; have := HZ1.out; omega), HQ, HR1.out.below HB1.out (by have := HBZ.out; omega), HR1'.out.below HB1.out (by have := HBZ.out; omega), hB.out.trans (HB1.out.mono HBZ.out)⟩
        case measure => simp [intOf]; omega
    · obtain ⟨-, rfl⟩ := hR.out.done hi
      clear hR hR' hrs hrq
      go_wp2_with fail
      go_ret
      exact ⟨rfl, hB.out⟩

theorem eq_both_Type : ∀ m, EqC Try.prog E 13 (E 0) m ∧ EqR Try.prog E 47 (E 0) m
  | 0 => have c : EqC Try.prog E 13 (E 0) 0 := (fun F _ _ _ hm hf => absurd (Fit.len hf) (by have := F.len_le; show ¬ F.len = 4; omega)); ⟨c, eq_R_TypeS_of 0 c⟩
  | m + 1 => have c := eq_C_Type m (eq_both_Type m).2; ⟨c, eq_R_TypeS_of (m + 1) c⟩
theorem eq_R_TypeS (m : Nat) : EqR Try.prog E 47 (E 0) m := (eq_both_Type m).2
theorem eq_C_Type_all (m : Nat) : EqC Try.prog E 13 (E 0) m := (eq_both_Type m).1
end Go.Proofs.Ytcnbnhoeobdbnaa.U

namespace Go.Proofs.Ytcnbnhoeobdbnaa.U
open Go.RowKit Go.Joins

set_option maxHeartbeats 2000000 in
set_option maxRecDepth 100000 in
theorem eq_C_Scheme (m : Nat) : EqC Try.prog E 34 [.i, .s 2, .i, .i, .t, .s 0] m := by
  intro F G nb W hm hf hn hsim hs ht
  obtain ⟨x0, F0, rfl, hx0, hf⟩ := fit_i hf
  obtain ⟨a1, n1, c1, k1, F1, rfl, hf1, hf⟩ := fit_s hf
  obtain ⟨x2, F2, rfl, hx2, hf⟩ := fit_i hf
  obtain ⟨x3, F3, rfl, hx3, hf⟩ := fit_i hf
  obtain ⟨x4, F4, rfl, hx4, hf⟩ := fit_t hf
  obtain ⟨a5, n5, c5, k5, F5, rfl, hf5, hf⟩ := fit_s hf
  obtain rfl := fit_nil hf
  obtain ⟨u0, rfl, s_1⟩ := Fo.sim_v hsim
  obtain ⟨d1, e1, t1, u1, rfl, r1, s_2⟩ := Fo.sim_s s_1
  obtain ⟨u2, rfl, s_3⟩ := Fo.sim_v s_2
  obtain ⟨u3, rfl, s_4⟩ := Fo.sim_v s_3
  obtain ⟨u4, rfl, s_5⟩ := Fo.sim_v s_4
  obtain ⟨d5, e5, t5, u5, rfl, r5, s_6⟩ := Fo.sim_s s_5
  obtain rfl := Fo.sim_nil s_6
  clear hsim s_1 s_2 s_3 s_4 s_5 s_6
  obtain ⟨hs1, hs5, -⟩ := hs
  obtain ⟨ht1, ht5, -⟩ := ht
  simp only [Fo.size] at hm
  simp only [Fo.vals]
  have HS1 : Hid (Fo.Sub W (fun c => c < nb) a1 n1 c1 k1) := hs1
  have HT1 : Hid (Fo.Sub W (fun c => c < nb) d1 n1 e1 t1) := ht1
  have HS5 : Hid (Fo.Sub W (fun c => c < nb) a5 n5 c5 k5) := hs5
  have HT5 : Hid (Fo.Sub W (fun c => c < nb) d5 n5 e5 t5) := ht5
  clear hs1 ht1 hs5 ht5
  obtain ⟨w0, hV0⟩ : ∃ V0, (W.alloc (.cells #[.int .i64 x0, .slice a1 n1 c1, .int .i64 x2, .int .i64 x3, .string x4, .slice a5 n5 c5] 51)).alloc (.cells #[.int .i64 x0, .slice d1 n1 e1, .int .i64 x2, .int .i64 x3, .string x4, .slice d5 n5 e5] 51) = V0 := ⟨_, rfl⟩
  have HB0 : Hid (Below W.heap.size W w0) := by rw [← hV0]; exact below_alloc2 _ _ _
  have Q0 : Hid (Bx w0 W.heap.size [.int .i64 x0, .slice a1 n1 c1, .int .i64 x2, .int .i64 x3, .string x4, .slice a5 n5 c5]) := by
    rw [← hV0]
    exact (Bx.new _ _ _).kept (Kept.alloc (fun _ => True) _ _) trivial
  have R0 : Hid (Bx w0 (W.heap.size + 1) [.int .i64 x0, .slice d1 n1 e1, .int .i64 x2, .int .i64 x3, .string x4, .slice d5 n5 e5]) := by
    rw [← hV0]
    have := Bx.new (W.alloc (.cells #[.int .i64 x0, .slice a1 n1 c1, .int .i64 x2, .int .i64 x3, .string x4, .slice a5 n5 c5] 51)) [.int .i64 x0, .slice d1 n1 e1, .int .i64 x2, .int .i64 x3, .string x4, .slice d5 n5 e5] 51
    rwa [World.size_alloc] at this
  have HV0 := hide hV0
  clear hV0
  go_enter Try.func34, Try.ntmps34
  go_wp2_with fail
  rw [HV0.out]
  clear HV0
  have HC1 := eq_R_PredS m k1 t1 n1 nb w0 a1 d1 c1 e1 (by omega) hf1 (by have := HB0.out.size; omega) r1 (HS1.out.below HB0.out (fun c hc => by omega)) (HT1.out.below HB0.out (fun c hc => by omega))
  refine HC1.mono ?_
  clear HC1
  rintro e w1 ⟨rfl, b1⟩
  have HB1 := hide (HB0.out.trans (b1.mono HB0.out.size))
  have Q1 := hide (Q0.out.below b1)
  have R1 := hide (R0.out.below b1)
  clear b1
  have y12 : w1.cell? ⟨W.heap.size, 2, none⟩ = some (.int .i64 x2) := Q1.out.cel 2 _ rfl
  have Y12 : w1.cell? ⟨W.heap.size + 1, 2, none⟩ = some (.int .i64 x2) := R1.out.cel 2 _ rfl
  have y13 : w1.cell? ⟨W.heap.size, 3, none⟩ = some (.int .i64 x3) := Q1.out.cel 3 _ rfl
  have Y13 : w1.cell? ⟨W.heap.size + 1, 3, none⟩ = some (.int .i64 x3) := R1.out.cel 3 _ rfl
  have y14 : w1.cell? ⟨W.heap.size, 4, none⟩ = some (.string x4) := Q1.out.cel 4 _ rfl
  have Y14 : w1.cell? ⟨W.heap.size + 1, 4, none⟩ = some (.string x4) := R1.out.cel 4 _ rfl
  have y15 : w1.cell? ⟨W.heap.size, 5, none⟩ = some (.slice a5 n5 c5) := Q1.out.cel 5 _ rfl
  have Y15 : w1.cell? ⟨W.heap.size + 1, 5, none⟩ = some (.slice d5 n5 e5) := R1.out.cel 5 _ rfl
  go_wp2_with fail
  have HC2 := eq_C_Type_all m (.v (.int .i64 x2) (.v (.int .i64 x3) (.v (.string x4) (.s a5 n5 c5 k5 .nil)))) (.v (.int .i64 x2) (.v (.int .i64 x3) (.v (.string x4) (.s d5 n5 e5 t5 .nil)))) nb w1 (by simp only [Fo.size]; omega) ⟨hx2, hx3, hx4, hf5, trivial⟩ (by have := HB1.out.size; omega) ⟨rfl, rfl, rfl, rfl, r5, trivial⟩ ⟨(HS5.out.below HB1.out (fun c hc => by omega)), trivial⟩ ⟨(HT5.out.below HB1.out (fun c hc => by omega)), trivial⟩
  simp only [Fo.vals] at HC2
  refine HC2.mono ?_
  clear HC2
  rintro e w2 ⟨rfl, b2⟩
  have HB2 := hide (HB1.out.trans (b2.mono HB1.out.size))
  have Q2 := hide (Q1.out.below b2)
  have R2 := hide (R1.out.below b2)
  clear b2
  go_wp2_with fail
  go_ret
  exact ⟨rfl, HB2.out⟩

end Go.Proofs.Ytcnbnhoeobdbnaa.U
