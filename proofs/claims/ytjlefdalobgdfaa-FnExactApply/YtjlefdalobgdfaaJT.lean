import Derived.Test.YtjlefdalobgdfaaKa
namespace Go.Proofs.Ytjlefdalobgdfaa.U
open Go.RowKit Go.Joins

set_option maxHeartbeats 2000000 in
set_option maxRecDepth 100000 in
theorem to_C_Type (m : Nat) (h : ToR Try.prog E 45 (E 0) m) : ToC Try.prog E 11 (E 0) (m + 1) := by
  intro F nb W hm hf hn h1 hs
  replace hf : Fit E F [.i, .i, .t, .s 0] := hf
  obtain ⟨x0, F0, rfl, hx0, hf⟩ := fit_i hf
  obtain ⟨x1, F1, rfl, hx1, hf⟩ := fit_i hf
  obtain ⟨x2, F2, rfl, hx2, hf⟩ := fit_t hf
  obtain ⟨a3, n3, c3, k3, F3, rfl, hf3, hf⟩ := fit_s hf
  obtain rfl := fit_nil hf
  obtain ⟨hs3, -⟩ := hs
  simp only [Fo.size] at hm
  simp only [Fo.wt, textSize] at h1
  simp only [Fo.vals]
  have HS3 : Hid (Fo.Sub W (fun c => c < nb) a3 n3 c3 k3) := hs3
  clear hs3
  obtain ⟨V0, hV0⟩ : ∃ V0, ((W.alloc (.cells #[.int .i64 x0, .int .i64 x1, .string x2, .slice a3 n3 c3] 24)).alloc (.cells #[.int .i64 0, .int .i64 0, .string ⟨#[]⟩, .slice none 0 0] 29)).alloc (.cells #[.int .i64 x0, .int .i64 x1, .string x2, .slice none 0 0] 29) = V0 := ⟨_, rfl⟩
  have b0 : Below W.heap.size W V0 := by rw [← hV0]; exact below_alloc3 _ _ _ _
  have z0 : V0.heap.size = W.heap.size + 1 + 1 + 1 := by rw [← hV0]; simp
  have q1 : Bx V0 W.heap.size [.int .i64 x0, .int .i64 x1, .string x2, .slice a3 n3 c3] := by
    rw [← hV0]
    exact (Bx.new _ _ _).kept ((Kept.alloc (fun _ => True) _ _).trans (Kept.alloc _ _ _)) trivial
  have q2 : Bx V0 (W.heap.size + 1) [.int .i64 0, .int .i64 0, .string ⟨#[]⟩, .slice none 0 0] := by
    rw [← hV0]
    have := (Bx.new (W.alloc (.cells #[.int .i64 x0, .int .i64 x1, .string x2, .slice a3 n3 c3] 24)) [.int .i64 0, .int .i64 0, .string ⟨#[]⟩, .slice none 0 0] 29).kept (Kept.alloc (fun _ => True) _ (.cells #[.int .i64 x0, .int .i64 x1, .string x2, .slice none 0 0] 29)) trivial
    rwa [World.size_alloc] at this
  have q3 : Bx V0 (W.heap.size + 1 + 1) [.int .i64 x0, .int .i64 x1, .string x2, .slice none 0 0] := by
    rw [← hV0]
    have := Bx.new ((W.alloc (.cells #[.int .i64 x0, .int .i64 x1, .string x2, .slice a3 n3 c3] 24)).alloc (.cells #[.int .i64 0, .int .i64 0, .string ⟨#[]⟩, .slice none 0 0] 29)) [.int .i64 x0, .int .i64 x1, .string x2, .slice none 0 0] 29
    rwa [World.size_alloc, World.size_alloc] at this
  have HV0 := hide hV0
  clear hV0
  have HB0 := hide b0
  have HZ0 := hide z0
  have HQ10 := hide q1
  have HQ20 := hide q2
  have HQ30 := hide q3
  clear b0 z0 q1 q2 q3
  go_enter Try.func11, Try.ntmps11
  go_wp2_with fail
  rw [HV0.out]
  clear HV0
  have HC1 := h k3 n3 nb V0 a3 c3 (by omega) hf3 (by have := HB0.out.size; omega) (by omega) (HS3.out.below HB0.out (fun c hc => by omega))
  refine HC1.mono ?_
  clear HC1
  rintro e w1 ⟨d3, g3, rfl, s3, b1, o3⟩
  have z1 := b1.size
  have Q1 := HQ10.out.below b1
  have Q2 := HQ20.out.below b1
  have Q3 := HQ30.out.below b1
  have HO1 := hide o3
  have HBe1 := hide b1
  have l10 : w1.cell? ⟨W.heap.size + 1 + 1, 0, none⟩ = some (.int .i64 x0) := Q3.cel 0 _ rfl
  have f10 := Q3.live 0
  have m10 : w1.cell? ⟨W.heap.size + 1, 0, none⟩ = some (.int .i64 0) := Q2.cel 0 _ rfl
  have v10 := Q2.live 0
  have l11 : w1.cell? ⟨W.heap.size + 1 + 1, 1, none⟩ = some (.int .i64 x1) := Q3.cel 1 _ rfl
  have f11 := Q3.live 1
  have m11 : w1.cell? ⟨W.heap.size + 1, 1, none⟩ = some (.int .i64 0) := Q2.cel 1 _ rfl
  have v11 := Q2.live 1
  have l12 : w1.cell? ⟨W.heap.size + 1 + 1, 2, none⟩ = some (.string x2) := Q3.cel 2 _ rfl
  have f12 := Q3.live 2
  have m12 : w1.cell? ⟨W.heap.size + 1, 2, none⟩ = some (.string ⟨#[]⟩) := Q2.cel 2 _ rfl
  have v12 := Q2.live 2
  have l13 : w1.cell? ⟨W.heap.size + 1 + 1, 3, none⟩ = some (.slice none 0 0) := Q3.cel 3 _ rfl
  have f13 := Q3.live 3
  have m13 : w1.cell? ⟨W.heap.size + 1, 3, none⟩ = some (.slice none 0 0) := Q2.cel 3 _ rfl
  have v13 := Q2.live 3
  have Hz1 := hide z1
  clear z1 Q1 Q2 Q3 o3 b1
  go_wp2_with fail
  have hz0 := HZ0.out
  refine bodyPost_ret (v := .agg #[.int .i64 x0, .int .i64 x1, .string x2, .slice (some ⟨d3, 0, none⟩) n3 n3]) (by simp [results, Try.results11, go_sem, m10, m11, m12, m13]) rfl ⟨(.v (.int .i64 x0) (.v (.int .i64 x1) (.v (.string x2) (.s (some ⟨d3, 0, none⟩) n3 n3 g3 .nil)))), rfl, ⟨rfl, rfl, rfl, rfl, s3, trivial⟩, ?_⟩
  refine (fun (V : World) (kV : Kept (fun c => c ≠ W.heap.size + 1 ∧ c ≠ W.heap.size + 1 + 1) w1 V) => (?_ : Below W.heap.size W V ∧ Own W.heap.size V (.v (.int .i64 x0) (.v (.int .i64 x1) (.v (.string x2) (.s (some ⟨d3, 0, none⟩) n3 n3 g3 .nil)))))) _ ?_
  · have hbz := HB0.out.size
    have hzl := Hz1.out
    have Bl := HB0.out.trans (HBe1.out.mono hbz)
    refine ⟨Below.kept Bl kV (fun c hc => by omega) (Nat.le_refl _), ?_⟩
    have R1 : Own V0.heap.size w1 (.s (some ⟨d3, 0, none⟩) n3 n3 g3 .nil) := HO1.out
    exact Own.mono (show Own V0.heap.size V (.v (.int .i64 x0) (.v (.int .i64 x1) (.v (.string x2) (.s (some ⟨d3, 0, none⟩) n3 n3 g3 .nil)))) from (((R1.kept kV (fun c hc _ => by omega)).v _).v _).v _) (by omega)
  · repeat first | (with_reducible refine Kept.set ?_ (by simp)) | with_reducible exact Kept.refl _ _

theorem Try.info29 : (Try.prog.info? 29).map (fun i => (i.zero, i.size, i.bytes)) = some (some (.agg #[.int .i64 0, .int .i64 0, .string ⟨#[]⟩, .slice none 0 0]), 4, 56) := by kernel_rfl
theorem run_make_TypeS (n : Nat) (hn : n ≤ 1048576) (w : World) :
    (Instr.makeSlice 27 (.int .i64 (n : Int)) (.int .i64 (n : Int))).run Try.prog w = .ok (.slice (some ⟨w.heap.size, 0, none⟩) n n) (w.alloc (.cells (madeCells (Value.cells (.agg #[.int .i64 0, .int .i64 0, .string ⟨#[]⟩, .slice none 0 0])) (n * 4)) 29)) := by
  obtain ⟨i, hi, hzz⟩ := Option.map_eq_some_iff.1 Try.info29
  simp only [Prod.mk.injEq] at hzz
  obtain ⟨hz, hs, hb⟩ := hzz
  have hr := run_make (P := Try.prog) w 27 29 i _ Try.underlying27 hi hz .i64 .i64 n n (by omega) (Int.le_refl _) (by rw [hb]; omega) (by omega)
  simp only [Int.toNat_natCast, hs] at hr
  exact hr
set_option maxHeartbeats 2000000 in
set_option maxRecDepth 100000 in
theorem to_R_TypeS_of (m : Nat) (h : ToC Try.prog E 11 (E 0) m) : ToR Try.prog E 45 (E 0) m := by
  intro F n nb W a cap hm hf hn ht hs
  have hmk := run_make_TypeS n (by omega)
  have HR := hide (Rd.start hf hs)
  have HM := hide hm
  clear hf hs hm
  go_enter Try.func45, Try.ntmps45
  go_wp2_with fail
  clear hmk
  have HI : Hid (ToI (E 0) n F W 0 F .nil .nil (W.alloc (.cells (madeCells #[.int .i64 0, .int .i64 0, .string ⟨#[]⟩, .slice none 0 0] (n * 4)) 29))) := ToI.start _ _ (size_madeCells _ _)
  have HR0 := hide (HR.out.below (below_alloc1 W (.cells (madeCells #[.int .i64 0, .int .i64 0, .string ⟨#[]⟩, .slice none 0 0] (n * 4)) 29)) hn)
  skip
  generalize W.alloc (.cells (madeCells #[.int .i64 0, .int .i64 0, .string ⟨#[]⟩, .slice none 0 0] (n * 4)) 29) = W0 at *
  go_loopw [4] (fun s4 wr => ∃ (i : Nat) (r Fp Gp : Fo), s4 = .int .i64 i ∧ i ≤ n ∧ Hid (ToI (E 0) n F W i r Fp Gp wr) ∧ Hid (Rd E (E 0) n nb a i r wr)) (fun s4 _ => n - (intOf s4).toNat)
  case atStart => exact ⟨0, F, .nil, .nil, rfl, Nat.zero_le _, HI, HR0⟩
  case round =>
    obtain ⟨i, r, Fp, Gp, rfl, hin, hI, hR⟩ := hrel
    by_cases hi : i < n
    · obtain ⟨x, q, b, o, rfl, hx, rfl, hb, hc, hxs, hR1⟩ := hR.out.next hi (by decide)
      have HR1 := hide hR1
      have hfs := hI.out.eq
      have hzs : x.size ≤ F.size ∧ x.wt ≤ F.wt := by rw [← hfs, Fo.app_size, Fo.app_wt, Fo.app_size, Fo.app_wt]; omega
      have hxl : Hid (x.len = 4) := Fit.len hx
      have hws := hI.out.size
      have hbl := hI.out.bel.size
      have hii : (i : Int) < n := by omega
      have hri := hI.out.room
      clear hR hR1 hfs
      have HC := hide (h x nb wr (by have := HM.out; omega) hx (by omega) (by omega) hxs)
      have HBL := hide (And.intro hws hbl)
      clear hws hbl hzs hxs
      have hx' : Fit E x [.i, .i, .t, .s 0] := hx
      obtain ⟨X, hX⟩ : ∃ X, x = X := ⟨_, rfl⟩
      have HXE := hide hX
      rw [hX] at hx'
      clear hX
      obtain ⟨x0, F0, rfl, hx0, hx'⟩ := fit_i hx'
      obtain ⟨x1, F1, rfl, hx1, hx'⟩ := fit_i hx'
      obtain ⟨x2, F2, rfl, hx2, hx'⟩ := fit_t hx'
      obtain ⟨a3, n3, c3, k3, F3, rfl, hf3, hx'⟩ := fit_s hx'
      obtain rfl := fit_nil hx'
      rw [HXE.out] at HC hc
      simp only [Fo.vals] at HC hc
      have p0 : wr.cell? ⟨b, o + i * 4, none⟩ = some (.int .i64 x0) := hc 0 _ rfl
      have p1 : wr.cell? ⟨b, o + i * 4 + 1, none⟩ = some (.int .i64 x1) := hc 1 _ rfl
      have p2 : wr.cell? ⟨b, o + i * 4 + 2, none⟩ = some (.string x2) := hc 2 _ rfl
      have p3 : wr.cell? ⟨b, o + i * 4 + 3, none⟩ = some (.slice a3 n3 c3) := hc 3 _ rfl
      clear hc
      go_wp2_with fail
      refine HC.out.mono ?_
      clear HC
      rintro e w1 ⟨G, rfl, s0, b1, o0⟩
      have HO := hide o0
      have HB1 := hide b1
      have HSG := hide s0
      obtain ⟨G', hG'⟩ : ∃ G', G = G' := ⟨_, rfl⟩
      have HGE := hide hG'
      rw [hG'] at s0 ⊢
      clear hG'
      obtain ⟨u0, rfl, s0_1⟩ := Fo.sim_v s0
      obtain ⟨u1, rfl, s0_2⟩ := Fo.sim_v s0_1
      obtain ⟨u2, rfl, s0_3⟩ := Fo.sim_v s0_2
      obtain ⟨d3, e3, t3, u3, rfl, r3, s0_4⟩ := Fo.sim_s s0_3
      obtain rfl := Fo.sim_nil s0_4
      simp only [Fo.vals]
      have hR2 := hri.below b1 (by have := HBL.out; omega)
      obtain ⟨⟨v0, l0⟩, f0⟩ := hR2 (i * 4) (by show _ < n * 4; omega)
      obtain ⟨⟨v1, l1⟩, f1⟩ := hR2 (i * 4 + 1) (by show _ < n * 4; omega)
      obtain ⟨⟨v2, l2⟩, f2⟩ := hR2 (i * 4 + 2) (by show _ < n * 4; omega)
      obtain ⟨⟨v3, l3⟩, f3⟩ := hR2 (i * 4 + 3) (by show _ < n * 4; omega)
      clear hR2 hri b1 o0
      go_wp2_with fail
      go_roundw
      case rel =>
        refine ⟨i + 1, q, Fp.app x, Gp.app G, by go_num, by omega, ?_, ?_⟩
        · have h1 := hI.out.step (G := G) hi hxl.out HB1.out (by rw [HXE.out]; exact HSG.out) HO.out
          rw [HGE.out] at h1 ⊢
          exact h1
        · have h1 := (HR1.out.below HB1.out (by have := HBL.out; omega)).kept (setL_kept [.int .i64 x0, .int .i64 x1, .string x2, .slice d3 n3 e3] w1 W.heap.size (i * 4)) (by have := HBL.out; have := HB1.out.size; omega) (fun c hc => by show c ≠ _; omega)
          exact h1
      case measure => simp [intOf]; omega
    · obtain ⟨rfl, rfl⟩ := hR.out.done hi
      have h1 := hide (hI.out.finish (by omega))
      clear hR hI
      go_wp2_with fail
      go_ret
      exact ⟨W.heap.size, Gp, rfl, h1.out.1, h1.out.2.1, h1.out.2.2⟩

theorem to_both_Type : ∀ m, ToC Try.prog E 11 (E 0) m ∧ ToR Try.prog E 45 (E 0) m
  | 0 => have c : ToC Try.prog E 11 (E 0) 0 := (fun F _ _ hm hf => absurd (Fit.len hf) (by have := F.len_le; show ¬ F.len = 4; omega)); ⟨c, to_R_TypeS_of 0 c⟩
  | m + 1 => have c := to_C_Type m (to_both_Type m).2; ⟨c, to_R_TypeS_of (m + 1) c⟩
theorem to_R_TypeS (m : Nat) : ToR Try.prog E 45 (E 0) m := (to_both_Type m).2
theorem to_C_Type_all (m : Nat) : ToC Try.prog E 11 (E 0) m := (to_both_Type m).1
end Go.Proofs.Ytjlefdalobgdfaa.U

namespace Go.Proofs.Ytjlefdalobgdfaa.U
open Go.RowKit Go.Joins

set_option maxHeartbeats 2000000 in
set_option maxRecDepth 100000 in
theorem to_C_Bind (m : Nat) : ToC Try.prog E 56 (E 1) m := by
  intro F nb W hm hf hn h1 hs
  replace hf : Fit E F [.i, .i, .i, .t, .s 0] := hf
  obtain ⟨x0, F0, rfl, hx0, hf⟩ := fit_i hf
  obtain ⟨x1, F1, rfl, hx1, hf⟩ := fit_i hf
  obtain ⟨x2, F2, rfl, hx2, hf⟩ := fit_i hf
  obtain ⟨x3, F3, rfl, hx3, hf⟩ := fit_t hf
  obtain ⟨a4, n4, c4, k4, F4, rfl, hf4, hf⟩ := fit_s hf
  obtain rfl := fit_nil hf
  obtain ⟨hs4, -⟩ := hs
  simp only [Fo.size] at hm
  simp only [Fo.wt, textSize] at h1
  simp only [Fo.vals]
  have HS4 : Hid (Fo.Sub W (fun c => c < nb) a4 n4 c4 k4) := hs4
  clear hs4
  obtain ⟨V0, hV0⟩ : ∃ V0, ((W.alloc (.cells #[.int .i64 x0, .int .i64 x1, .int .i64 x2, .string x3, .slice a4 n4 c4] 88)).alloc (.cells #[.int .i64 0, .int .i64 0, .int .i64 0, .string ⟨#[]⟩, .slice none 0 0] 92)).alloc (.cells #[.int .i64 x0, .int .i64 0, .int .i64 0, .string ⟨#[]⟩, .slice none 0 0] 92) = V0 := ⟨_, rfl⟩
  have b0 : Below W.heap.size W V0 := by rw [← hV0]; exact below_alloc3 _ _ _ _
  have z0 : V0.heap.size = W.heap.size + 1 + 1 + 1 := by rw [← hV0]; simp
  have q1 : Bx V0 W.heap.size [.int .i64 x0, .int .i64 x1, .int .i64 x2, .string x3, .slice a4 n4 c4] := by
    rw [← hV0]
    exact (Bx.new _ _ _).kept ((Kept.alloc (fun _ => True) _ _).trans (Kept.alloc _ _ _)) trivial
  have q2 : Bx V0 (W.heap.size + 1) [.int .i64 0, .int .i64 0, .int .i64 0, .string ⟨#[]⟩, .slice none 0 0] := by
    rw [← hV0]
    have := (Bx.new (W.alloc (.cells #[.int .i64 x0, .int .i64 x1, .int .i64 x2, .string x3, .slice a4 n4 c4] 88)) [.int .i64 0, .int .i64 0, .int .i64 0, .string ⟨#[]⟩, .slice none 0 0] 92).kept (Kept.alloc (fun _ => True) _ (.cells #[.int .i64 x0, .int .i64 0, .int .i64 0, .string ⟨#[]⟩, .slice none 0 0] 92)) trivial
    rwa [World.size_alloc] at this
  have q3 : Bx V0 (W.heap.size + 1 + 1) [.int .i64 x0, .int .i64 0, .int .i64 0, .string ⟨#[]⟩, .slice none 0 0] := by
    rw [← hV0]
    have := Bx.new ((W.alloc (.cells #[.int .i64 x0, .int .i64 x1, .int .i64 x2, .string x3, .slice a4 n4 c4] 88)).alloc (.cells #[.int .i64 0, .int .i64 0, .int .i64 0, .string ⟨#[]⟩, .slice none 0 0] 92)) [.int .i64 x0, .int .i64 0, .int .i64 0, .string ⟨#[]⟩, .slice none 0 0] 92
    rwa [World.size_alloc, World.size_alloc] at this
  have HV0 := hide hV0
  clear hV0
  have HB0 := hide b0
  have HZ0 := hide z0
  have HQ10 := hide q1
  have HQ20 := hide q2
  have HQ30 := hide q3
  clear b0 z0 q1 q2 q3
  go_enter Try.func56, Try.ntmps56
  go_wp2_with fail
  rw [HV0.out]
  clear HV0
  have HC1 := to_C_Type_all m (.v (.int .i64 x1) (.v (.int .i64 x2) (.v (.string x3) (.s a4 n4 c4 k4 .nil)))) nb V0 (by simp only [Fo.size]; omega) ⟨hx1, hx2, hx3, hf4, trivial⟩ (by have := HB0.out.size; omega) (by simp only [Fo.wt, textSize]; omega) ⟨(HS4.out.below HB0.out (fun c hc => by omega)), trivial⟩
  simp only [Fo.vals] at HC1
  refine HC1.mono ?_
  clear HC1
  rintro e w1 ⟨g1, rfl, s1, b1, o1⟩
  obtain ⟨u1, rfl, s1_1⟩ := Fo.sim_v s1
  obtain ⟨u2, rfl, s1_2⟩ := Fo.sim_v s1_1
  obtain ⟨u3, rfl, s1_3⟩ := Fo.sim_v s1_2
  obtain ⟨d4, e4, t4, u4, rfl, r4, s1_4⟩ := Fo.sim_s s1_3
  obtain rfl := Fo.sim_nil s1_4
  simp only [Fo.vals]
  have z1 := b1.size
  have Q1 := HQ10.out.below b1
  have Q2 := HQ20.out.below b1
  have Q3 := HQ30.out.below b1
  have HO1 := hide o1
  have HBe1 := hide b1
  have l10 : w1.cell? ⟨W.heap.size + 1 + 1, 0, none⟩ = some (.int .i64 x0) := Q3.cel 0 _ rfl
  have f10 := Q3.live 0
  have m10 : w1.cell? ⟨W.heap.size + 1, 0, none⟩ = some (.int .i64 0) := Q2.cel 0 _ rfl
  have v10 := Q2.live 0
  have l11 : w1.cell? ⟨W.heap.size + 1 + 1, 1, none⟩ = some (.int .i64 0) := Q3.cel 1 _ rfl
  have f11 := Q3.live 1
  have m11 : w1.cell? ⟨W.heap.size + 1, 1, none⟩ = some (.int .i64 0) := Q2.cel 1 _ rfl
  have v11 := Q2.live 1
  have l12 : w1.cell? ⟨W.heap.size + 1 + 1, 2, none⟩ = some (.int .i64 0) := Q3.cel 2 _ rfl
  have f12 := Q3.live 2
  have m12 : w1.cell? ⟨W.heap.size + 1, 2, none⟩ = some (.int .i64 0) := Q2.cel 2 _ rfl
  have v12 := Q2.live 2
  have l13 : w1.cell? ⟨W.heap.size + 1 + 1, 3, none⟩ = some (.string ⟨#[]⟩) := Q3.cel 3 _ rfl
  have f13 := Q3.live 3
  have m13 : w1.cell? ⟨W.heap.size + 1, 3, none⟩ = some (.string ⟨#[]⟩) := Q2.cel 3 _ rfl
  have v13 := Q2.live 3
  have l14 : w1.cell? ⟨W.heap.size + 1 + 1, 4, none⟩ = some (.slice none 0 0) := Q3.cel 4 _ rfl
  have f14 := Q3.live 4
  have m14 : w1.cell? ⟨W.heap.size + 1, 4, none⟩ = some (.slice none 0 0) := Q2.cel 4 _ rfl
  have v14 := Q2.live 4
  have Hz1 := hide z1
  clear z1 Q1 Q2 Q3 o1 b1
  go_wp2_with fail
  have hz0 := HZ0.out
  refine bodyPost_ret (v := .agg #[.int .i64 x0, .int .i64 x1, .int .i64 x2, .string x3, .slice d4 n4 e4]) (by simp [results, Try.results56, go_sem, m10, m11, m12, m13, m14]) rfl ⟨(.v (.int .i64 x0) (.v (.int .i64 x1) (.v (.int .i64 x2) (.v (.string x3) (.s d4 n4 e4 t4 .nil))))), rfl, ⟨rfl, rfl, rfl, rfl, rfl, r4, trivial⟩, ?_⟩
  refine (fun (V : World) (kV : Kept (fun c => c ≠ W.heap.size + 1 ∧ c ≠ W.heap.size + 1 + 1) w1 V) => (?_ : Below W.heap.size W V ∧ Own W.heap.size V (.v (.int .i64 x0) (.v (.int .i64 x1) (.v (.int .i64 x2) (.v (.string x3) (.s d4 n4 e4 t4 .nil))))))) _ ?_
  · have hbz := HB0.out.size
    have hzl := Hz1.out
    have Bl := HB0.out.trans (HBe1.out.mono hbz)
    refine ⟨Below.kept Bl kV (fun c hc => by omega) (Nat.le_refl _), ?_⟩
    have R1 : Own V0.heap.size w1 (.v (.int .i64 x1) (.v (.int .i64 x2) (.v (.string x3) (.s d4 n4 e4 t4 .nil)))) := HO1.out
    exact Own.mono (show Own V0.heap.size V (.v (.int .i64 x0) (.v (.int .i64 x1) (.v (.int .i64 x2) (.v (.string x3) (.s d4 n4 e4 t4 .nil))))) from (R1.kept kV (fun c hc _ => by omega)).v _) (by omega)
  · repeat first | (with_reducible refine Kept.set ?_ (by simp)) | with_reducible exact Kept.refl _ _

theorem Try.info92 : (Try.prog.info? 92).map (fun i => (i.zero, i.size, i.bytes)) = some (some (.agg #[.int .i64 0, .int .i64 0, .int .i64 0, .string ⟨#[]⟩, .slice none 0 0]), 5, 64) := by kernel_rfl
theorem run_make_BindS (n : Nat) (hn : n ≤ 1048576) (w : World) :
    (Instr.makeSlice 42 (.int .i64 (n : Int)) (.int .i64 (n : Int))).run Try.prog w = .ok (.slice (some ⟨w.heap.size, 0, none⟩) n n) (w.alloc (.cells (madeCells (Value.cells (.agg #[.int .i64 0, .int .i64 0, .int .i64 0, .string ⟨#[]⟩, .slice none 0 0])) (n * 5)) 92)) := by
  obtain ⟨i, hi, hzz⟩ := Option.map_eq_some_iff.1 Try.info92
  simp only [Prod.mk.injEq] at hzz
  obtain ⟨hz, hs, hb⟩ := hzz
  have hr := run_make (P := Try.prog) w 42 92 i _ Try.underlying42 hi hz .i64 .i64 n n (by omega) (Int.le_refl _) (by rw [hb]; omega) (by omega)
  simp only [Int.toNat_natCast, hs] at hr
  exact hr
set_option maxHeartbeats 2000000 in
set_option maxRecDepth 100000 in
theorem to_R_BindS_of (m : Nat) (h : ToC Try.prog E 56 (E 1) m) : ToR Try.prog E 24 (E 1) m := by
  intro F n nb W a cap hm hf hn ht hs
  have hmk := run_make_BindS n (by omega)
  have HR := hide (Rd.start hf hs)
  have HM := hide hm
  clear hf hs hm
  go_enter Try.func24, Try.ntmps24
  go_wp2_with fail
  clear hmk
  have HI : Hid (ToI (E 1) n F W 0 F .nil .nil (W.alloc (.cells (madeCells #[.int .i64 0, .int .i64 0, .int .i64 0, .string ⟨#[]⟩, .slice none 0 0] (n * 5)) 92))) := ToI.start _ _ (size_madeCells _ _)
  have HR0 := hide (HR.out.below (below_alloc1 W (.cells (madeCells #[.int .i64 0, .int .i64 0, .int .i64 0, .string ⟨#[]⟩, .slice none 0 0] (n * 5)) 92)) hn)
  skip
  generalize W.alloc (.cells (madeCells #[.int .i64 0, .int .i64 0, .int .i64 0, .string ⟨#[]⟩, .slice none 0 0] (n * 5)) 92) = W0 at *
  go_loopw [4] (fun s4 wr => ∃ (i : Nat) (r Fp Gp : Fo), s4 = .int .i64 i ∧ i ≤ n ∧ Hid (ToI (E 1) n F W i r Fp Gp wr) ∧ Hid (Rd E (E 1) n nb a i r wr)) (fun s4 _ => n - (intOf s4).toNat)
  case atStart => exact ⟨0, F, .nil, .nil, rfl, Nat.zero_le _, HI, HR0⟩
  case round =>
    obtain ⟨i, r, Fp, Gp, rfl, hin, hI, hR⟩ := hrel
    by_cases hi : i < n
    · obtain ⟨x, q, b, o, rfl, hx, rfl, hb, hc, hxs, hR1⟩ := hR.out.next hi (by decide)
      have HR1 := hide hR1
      have hfs := hI.out.eq
      have hzs : x.size ≤ F.size ∧ x.wt ≤ F.wt := by rw [← hfs, Fo.app_size, Fo.app_wt, Fo.app_size, Fo.app_wt]; omega
      have hxl : Hid (x.len = 5) := Fit.len hx
      have hws := hI.out.size
      have hbl := hI.out.bel.size
      have hii : (i : Int) < n := by omega
      have hri := hI.out.room
      clear hR hR1 hfs
      have HC := hide (h x nb wr (by have := HM.out; omega) hx (by omega) (by omega) hxs)
      have HBL := hide (And.intro hws hbl)
      clear hws hbl hzs hxs
      have hx' : Fit E x [.i, .i, .i, .t, .s 0] := hx
      obtain ⟨X, hX⟩ : ∃ X, x = X := ⟨_, rfl⟩
      have HXE := hide hX
      rw [hX] at hx'
      clear hX
      obtain ⟨x0, F0, rfl, hx0, hx'⟩ := fit_i hx'
      obtain ⟨x1, F1, rfl, hx1, hx'⟩ := fit_i hx'
      obtain ⟨x2, F2, rfl, hx2, hx'⟩ := fit_i hx'
      obtain ⟨x3, F3, rfl, hx3, hx'⟩ := fit_t hx'
      obtain ⟨a4, n4, c4, k4, F4, rfl, hf4, hx'⟩ := fit_s hx'
      obtain rfl := fit_nil hx'
      rw [HXE.out] at HC hc
      simp only [Fo.vals] at HC hc
      have p0 : wr.cell? ⟨b, o + i * 5, none⟩ = some (.int .i64 x0) := hc 0 _ rfl
      have p1 : wr.cell? ⟨b, o + i * 5 + 1, none⟩ = some (.int .i64 x1) := hc 1 _ rfl
      have p2 : wr.cell? ⟨b, o + i * 5 + 2, none⟩ = some (.int .i64 x2) := hc 2 _ rfl
      have p3 : wr.cell? ⟨b, o + i * 5 + 3, none⟩ = some (.string x3) := hc 3 _ rfl
      have p4 : wr.cell? ⟨b, o + i * 5 + 4, none⟩ = some (.slice a4 n4 c4) := hc 4 _ rfl
      clear hc
      go_wp2_with fail
      refine HC.out.mono ?_
      clear HC
      rintro e w1 ⟨G, rfl, s0, b1, o0⟩
      have HO := hide o0
      have HB1 := hide b1
      have HSG := hide s0
      obtain ⟨G', hG'⟩ : ∃ G', G = G' := ⟨_, rfl⟩
      have HGE := hide hG'
      rw [hG'] at s0 ⊢
      clear hG'
      obtain ⟨u0, rfl, s0_1⟩ := Fo.sim_v s0
      obtain ⟨u1, rfl, s0_2⟩ := Fo.sim_v s0_1
      obtain ⟨u2, rfl, s0_3⟩ := Fo.sim_v s0_2
      obtain ⟨u3, rfl, s0_4⟩ := Fo.sim_v s0_3
      obtain ⟨d4, e4, t4, u4, rfl, r4, s0_5⟩ := Fo.sim_s s0_4
      obtain rfl := Fo.sim_nil s0_5
      simp only [Fo.vals]
      have hR2 := hri.below b1 (by have := HBL.out; omega)
      obtain ⟨⟨v0, l0⟩, f0⟩ := hR2 (i * 5) (by show _ < n * 5; omega)
      obtain ⟨⟨v1, l1⟩, f1⟩ := hR2 (i * 5 + 1) (by show _ < n * 5; omega)
      obtain ⟨⟨v2, l2⟩, f2⟩ := hR2 (i * 5 + 2) (by show _ < n * 5; omega)
      obtain ⟨⟨v3, l3⟩, f3⟩ := hR2 (i * 5 + 3) (by show _ < n * 5; omega)
      obtain ⟨⟨v4, l4⟩, f4⟩ := hR2 (i * 5 + 4) (by show _ < n * 5; omega)
      clear hR2 hri b1 o0
      go_wp2_with fail
      go_roundw
      case rel =>
        refine ⟨i + 1, q, Fp.app x, Gp.app G, by go_num, by omega, ?_, ?_⟩
        · have h1 := hI.out.step (G := G) hi hxl.out HB1.out (by rw [HXE.out]; exact HSG.out) HO.out
          rw [HGE.out] at h1 ⊢
          exact h1
        · have h1 := (HR1.out.below HB1.out (by have := HBL.out; omega)).kept (setL_kept [.int .i64 x0, .int .i64 x1, .int .i64 x2, .string x3, .slice d4 n4 e4] w1 W.heap.size (i * 5)) (by have := HBL.out; have := HB1.out.size; omega) (fun c hc => by show c ≠ _; omega)
          exact h1
      case measure => simp [intOf]; omega
    · obtain ⟨rfl, rfl⟩ := hR.out.done hi
      have h1 := hide (hI.out.finish (by omega))
      clear hR hI
      go_wp2_with fail
      go_ret
      exact ⟨W.heap.size, Gp, rfl, h1.out.1, h1.out.2.1, h1.out.2.2⟩

theorem to_R_BindS (m : Nat) : ToR Try.prog E 24 (E 1) m := to_R_BindS_of m (to_C_Bind m)
end Go.Proofs.Ytjlefdalobgdfaa.U
