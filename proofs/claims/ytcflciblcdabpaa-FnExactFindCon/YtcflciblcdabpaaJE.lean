import Derived.Test.YtcflciblcdabpaaKa
namespace Go.Proofs.Ytcflciblcdabpaa
open Go.RowKit Go.Joins

theorem Try.info9 : (Try.prog.info? 9).map (fun i => (i.zero, i.size, i.bytes)) = some (some (.string ⟨#[]⟩), 1, 16) := by kernel_rfl
theorem run_make_StringS (n : Nat) (hn : n ≤ 1048576) (w : World) :
    (Instr.makeSlice 81 (.int .i64 (n : Int)) (.int .i64 (n : Int))).run Try.prog w = .ok (.slice (some ⟨w.heap.size, 0, none⟩) n n) (w.alloc (.cells (madeCells (Value.cells (.string ⟨#[]⟩)) (n * 1)) 9)) := by
  obtain ⟨i, hi, hzz⟩ := Option.map_eq_some_iff.1 Try.info9
  simp only [Prod.mk.injEq] at hzz
  obtain ⟨hz, hs, hb⟩ := hzz
  have hr := run_make (P := Try.prog) w 81 9 i _ Try.underlying81 hi hz .i64 .i64 n n (by omega) (Int.le_refl _) (by rw [hb]; omega) (by omega)
  simp only [Int.toNat_natCast, hs] at hr
  exact hr
set_option maxHeartbeats 2000000 in
set_option maxRecDepth 100000 in
theorem to_R_StringS (m : Nat) : ToR Try.prog E 67 (E 0) m := by
  intro F n nb W a cap hm hf hn ht hs
  have hmk := run_make_StringS n (by omega)
  have HR := hide (Rd.start hf hs)
  have HM := hide hm
  clear hf hs hm
  go_enter Try.func67, Try.ntmps67
  go_wp2_with fail
  clear hmk
  have HI : Hid (ToI (E 0) n F W 0 F .nil .nil (W.alloc (.cells (madeCells #[.string ⟨#[]⟩] (n * 1)) 9))) := ToI.start _ _ (size_madeCells _ _)
  have HR0 := hide (HR.out.below (below_alloc1 W (.cells (madeCells #[.string ⟨#[]⟩] (n * 1)) 9)) hn)
  rw [Nat.mul_one] at *
  generalize W.alloc (.cells (madeCells #[.string ⟨#[]⟩] n) 9) = W0 at *
  go_loopw [4] (fun s4 wr => ∃ (i : Nat) (r Fp Gp : Fo), s4 = .int .i64 i ∧ i ≤ n ∧ Hid (ToI (E 0) n F W i r Fp Gp wr) ∧ Hid (Rd E (E 0) n nb a i r wr)) (fun s4 _ => n - (intOf s4).toNat)
  case atStart => exact ⟨0, F, .nil, .nil, rfl, Nat.zero_le _, HI, HR0⟩
  case round =>
    obtain ⟨i, r, Fp, Gp, rfl, hin, hI, hR⟩ := hrel
    by_cases hi : i < n
    · obtain ⟨x, q, b, o, rfl, hx, rfl, hb, hc, hxs, hR1⟩ := hR.out.next hi (by decide)
      have HR1 := hide hR1
      have hfs := hI.out.eq
      have hzs : x.size ≤ F.size ∧ x.wt ≤ F.wt := by rw [← hfs, Fo.app_size, Fo.app_wt, Fo.app_size, Fo.app_wt]; omega
      have hxl : Hid (x.len = 1) := Fit.len hx
      have hws := hI.out.size
      have hbl := hI.out.bel.size
      have hii : (i : Int) < n := by omega
      have hri := hI.out.room
      clear hR hR1 hfs
      replace hx : Fit E x [.t] := hx
      obtain ⟨x0, F0, rfl, hx0, hx⟩ := fit_t hx
      obtain rfl := fit_nil hx
      have p0 : wr.cell? ⟨b, o + i * 1, none⟩ = some (.string x0) := hc 0 _ rfl
      rw [Nat.mul_one] at p0
      obtain ⟨⟨v0, l0⟩, f0⟩ := hri i (by show _ < n * 1; omega)
      have HBL := hide (And.intro hws hbl)
      clear hc hxs hri hws hbl hzs
      go_wp2_with fail
      go_roundw
      case rel =>
        refine ⟨i + 1, q, Fp.app (.v (.string x0) .nil), Gp.app (.v (.string x0) .nil), by go_num, by omega, ?_, ?_⟩
        · have h1 := hI.out.step (G := .v (.string x0) .nil) hi hxl.out (Below.refl _ _) ⟨rfl, trivial⟩ ⟨trivial, List.nodup_nil, fun _ hc => by simp [Fo.inn] at hc⟩
          have e3 : i * (E 0).length = i := Nat.mul_one i
          rw [e3] at h1
          exact h1
        · exact HR1.out.kept (setL_kept [.string x0] wr W.heap.size i) (by have := HBL.out; omega) (fun c hc => by show c ≠ _; omega)
      case measure => simp [intOf]; omega
    · obtain ⟨rfl, rfl⟩ := hR.out.done hi
      have h1 := hide (hI.out.finish (by omega))
      clear hR hI
      go_wp2_with fail
      go_ret
      exact ⟨W.heap.size, Gp, rfl, h1.out.1, h1.out.2.1, h1.out.2.2⟩

end Go.Proofs.Ytcflciblcdabpaa

namespace Go.Proofs.Ytcflciblcdabpaa
open Go.RowKit Go.Joins

set_option maxHeartbeats 2000000 in
set_option maxRecDepth 100000 in
theorem to_C_DataInfo (m : Nat) : ToC Try.prog E 47 (E 4) m := by
  intro F nb W hm hf hn h1 hs
  replace hf : Fit E F [.t, .i, .s 0] := hf
  obtain ⟨x0, F0, rfl, hx0, hf⟩ := fit_t hf
  obtain ⟨x1, F1, rfl, hx1, hf⟩ := fit_i hf
  obtain ⟨a2, n2, c2, k2, F2, rfl, hf2, hf⟩ := fit_s hf
  obtain rfl := fit_nil hf
  obtain ⟨hs2, -⟩ := hs
  simp only [Fo.size] at hm
  simp only [Fo.wt, textSize] at h1
  simp only [Fo.vals]
  have HS2 : Hid (Fo.Sub W (fun c => c < nb) a2 n2 c2 k2) := hs2
  clear hs2
  obtain ⟨V0, hV0⟩ : ∃ V0, ((W.alloc (.cells #[.string x0, .int .i64 x1, .slice a2 n2 c2] 83)).alloc (.cells #[.string ⟨#[]⟩, .int .i64 0, .slice none 0 0] 99)).alloc (.cells #[.string x0, .int .i64 x1, .slice none 0 0] 99) = V0 := ⟨_, rfl⟩
  have b0 : Below W.heap.size W V0 := by rw [← hV0]; exact below_alloc3 _ _ _ _
  have z0 : V0.heap.size = W.heap.size + 1 + 1 + 1 := by rw [← hV0]; simp
  have q1 : Bx V0 W.heap.size [.string x0, .int .i64 x1, .slice a2 n2 c2] := by
    rw [← hV0]
    exact (Bx.new _ _ _).kept ((Kept.alloc (fun _ => True) _ _).trans (Kept.alloc _ _ _)) trivial
  have q2 : Bx V0 (W.heap.size + 1) [.string ⟨#[]⟩, .int .i64 0, .slice none 0 0] := by
    rw [← hV0]
    have := (Bx.new (W.alloc (.cells #[.string x0, .int .i64 x1, .slice a2 n2 c2] 83)) [.string ⟨#[]⟩, .int .i64 0, .slice none 0 0] 99).kept (Kept.alloc (fun _ => True) _ (.cells #[.string x0, .int .i64 x1, .slice none 0 0] 99)) trivial
    rwa [World.size_alloc] at this
  have q3 : Bx V0 (W.heap.size + 1 + 1) [.string x0, .int .i64 x1, .slice none 0 0] := by
    rw [← hV0]
    have := Bx.new ((W.alloc (.cells #[.string x0, .int .i64 x1, .slice a2 n2 c2] 83)).alloc (.cells #[.string ⟨#[]⟩, .int .i64 0, .slice none 0 0] 99)) [.string x0, .int .i64 x1, .slice none 0 0] 99
    rwa [World.size_alloc, World.size_alloc] at this
  have HV0 := hide hV0
  clear hV0
  have HB0 := hide b0
  have HZ0 := hide z0
  have HQ10 := hide q1
  have HQ20 := hide q2
  have HQ30 := hide q3
  clear b0 z0 q1 q2 q3
  go_enter Try.func47, Try.ntmps47
  go_wp2_with fail
  rw [HV0.out]
  clear HV0
  have HC1 := to_R_StringS m k2 n2 nb V0 a2 c2 (by omega) hf2 (by have := HB0.out.size; omega) (by omega) (HS2.out.below HB0.out (fun c hc => by omega))
  refine HC1.mono ?_
  clear HC1
  rintro e w1 ⟨d2, g2, rfl, s2, b1, o2⟩
  have z1 := b1.size
  have Q1 := HQ10.out.below b1
  have Q2 := HQ20.out.below b1
  have Q3 := HQ30.out.below b1
  have HO1 := hide o2
  have HBe1 := hide b1
  have l10 : w1.cell? ⟨W.heap.size + 1 + 1, 0, none⟩ = some (.string x0) := Q3.cel 0 _ rfl
  have f10 := Q3.live 0
  have m10 : w1.cell? ⟨W.heap.size + 1, 0, none⟩ = some (.string ⟨#[]⟩) := Q2.cel 0 _ rfl
  have v10 := Q2.live 0
  have l11 : w1.cell? ⟨W.heap.size + 1 + 1, 1, none⟩ = some (.int .i64 x1) := Q3.cel 1 _ rfl
  have f11 := Q3.live 1
  have m11 : w1.cell? ⟨W.heap.size + 1, 1, none⟩ = some (.int .i64 0) := Q2.cel 1 _ rfl
  have v11 := Q2.live 1
  have l12 : w1.cell? ⟨W.heap.size + 1 + 1, 2, none⟩ = some (.slice none 0 0) := Q3.cel 2 _ rfl
  have f12 := Q3.live 2
  have m12 : w1.cell? ⟨W.heap.size + 1, 2, none⟩ = some (.slice none 0 0) := Q2.cel 2 _ rfl
  have v12 := Q2.live 2
  have Hz1 := hide z1
  clear z1 Q1 Q2 Q3 o2 b1
  go_wp2_with fail
  have hz0 := HZ0.out
  refine bodyPost_ret (v := .agg #[.string x0, .int .i64 x1, .slice (some ⟨d2, 0, none⟩) n2 n2]) (by simp [results, Try.results47, go_sem, m10, m11, m12]) rfl ⟨(.v (.string x0) (.v (.int .i64 x1) (.s (some ⟨d2, 0, none⟩) n2 n2 g2 .nil))), rfl, ⟨rfl, rfl, rfl, s2, trivial⟩, ?_⟩
  refine (fun (V : World) (kV : Kept (fun c => c ≠ W.heap.size + 1 ∧ c ≠ W.heap.size + 1 + 1) w1 V) => (?_ : Below W.heap.size W V ∧ Own W.heap.size V (.v (.string x0) (.v (.int .i64 x1) (.s (some ⟨d2, 0, none⟩) n2 n2 g2 .nil))))) _ ?_
  · have hbz := HB0.out.size
    have hzl := Hz1.out
    have Bl := HB0.out.trans (HBe1.out.mono hbz)
    refine ⟨Below.kept Bl kV (fun c hc => by omega) (Nat.le_refl _), ?_⟩
    have R1 : Own V0.heap.size w1 (.s (some ⟨d2, 0, none⟩) n2 n2 g2 .nil) := HO1.out
    exact Own.mono (show Own V0.heap.size V (.v (.string x0) (.v (.int .i64 x1) (.s (some ⟨d2, 0, none⟩) n2 n2 g2 .nil))) from ((R1.kept kV (fun c hc _ => by omega)).v _).v _) (by omega)
  · repeat first | (with_reducible refine Kept.set ?_ (by simp)) | with_reducible exact Kept.refl _ _

theorem Try.info99 : (Try.prog.info? 99).map (fun i => (i.zero, i.size, i.bytes)) = some (some (.agg #[.string ⟨#[]⟩, .int .i64 0, .slice none 0 0]), 3, 48) := by kernel_rfl
theorem run_make_DataInfoS (n : Nat) (hn : n ≤ 1048576) (w : World) :
    (Instr.makeSlice 35 (.int .i64 (n : Int)) (.int .i64 (n : Int))).run Try.prog w = .ok (.slice (some ⟨w.heap.size, 0, none⟩) n n) (w.alloc (.cells (madeCells (Value.cells (.agg #[.string ⟨#[]⟩, .int .i64 0, .slice none 0 0])) (n * 3)) 99)) := by
  obtain ⟨i, hi, hzz⟩ := Option.map_eq_some_iff.1 Try.info99
  simp only [Prod.mk.injEq] at hzz
  obtain ⟨hz, hs, hb⟩ := hzz
  have hr := run_make (P := Try.prog) w 35 99 i _ Try.underlying35 hi hz .i64 .i64 n n (by omega) (Int.le_refl _) (by rw [hb]; omega) (by omega)
  simp only [Int.toNat_natCast, hs] at hr
  exact hr
set_option maxHeartbeats 2000000 in
set_option maxRecDepth 100000 in
theorem to_R_DataInfoS_of (m : Nat) (h : ToC Try.prog E 47 (E 4) m) : ToR Try.prog E 20 (E 4) m := by
  intro F n nb W a cap hm hf hn ht hs
  have hmk := run_make_DataInfoS n (by omega)
  have HR := hide (Rd.start hf hs)
  have HM := hide hm
  clear hf hs hm
  go_enter Try.func20, Try.ntmps20
  go_wp2_with fail
  clear hmk
  have HI : Hid (ToI (E 4) n F W 0 F .nil .nil (W.alloc (.cells (madeCells #[.string ⟨#[]⟩, .int .i64 0, .slice none 0 0] (n * 3)) 99))) := ToI.start _ _ (size_madeCells _ _)
  have HR0 := hide (HR.out.below (below_alloc1 W (.cells (madeCells #[.string ⟨#[]⟩, .int .i64 0, .slice none 0 0] (n * 3)) 99)) hn)
  skip
  generalize W.alloc (.cells (madeCells #[.string ⟨#[]⟩, .int .i64 0, .slice none 0 0] (n * 3)) 99) = W0 at *
  go_loopw [4] (fun s4 wr => ∃ (i : Nat) (r Fp Gp : Fo), s4 = .int .i64 i ∧ i ≤ n ∧ Hid (ToI (E 4) n F W i r Fp Gp wr) ∧ Hid (Rd E (E 4) n nb a i r wr)) (fun s4 _ => n - (intOf s4).toNat)
  case atStart => exact ⟨0, F, .nil, .nil, rfl, Nat.zero_le _, HI, HR0⟩
  case round =>
    obtain ⟨i, r, Fp, Gp, rfl, hin, hI, hR⟩ := hrel
    by_cases hi : i < n
    · obtain ⟨x, q, b, o, rfl, hx, rfl, hb, hc, hxs, hR1⟩ := hR.out.next hi (by decide)
      have HR1 := hide hR1
      have hfs := hI.out.eq
      have hzs : x.size ≤ F.size ∧ x.wt ≤ F.wt := by rw [← hfs, Fo.app_size, Fo.app_wt, Fo.app_size, Fo.app_wt]; omega
      have hxl : Hid (x.len = 3) := Fit.len hx
      have hws := hI.out.size
      have hbl := hI.out.bel.size
      have hii : (i : Int) < n := by omega
      have hri := hI.out.room
      clear hR hR1 hfs
      have HC := hide (h x nb wr (by have := HM.out; omega) hx (by omega) (by omega) hxs)
      have HBL := hide (And.intro hws hbl)
      clear hws hbl hzs hxs
      have hx' : Fit E x [.t, .i, .s 0] := hx
      obtain ⟨X, hX⟩ : ∃ X, x = X := ⟨_, rfl⟩
      have HXE := hide hX
      rw [hX] at hx'
      clear hX
      obtain ⟨x0, F0, rfl, hx0, hx'⟩ := fit_t hx'
      obtain ⟨x1, F1, rfl, hx1, hx'⟩ := fit_i hx'
      obtain ⟨a2, n2, c2, k2, F2, rfl, hf2, hx'⟩ := fit_s hx'
      obtain rfl := fit_nil hx'
      rw [HXE.out] at HC hc
      simp only [Fo.vals] at HC hc
      have p0 : wr.cell? ⟨b, o + i * 3, none⟩ = some (.string x0) := hc 0 _ rfl
      have p1 : wr.cell? ⟨b, o + i * 3 + 1, none⟩ = some (.int .i64 x1) := hc 1 _ rfl
      have p2 : wr.cell? ⟨b, o + i * 3 + 2, none⟩ = some (.slice a2 n2 c2) := hc 2 _ rfl
      clear hc
      go_wp2_with fail
      refine HC.out.mono ?_
      clear HC
      rintro e w1 ⟨G, rfl, s0, b1, o0⟩
      have HO := hide o0
      have HB1 := hide b1
      have HSG := hide s0
      obtain ⟨G', hG'⟩ : ∃ G', G = G' := ⟨_, rfl⟩
      have HGE := hide hG'
      rw [hG'] at s0 ⊢
      clear hG'
      obtain ⟨u0, rfl, s0_1⟩ := Fo.sim_v s0
      obtain ⟨u1, rfl, s0_2⟩ := Fo.sim_v s0_1
      obtain ⟨d2, e2, t2, u2, rfl, r2, s0_3⟩ := Fo.sim_s s0_2
      obtain rfl := Fo.sim_nil s0_3
      simp only [Fo.vals]
      have hR2 := hri.below b1 (by have := HBL.out; omega)
      obtain ⟨⟨v0, l0⟩, f0⟩ := hR2 (i * 3) (by show _ < n * 3; omega)
      obtain ⟨⟨v1, l1⟩, f1⟩ := hR2 (i * 3 + 1) (by show _ < n * 3; omega)
      obtain ⟨⟨v2, l2⟩, f2⟩ := hR2 (i * 3 + 2) (by show _ < n * 3; omega)
      clear hR2 hri b1 o0
      go_wp2_with fail
      go_roundw
      case rel =>
        refine ⟨i + 1, q, Fp.app x, Gp.app G, by go_num, by omega, ?_, ?_⟩
        · have h1 := hI.out.step (G := G) hi hxl.out HB1.out (by rw [HXE.out]; exact HSG.out) HO.out
          rw [HGE.out] at h1 ⊢
          exact h1
        · have h1 := (HR1.out.below HB1.out (by have := HBL.out; omega)).kept (setL_kept [.string x0, .int .i64 x1, .slice d2 n2 e2] w1 W.heap.size (i * 3)) (by have := HBL.out; have := HB1.out.size; omega) (fun c hc => by show c ≠ _; omega)
          exact h1
      case measure => simp [intOf]; omega
    · obtain ⟨rfl, rfl⟩ := hR.out.done hi
      have h1 := hide (hI.out.finish (by omega))
      clear hR hI
      go_wp2_with fail
      go_ret
      exact ⟨W.heap.size, Gp, rfl, h1.out.1, h1.out.2.1, h1.out.2.2⟩

theorem to_R_DataInfoS (m : Nat) : ToR Try.prog E 20 (E 4) m := to_R_DataInfoS_of m (to_C_DataInfo m)
end Go.Proofs.Ytcflciblcdabpaa
