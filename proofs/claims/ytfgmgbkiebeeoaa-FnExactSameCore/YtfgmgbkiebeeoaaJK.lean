import Derived.Test.YtfgmgbkiebeeoaaKa
namespace Go.Proofs.Ytfgmgbkiebeeoaa
open Go.RowKit Go.Joins

theorem Try.info9 : (Try.prog.info? 9).map (fun i => (i.zero, i.size, i.bytes)) = some (some (.string ⟨#[]⟩), 1, 16) := by kernel_rfl
theorem run_make_StringS (n : Nat) (hn : n ≤ 1048576) (w : World) :
    (Instr.makeSlice 25 (.int .i64 (n : Int)) (.int .i64 (n : Int))).run Try.prog w = .ok (.slice (some ⟨w.heap.size, 0, none⟩) n n) (w.alloc (.cells (madeCells (Value.cells (.string ⟨#[]⟩)) (n * 1)) 9)) := by
  obtain ⟨i, hi, hzz⟩ := Option.map_eq_some_iff.1 Try.info9
  simp only [Prod.mk.injEq] at hzz
  obtain ⟨hz, hs, hb⟩ := hzz
  have hr := run_make (P := Try.prog) w 25 9 i _ Try.underlying25 hi hz .i64 .i64 n n (by omega) (Int.le_refl _) (by rw [hb]; omega) (by omega)
  simp only [Int.toNat_natCast, hs] at hr
  exact hr
set_option maxHeartbeats 2000000 in
set_option maxRecDepth 100000 in
theorem to_R_StringS (m : Nat) : ToR Try.prog E 17 (E 1) m := by
  intro F n nb W a cap hm hf hn ht hs
  have hmk := run_make_StringS n (by omega)
  have HR := hide (Rd.start hf hs)
  have HM := hide hm
  clear hf hs hm
  go_enter Try.func17, Try.ntmps17
  go_wp2_with fail
  clear hmk
  have HI : Hid (ToI (E 1) n F W 0 F .nil .nil (W.alloc (.cells (madeCells #[.string ⟨#[]⟩] (n * 1)) 9))) := ToI.start _ _ (size_madeCells _ _)
  have HR0 := hide (HR.out.below (below_alloc1 W (.cells (madeCells #[.string ⟨#[]⟩] (n * 1)) 9)) hn)
  rw [Nat.mul_one] at *
  generalize W.alloc (.cells (madeCells #[.string ⟨#[]⟩] n) 9) = W0 at *
  go_loopw [4] (fun s4 wr => ∃ (i : Nat) (r Fp Gp : Fo), s4 = .int .i64 i ∧ i ≤ n ∧ Hid (ToI (E 1) n F W i r Fp Gp wr) ∧ Hid (Rd E (E 1) n nb a i r wr)) (fun s4 _ => n - (intOf s4).toNat)
  case atStart => exact ⟨0, F, .nil, .nil, rfl, Nat.zero_le _, HI, HR0⟩
  case round =>
    obtain ⟨i, r, Fp, Gp, rfl, hin, hI, hR⟩ := hrel
    by_cases hi : i < n
    · obtain ⟨x, q, b, o, rfl, hx, rfl, hb, hc, hxs, hR1⟩ := hR.out.next hi (by decide)
      have HR1 := hide hR1
      have hfs := hI.out.eq
      have hzs : x.size ≤ F.size ∧ x.wt ≤ F.wt := by rw [← hfs, Fo.app_size, Fo.app_wt, Fo.app_size, Fo.app_wt]; omega
      have hxl : Hid (x.len = 1) := Fit.len hx
      have hws := hI.out.size
      have hbl := hI.out.bel.size
      have hii : (i : Int) < n := by omega
      have hri := hI.out.room
      clear hR hR1 hfs
      replace hx : Fit E x [.t] := hx
      obtain ⟨x0, F0, rfl, hx0, hx⟩ := fit_t hx
      obtain rfl := fit_nil hx
      have p0 : wr.cell? ⟨b, o + i * 1, none⟩ = some (.string x0) := hc 0 _ rfl
      rw [Nat.mul_one] at p0
      obtain ⟨⟨v0, l0⟩, f0⟩ := hri i (by show _ < n * 1; omega)
      have HBL := hide (And.intro hws hbl)
      clear hc hxs hri hws hbl hzs
      go_wp2_with fail
      go_roundw
      case rel =>
        refine ⟨i + 1, q, Fp.app (.v (.string x0) .nil), Gp.app (.v (.string x0) .nil), by go_num, by omega, ?_, ?_⟩
        · have h1 := hI.out.step (G := .v (.string x0) .nil) hi hxl.out (Below.refl _ _) ⟨rfl, trivial⟩ ⟨trivial, List.nodup_nil, fun _ hc => by simp [Fo.inn] at hc⟩
          have e3 : i * (E 1).length = i := Nat.mul_one i
          rw [e3] at h1
          exact h1
        · exact HR1.out.kept (setL_kept [.string x0] wr W.heap.size i) (by have := HBL.out; omega) (fun c hc => by show c ≠ _; omega)
      case measure => simp [intOf]; omega
    · obtain ⟨rfl, rfl⟩ := hR.out.done hi
      have h1 := hide (hI.out.finish (by omega))
      clear hR hI
      go_wp2_with fail
      go_ret
      exact ⟨W.heap.size, Gp, rfl, h1.out.1, h1.out.2.1, h1.out.2.2⟩

end Go.Proofs.Ytfgmgbkiebeeoaa

namespace Go.Proofs.Ytfgmgbkiebeeoaa
open Go.RowKit Go.Joins

theorem Try.info61 : (Try.prog.info? 61).map (fun i => (i.zero, i.size, i.bytes)) = some (some (.int .u32 0), 1, 4) := by kernel_rfl
theorem run_make_Uint32S (n : Nat) (hn : n ≤ 1048576) (w : World) :
    (Instr.makeSlice 22 (.int .i64 (n : Int)) (.int .i64 (n : Int))).run Try.prog w = .ok (.slice (some ⟨w.heap.size, 0, none⟩) n n) (w.alloc (.cells (madeCells (Value.cells (.int .u32 0)) (n * 1)) 61)) := by
  obtain ⟨i, hi, hzz⟩ := Option.map_eq_some_iff.1 Try.info61
  simp only [Prod.mk.injEq] at hzz
  obtain ⟨hz, hs, hb⟩ := hzz
  have hr := run_make (P := Try.prog) w 22 61 i _ Try.underlying22 hi hz .i64 .i64 n n (by omega) (Int.le_refl _) (by rw [hb]; omega) (by omega)
  simp only [Int.toNat_natCast, hs] at hr
  exact hr
set_option maxHeartbeats 2000000 in
set_option maxRecDepth 100000 in
theorem to_R_Uint32S (m : Nat) : ToR Try.prog E 33 (E 0) m := by
  intro F n nb W a cap hm hf hn ht hs
  have hmk := run_make_Uint32S n (by omega)
  have HR := hide (Rd.start hf hs)
  have HM := hide hm
  clear hf hs hm
  go_enter Try.func33, Try.ntmps33
  go_wp2_with fail
  clear hmk
  have HI : Hid (ToI (E 0) n F W 0 F .nil .nil (W.alloc (.cells (madeCells #[.int .u32 0] (n * 1)) 61))) := ToI.start _ _ (size_madeCells _ _)
  have HR0 := hide (HR.out.below (below_alloc1 W (.cells (madeCells #[.int .u32 0] (n * 1)) 61)) hn)
  rw [Nat.mul_one] at *
  generalize W.alloc (.cells (madeCells #[.int .u32 0] n) 61) = W0 at *
  go_loopw [4] (fun s4 wr => ∃ (i : Nat) (r Fp Gp : Fo), s4 = .int .i64 i ∧ i ≤ n ∧ Hid (ToI (E 0) n F W i r Fp Gp wr) ∧ Hid (Rd E (E 0) n nb a i r wr)) (fun s4 _ => n - (intOf s4).toNat)
  case atStart => exact ⟨0, F, .nil, .nil, rfl, Nat.zero_le _, HI, HR0⟩
  case round =>
    obtain ⟨i, r, Fp, Gp, rfl, hin, hI, hR⟩ := hrel
    by_cases hi : i < n
    · obtain ⟨x, q, b, o, rfl, hx, rfl, hb, hc, hxs, hR1⟩ := hR.out.next hi (by decide)
      have HR1 := hide hR1
      have hfs := hI.out.eq
      have hzs : x.size ≤ F.size ∧ x.wt ≤ F.wt := by rw [← hfs, Fo.app_size, Fo.app_wt, Fo.app_size, Fo.app_wt]; omega
      have hxl : Hid (x.len = 1) := Fit.len hx
      have hws := hI.out.size
      have hbl := hI.out.bel.size
      have hii : (i : Int) < n := by omega
      have hri := hI.out.room
      clear hR hR1 hfs
      replace hx : Fit E x [.u] := hx
      obtain ⟨x0, F0, rfl, hx0, hx⟩ := fit_u hx
      obtain rfl := fit_nil hx
      have p0 : wr.cell? ⟨b, o + i * 1, none⟩ = some (.int .u32 x0) := hc 0 _ rfl
      rw [Nat.mul_one] at p0
      obtain ⟨⟨v0, l0⟩, f0⟩ := hri i (by show _ < n * 1; omega)
      have HBL := hide (And.intro hws hbl)
      clear hc hxs hri hws hbl hzs
      go_wp2_with fail
      go_roundw
      case rel =>
        refine ⟨i + 1, q, Fp.app (.v (.int .u32 x0) .nil), Gp.app (.v (.int .u32 x0) .nil), by go_num, by omega, ?_, ?_⟩
        · have h1 := hI.out.step (G := .v (.int .u32 x0) .nil) hi hxl.out (Below.refl _ _) ⟨rfl, trivial⟩ ⟨trivial, List.nodup_nil, fun _ hc => by simp [Fo.inn] at hc⟩
          have e3 : i * (E 0).length = i := Nat.mul_one i
          rw [e3] at h1
          exact h1
        · exact HR1.out.kept (setL_kept [.int .u32 x0] wr W.heap.size i) (by have := HBL.out; omega) (fun c hc => by show c ≠ _; omega)
      case measure => simp [intOf]; omega
    · obtain ⟨rfl, rfl⟩ := hR.out.done hi
      have h1 := hide (hI.out.finish (by omega))
      clear hR hI
      go_wp2_with fail
      go_ret
      exact ⟨W.heap.size, Gp, rfl, h1.out.1, h1.out.2.1, h1.out.2.2⟩

end Go.Proofs.Ytfgmgbkiebeeoaa

namespace Go.Proofs.Ytfgmgbkiebeeoaa
open Go.RowKit Go.Joins

set_option maxHeartbeats 2000000 in
set_option maxRecDepth 100000 in
theorem to_C_Big (m : Nat) : ToC Try.prog E 16 [.b, .s 0] m := by
  intro F nb W hm hf hn h1 hs
  obtain ⟨x0, F0, rfl, hf⟩ := fit_b hf
  obtain ⟨a1, n1, c1, k1, F1, rfl, hf1, hf⟩ := fit_s hf
  obtain rfl := fit_nil hf
  obtain ⟨hs1, -⟩ := hs
  simp only [Fo.size] at hm
  simp only [Fo.wt, textSize] at h1
  simp only [Fo.vals]
  have HS1 : Hid (Fo.Sub W (fun c => c < nb) a1 n1 c1 k1) := hs1
  clear hs1
  obtain ⟨V0, hV0⟩ : ∃ V0, ((W.alloc (.cells #[.bool x0, .slice a1 n1 c1] 24)).alloc (.cells #[.bool false, .slice none 0 0] 32)).alloc (.cells #[.bool x0, .slice none 0 0] 32) = V0 := ⟨_, rfl⟩
  have b0 : Below W.heap.size W V0 := by rw [← hV0]; exact below_alloc3 _ _ _ _
  have z0 : V0.heap.size = W.heap.size + 1 + 1 + 1 := by rw [← hV0]; simp
  have q1 : Bx V0 W.heap.size [.bool x0, .slice a1 n1 c1] := by
    rw [← hV0]
    exact (Bx.new _ _ _).kept ((Kept.alloc (fun _ => True) _ _).trans (Kept.alloc _ _ _)) trivial
  have q2 : Bx V0 (W.heap.size + 1) [.bool false, .slice none 0 0] := by
    rw [← hV0]
    have := (Bx.new (W.alloc (.cells #[.bool x0, .slice a1 n1 c1] 24)) [.bool false, .slice none 0 0] 32).kept (Kept.alloc (fun _ => True) _ (.cells #[.bool x0, .slice none 0 0] 32)) trivial
    rwa [World.size_alloc] at this
  have q3 : Bx V0 (W.heap.size + 1 + 1) [.bool x0, .slice none 0 0] := by
    rw [← hV0]
    have := Bx.new ((W.alloc (.cells #[.bool x0, .slice a1 n1 c1] 24)).alloc (.cells #[.bool false, .slice none 0 0] 32)) [.bool x0, .slice none 0 0] 32
    rwa [World.size_alloc, World.size_alloc] at this
  have HV0 := hide hV0
  clear hV0
  have HB0 := hide b0
  have HZ0 := hide z0
  have HQ10 := hide q1
  have HQ20 := hide q2
  have HQ30 := hide q3
  clear b0 z0 q1 q2 q3
  go_enter Try.func16, Try.ntmps16
  go_wp2_with fail
  rw [HV0.out]
  clear HV0
  have HC1 := to_R_Uint32S m k1 n1 nb V0 a1 c1 (by omega) hf1 (by have := HB0.out.size; omega) (by omega) (HS1.out.below HB0.out (fun c hc => by omega))
  refine HC1.mono ?_
  clear HC1
  rintro e w1 ⟨d1, g1, rfl, s1, b1, o1⟩
  have z1 := b1.size
  have Q1 := HQ10.out.below b1
  have Q2 := HQ20.out.below b1
  have Q3 := HQ30.out.below b1
  have HO1 := hide o1
  have HBe1 := hide b1
  have l10 : w1.cell? ⟨W.heap.size + 1 + 1, 0, none⟩ = some (.bool x0) := Q3.cel 0 _ rfl
  have f10 := Q3.live 0
  have m10 : w1.cell? ⟨W.heap.size + 1, 0, none⟩ = some (.bool false) := Q2.cel 0 _ rfl
  have v10 := Q2.live 0
  have l11 : w1.cell? ⟨W.heap.size + 1 + 1, 1, none⟩ = some (.slice none 0 0) := Q3.cel 1 _ rfl
  have f11 := Q3.live 1
  have m11 : w1.cell? ⟨W.heap.size + 1, 1, none⟩ = some (.slice none 0 0) := Q2.cel 1 _ rfl
  have v11 := Q2.live 1
  have Hz1 := hide z1
  clear z1 Q1 Q2 Q3 o1 b1
  go_wp2_with fail
  have hz0 := HZ0.out
  refine bodyPost_ret (v := .agg #[.bool x0, .slice (some ⟨d1, 0, none⟩) n1 n1]) (by simp [results, Try.results16, go_sem, m10, m11]) rfl ⟨(.v (.bool x0) (.s (some ⟨d1, 0, none⟩) n1 n1 g1 .nil)), rfl, ⟨rfl, rfl, s1, trivial⟩, ?_⟩
  refine (fun (V : World) (kV : Kept (fun c => c ≠ W.heap.size + 1 ∧ c ≠ W.heap.size + 1 + 1) w1 V) => (?_ : Below W.heap.size W V ∧ Own W.heap.size V (.v (.bool x0) (.s (some ⟨d1, 0, none⟩) n1 n1 g1 .nil)))) _ ?_
  · have hbz := HB0.out.size
    have hzl := Hz1.out
    have Bl := HB0.out.trans (HBe1.out.mono hbz)
    refine ⟨Below.kept Bl kV (fun c hc => by omega) (Nat.le_refl _), ?_⟩
    have R1 : Own V0.heap.size w1 (.s (some ⟨d1, 0, none⟩) n1 n1 g1 .nil) := HO1.out
    exact Own.mono (show Own V0.heap.size V (.v (.bool x0) (.s (some ⟨d1, 0, none⟩) n1 n1 g1 .nil)) from (R1.kept kV (fun c hc _ => by omega)).v _) (by omega)
  · repeat first | (with_reducible refine Kept.set ?_ (by simp)) | with_reducible exact Kept.refl _ _

end Go.Proofs.Ytfgmgbkiebeeoaa

namespace Go.Proofs.Ytfgmgbkiebeeoaa
open Go.RowKit Go.Joins

set_option maxHeartbeats 2000000 in
set_option maxRecDepth 100000 in
theorem to_C_CoreAlt (m : Nat) (hcCore : ToC Try.prog E 7 (E 3) m) : ToC Try.prog E 34 (E 2) m := by
  intro F nb W hm hf hn h1 hs
  replace hf : Fit E F [.t, .s 1, .i, .t, .b, .s 0, .s 1, .s 3, .s 2] := hf
  obtain ⟨x0, F0, rfl, hx0, hf⟩ := fit_t hf
  obtain ⟨a1, n1, c1, k1, F1, rfl, hf1, hf⟩ := fit_s hf
  obtain ⟨x2, F2, rfl, hx2, hf⟩ := fit_i hf
  obtain ⟨x3, F3, rfl, hx3, hf⟩ := fit_t hf
  obtain ⟨x4, F4, rfl, hf⟩ := fit_b hf
  obtain ⟨a5, n5, c5, k5, F5, rfl, hf5, hf⟩ := fit_s hf
  obtain ⟨a6, n6, c6, k6, F6, rfl, hf6, hf⟩ := fit_s hf
  obtain ⟨a7, n7, c7, k7, F7, rfl, hf7, hf⟩ := fit_s hf
  obtain ⟨a8, n8, c8, k8, F8, rfl, hf8, hf⟩ := fit_s hf
  obtain rfl := fit_nil hf
  obtain ⟨hs1, hs5, hs6, hs7, hs8, -⟩ := hs
  simp only [Fo.size] at hm
  simp only [Fo.wt, textSize] at h1
  simp only [Fo.vals]
  have HS1 : Hid (Fo.Sub W (fun c => c < nb) a1 n1 c1 k1) := hs1
  have HS5 : Hid (Fo.Sub W (fun c => c < nb) a5 n5 c5 k5) := hs5
  have HS6 : Hid (Fo.Sub W (fun c => c < nb) a6 n6 c6 k6) := hs6
  have HS7 : Hid (Fo.Sub W (fun c => c < nb) a7 n7 c7 k7) := hs7
  have HS8 : Hid (Fo.Sub W (fun c => c < nb) a8 n8 c8 k8) := hs8
  clear hs1 hs5 hs6 hs7 hs8
  obtain ⟨V0, hV0⟩ : ∃ V0, ((W.alloc (.cells #[.string x0, .slice a1 n1 c1, .int .i64 x2, .string x3, .bool x4, .slice a5 n5 c5, .slice a6 n6 c6, .slice a7 n7 c7, .slice a8 n8 c8] 93)).alloc (.cells #[.string ⟨#[]⟩, .slice none 0 0, .int .i64 0, .string ⟨#[]⟩, .bool false, .slice none 0 0, .slice none 0 0, .slice none 0 0, .slice none 0 0] 46)).alloc (.cells #[.string x0, .slice none 0 0, .int .i64 0, .string ⟨#[]⟩, .bool false, .slice none 0 0, .slice none 0 0, .slice none 0 0, .slice none 0 0] 46) = V0 := ⟨_, rfl⟩
  have b0 : Below W.heap.size W V0 := by rw [← hV0]; exact below_alloc3 _ _ _ _
  have z0 : V0.heap.size = W.heap.size + 1 + 1 + 1 := by rw [← hV0]; simp
  have q1 : Bx V0 W.heap.size [.string x0, .slice a1 n1 c1, .int .i64 x2, .string x3, .bool x4, .slice a5 n5 c5, .slice a6 n6 c6, .slice a7 n7 c7, .slice a8 n8 c8] := by
    rw [← hV0]
    exact (Bx.new _ _ _).kept ((Kept.alloc (fun _ => True) _ _).trans (Kept.alloc _ _ _)) trivial
  have q2 : Bx V0 (W.heap.size + 1) [.string ⟨#[]⟩, .slice none 0 0, .int .i64 0, .string ⟨#[]⟩, .bool false, .slice none 0 0, .slice none 0 0, .slice none 0 0, .slice none 0 0] := by
    rw [← hV0]
    have := (Bx.new (W.alloc (.cells #[.string x0, .slice a1 n1 c1, .int .i64 x2, .string x3, .bool x4, .slice a5 n5 c5, .slice a6 n6 c6, .slice a7 n7 c7, .slice a8 n8 c8] 93)) [.string ⟨#[]⟩, .slice none 0 0, .int .i64 0, .string ⟨#[]⟩, .bool false, .slice none 0 0, .slice none 0 0, .slice none 0 0, .slice none 0 0] 46).kept (Kept.alloc (fun _ => True) _ (.cells #[.string x0, .slice none 0 0, .int .i64 0, .string ⟨#[]⟩, .bool false, .slice none 0 0, .slice none 0 0, .slice none 0 0, .slice none 0 0] 46)) trivial
    rwa [World.size_alloc] at this
  have q3 : Bx V0 (W.heap.size + 1 + 1) [.string x0, .slice none 0 0, .int .i64 0, .string ⟨#[]⟩, .bool false, .slice none 0 0, .slice none 0 0, .slice none 0 0, .slice none 0 0] := by
    rw [← hV0]
    have := Bx.new ((W.alloc (.cells #[.string x0, .slice a1 n1 c1, .int .i64 x2, .string x3, .bool x4, .slice a5 n5 c5, .slice a6 n6 c6, .slice a7 n7 c7, .slice a8 n8 c8] 93)).alloc (.cells #[.string ⟨#[]⟩, .slice none 0 0, .int .i64 0, .string ⟨#[]⟩, .bool false, .slice none 0 0, .slice none 0 0, .slice none 0 0, .slice none 0 0] 46)) [.string x0, .slice none 0 0, .int .i64 0, .string ⟨#[]⟩, .bool false, .slice none 0 0, .slice none 0 0, .slice none 0 0, .slice none 0 0] 46
    rwa [World.size_alloc, World.size_alloc] at this
  have HV0 := hide hV0
  clear hV0
  have HB0 := hide b0
  have HZ0 := hide z0
  have HQ10 := hide q1
  have HQ20 := hide q2
  have HQ30 := hide q3
  clear b0 z0 q1 q2 q3
  go_enter Try.func34, Try.ntmps34
  go_wp2_with fail
  rw [HV0.out]
  clear HV0
  have HC1 := to_R_StringS m k1 n1 nb V0 a1 c1 (by omega) hf1 (by have := HB0.out.size; omega) (by omega) (HS1.out.below HB0.out (fun c hc => by omega))
  refine HC1.mono ?_
  clear HC1
  rintro e w1 ⟨d1, g1, rfl, s1, b1, o1⟩
  have z1 := b1.size
  have Q1 := HQ10.out.below b1
  have Q2 := HQ20.out.below b1
  have Q3 := HQ30.out.below b1
  have HO1 := hide o1
  have HBe1 := hide b1
  obtain ⟨V1, hV1⟩ : ∃ V, (w1.setCell ⟨W.heap.size + 1 + 1, 1, none⟩ (.slice (some ⟨d1, 0, none⟩) n1 n1)) = V := ⟨_, rfl⟩
  have kV1 : Kept (fun c => c ≠ (W.heap.size + 1 + 1)) w1 V1 := by
    rw [← hV1]
    repeat first | (with_reducible refine Kept.set ?_ (by simp)) | with_reducible exact Kept.refl _ _
  have zV1 : V1.heap.size = w1.heap.size := by rw [← hV1]; simp [World.setCell]
  have Q3' : Bx V1 (W.heap.size + 1 + 1) [.string x0, .slice (some ⟨d1, 0, none⟩) n1 n1, .int .i64 0, .string ⟨#[]⟩, .bool false, .slice none 0 0, .slice none 0 0, .slice none 0 0, .slice none 0 0] := by
    rw [← hV1]
    exact (Q3.put 1 (.slice (some ⟨d1, 0, none⟩) n1 n1) (by simp))
  have hz0 := HZ0.out
  have hbz := HB0.out.size
  have Hk1 := hide kV1
  have HV1 := hide hV1
  have Hz1 := hide (And.intro z1 zV1)
  have HB1 : Hid (Below W.heap.size W V1) := Below.kept (HB0.out.trans (b1.mono hbz)) kV1 (fun c hc => by show c ≠ _; omega) (Nat.le_refl _)
  have HQ11 := hide (Q1.kept kV1 (by show _ ≠ _; omega))
  have HQ21 := hide (Q2.kept kV1 (by show _ ≠ _; omega))
  have HQ31 := hide Q3'
  have y12 : w1.cell? ⟨W.heap.size, 2, none⟩ = some (.int .i64 x2) := Q1.cel 2 _ rfl
  have Y12 : V1.cell? ⟨W.heap.size, 2, none⟩ = some (.int .i64 x2) := HQ11.out.cel 2 _ rfl
  have y13 : w1.cell? ⟨W.heap.size, 3, none⟩ = some (.string x3) := Q1.cel 3 _ rfl
  have Y13 : V1.cell? ⟨W.heap.size, 3, none⟩ = some (.string x3) := HQ11.out.cel 3 _ rfl
  have y14 : w1.cell? ⟨W.heap.size, 4, none⟩ = some (.bool x4) := Q1.cel 4 _ rfl
  have Y14 : V1.cell? ⟨W.heap.size, 4, none⟩ = some (.bool x4) := HQ11.out.cel 4 _ rfl
  have y15 : w1.cell? ⟨W.heap.size, 5, none⟩ = some (.slice a5 n5 c5) := Q1.cel 5 _ rfl
  have Y15 : V1.cell? ⟨W.heap.size, 5, none⟩ = some (.slice a5 n5 c5) := HQ11.out.cel 5 _ rfl
  have y16 : w1.cell? ⟨W.heap.size, 6, none⟩ = some (.slice a6 n6 c6) := Q1.cel 6 _ rfl
  have Y16 : V1.cell? ⟨W.heap.size, 6, none⟩ = some (.slice a6 n6 c6) := HQ11.out.cel 6 _ rfl
  have y17 : w1.cell? ⟨W.heap.size, 7, none⟩ = some (.slice a7 n7 c7) := Q1.cel 7 _ rfl
  have Y17 : V1.cell? ⟨W.heap.size, 7, none⟩ = some (.slice a7 n7 c7) := HQ11.out.cel 7 _ rfl
  have y18 : w1.cell? ⟨W.heap.size, 8, none⟩ = some (.slice a8 n8 c8) := Q1.cel 8 _ rfl
  have Y18 : V1.cell? ⟨W.heap.size, 8, none⟩ = some (.slice a8 n8 c8) := HQ11.out.cel 8 _ rfl
  have l11 : w1.cell? ⟨W.heap.size + 1 + 1, 1, none⟩ = some (.slice none 0 0) := Q3.cel 1 _ rfl
  have f11 := Q3.live 1
  clear z1 Q1 Q2 Q3 Q3' o1 b1 kV1 zV1 hz0 hbz hV1
  go_wp2_with fail
  rw [HV1.out]
  clear HV1
  have HC2 := hcCore (.v (.int .i64 x2) (.v (.string x3) (.v (.bool x4) (.s a5 n5 c5 k5 (.s a6 n6 c6 k6 (.s a7 n7 c7 k7 (.s a8 n8 c8 k8 .nil))))))) nb V1 (by simp only [Fo.size]; omega) ⟨hx2, hx3, hf5, hf6, hf7, hf8, trivial⟩ (by have := HB1.out.size; omega) (by simp only [Fo.wt, textSize]; omega) ⟨(HS5.out.below HB1.out (fun c hc => by omega)), (HS6.out.below HB1.out (fun c hc => by omega)), (HS7.out.below HB1.out (fun c hc => by omega)), (HS8.out.below HB1.out (fun c hc => by omega)), trivial⟩
  simp only [Fo.vals] at HC2
  refine HC2.mono ?_
  clear HC2
  rintro e w2 ⟨g2, rfl, s2, b2, o2⟩
  obtain ⟨u2, rfl, s2_1⟩ := Fo.sim_v s2
  obtain ⟨u3, rfl, s2_2⟩ := Fo.sim_v s2_1
  obtain ⟨u4, rfl, s2_3⟩ := Fo.sim_v s2_2
  obtain ⟨d5, e5, t5, u5, rfl, r5, s2_4⟩ := Fo.sim_s s2_3
  obtain ⟨d6, e6, t6, u6, rfl, r6, s2_5⟩ := Fo.sim_s s2_4
  obtain ⟨d7, e7, t7, u7, rfl, r7, s2_6⟩ := Fo.sim_s s2_5
  obtain ⟨d8, e8, t8, u8, rfl, r8, s2_7⟩ := Fo.sim_s s2_6
  obtain rfl := Fo.sim_nil s2_7
  simp only [Fo.vals]
  have z2 := b2.size
  have Q1 := HQ11.out.below b2
  have Q2 := HQ21.out.below b2
  have Q3 := HQ31.out.below b2
  have HO2 := hide o2
  have HBe2 := hide b2
  have l20 : w2.cell? ⟨W.heap.size + 1 + 1, 0, none⟩ = some (.string x0) := Q3.cel 0 _ rfl
  have f20 := Q3.live 0
  have m20 : w2.cell? ⟨W.heap.size + 1, 0, none⟩ = some (.string ⟨#[]⟩) := Q2.cel 0 _ rfl
  have v20 := Q2.live 0
  have l21 : w2.cell? ⟨W.heap.size + 1 + 1, 1, none⟩ = some (.slice (some ⟨d1, 0, none⟩) n1 n1) := Q3.cel 1 _ rfl
  have f21 := Q3.live 1
  have m21 : w2.cell? ⟨W.heap.size + 1, 1, none⟩ = some (.slice none 0 0) := Q2.cel 1 _ rfl
  have v21 := Q2.live 1
  have l22 : w2.cell? ⟨W.heap.size + 1 + 1, 2, none⟩ = some (.int .i64 0) := Q3.cel 2 _ rfl
  have f22 := Q3.live 2
  have m22 : w2.cell? ⟨W.heap.size + 1, 2, none⟩ = some (.int .i64 0) := Q2.cel 2 _ rfl
  have v22 := Q2.live 2
  have l23 : w2.cell? ⟨W.heap.size + 1 + 1, 3, none⟩ = some (.string ⟨#[]⟩) := Q3.cel 3 _ rfl
  have f23 := Q3.live 3
  have m23 : w2.cell? ⟨W.heap.size + 1, 3, none⟩ = some (.string ⟨#[]⟩) := Q2.cel 3 _ rfl
  have v23 := Q2.live 3
  have l24 : w2.cell? ⟨W.heap.size + 1 + 1, 4, none⟩ = some (.bool false) := Q3.cel 4 _ rfl
  have f24 := Q3.live 4
  have m24 : w2.cell? ⟨W.heap.size + 1, 4, none⟩ = some (.bool false) := Q2.cel 4 _ rfl
  have v24 := Q2.live 4
  have l25 : w2.cell? ⟨W.heap.size + 1 + 1, 5, none⟩ = some (.slice none 0 0) := Q3.cel 5 _ rfl
  have f25 := Q3.live 5
  have m25 : w2.cell? ⟨W.heap.size + 1, 5, none⟩ = some (.slice none 0 0) := Q2.cel 5 _ rfl
  have v25 := Q2.live 5
  have l26 : w2.cell? ⟨W.heap.size + 1 + 1, 6, none⟩ = some (.slice none 0 0) := Q3.cel 6 _ rfl
  have f26 := Q3.live 6
  have m26 : w2.cell? ⟨W.heap.size + 1, 6, none⟩ = some (.slice none 0 0) := Q2.cel 6 _ rfl
  have v26 := Q2.live 6
  have l27 : w2.cell? ⟨W.heap.size + 1 + 1, 7, none⟩ = some (.slice none 0 0) := Q3.cel 7 _ rfl
  have f27 := Q3.live 7
  have m27 : w2.cell? ⟨W.heap.size + 1, 7, none⟩ = some (.slice none 0 0) := Q2.cel 7 _ rfl
  have v27 := Q2.live 7
  have l28 : w2.cell? ⟨W.heap.size + 1 + 1, 8, none⟩ = some (.slice none 0 0) := Q3.cel 8 _ rfl
  have f28 := Q3.live 8
  have m28 : w2.cell? ⟨W.heap.size + 1, 8, none⟩ = some (.slice none 0 0) := Q2.cel 8 _ rfl
  have v28 := Q2.live 8
  have Hz2 := hide z2
  clear z2 Q1 Q2 Q3 o2 b2
  go_wp2_with fail
  have hz0 := HZ0.out
  refine bodyPost_ret (v := .agg #[.string x0, .slice (some ⟨d1, 0, none⟩) n1 n1, .int .i64 x2, .string x3, .bool x4, .slice d5 n5 e5, .slice d6 n6 e6, .slice d7 n7 e7, .slice d8 n8 e8]) (by simp [results, Try.results34, go_sem, m20, m21, m22, m23, m24, m25, m26, m27, m28]) rfl ⟨(.v (.string x0) (.s (some ⟨d1, 0, none⟩) n1 n1 g1 (.v (.int .i64 x2) (.v (.string x3) (.v (.bool x4) (.s d5 n5 e5 t5 (.s d6 n6 e6 t6 (.s d7 n7 e7 t7 (.s d8 n8 e8 t8 .nil))))))))), rfl, ⟨rfl, rfl, s1, rfl, rfl, rfl, rfl, r5, rfl, r6, rfl, r7, rfl, r8, trivial⟩, ?_⟩
  refine (fun (V : World) (kV : Kept (fun c => c ≠ W.heap.size + 1 ∧ c ≠ W.heap.size + 1 + 1) w2 V) => (?_ : Below W.heap.size W V ∧ Own W.heap.size V (.v (.string x0) (.s (some ⟨d1, 0, none⟩) n1 n1 g1 (.v (.int .i64 x2) (.v (.string x3) (.v (.bool x4) (.s d5 n5 e5 t5 (.s d6 n6 e6 t6 (.s d7 n7 e7 t7 (.s d8 n8 e8 t8 .nil))))))))))) _ ?_
  · have hbz := HB1.out.size
    have hzl := Hz2.out
    have Bl := HB1.out.trans (HBe2.out.mono hbz)
    refine ⟨Below.kept Bl kV (fun c hc => by omega) (Nat.le_refl _), ?_⟩
    have R2 : Own V1.heap.size w2 (.v (.int .i64 x2) (.v (.string x3) (.v (.bool x4) (.s d5 n5 e5 t5 (.s d6 n6 e6 t6 (.s d7 n7 e7 t7 (.s d8 n8 e8 t8 .nil))))))) := HO2.out
    have hs1z := Hz1.out
    have P1 : Own V0.heap.size V1 (.s (some ⟨d1, 0, none⟩) n1 n1 g1 .nil) := HO1.out.kept Hk1.out (fun c hc _ => by show c ≠ _; have := HB0.out.size; have := HZ0.out;  have := HBe1.out.size; omega)
    have K1 : Kept (fun c => c ≠ (W.heap.size + 1 + 1)) V1 w2 := kt HBe2.out
    have R1 : Own V0.heap.size w2 (.s (some ⟨d1, 0, none⟩) n1 n1 g1 (.v (.int .i64 x2) (.v (.string x3) (.v (.bool x4) (.s d5 n5 e5 t5 (.s d6 n6 e6 t6 (.s d7 n7 e7 t7 (.s d8 n8 e8 t8 .nil)))))))) := P1.appk K1 (fun c hc _ => by show c ≠ _; have := HZ0.out; have := Hz1.out; have := HBe1.out.size; omega) (by have := HZ0.out; have := Hz1.out; have := HBe1.out.size; omega) R2
    exact Own.mono (show Own V0.heap.size V (.v (.string x0) (.s (some ⟨d1, 0, none⟩) n1 n1 g1 (.v (.int .i64 x2) (.v (.string x3) (.v (.bool x4) (.s d5 n5 e5 t5 (.s d6 n6 e6 t6 (.s d7 n7 e7 t7 (.s d8 n8 e8 t8 .nil))))))))) from (R1.kept kV (fun c hc _ => by omega)).v _) (by omega)
  · repeat first | (with_reducible refine Kept.set ?_ (by simp)) | with_reducible exact Kept.refl _ _

theorem Try.info46 : (Try.prog.info? 46).map (fun i => (i.zero, i.size, i.bytes)) = some (some (.agg #[.string ⟨#[]⟩, .slice none 0 0, .int .i64 0, .string ⟨#[]⟩, .bool false, .slice none 0 0, .slice none 0 0, .slice none 0 0, .slice none 0 0]), 9, 168) := by kernel_rfl
theorem run_make_CoreAltS (n : Nat) (hn : n ≤ 1048576) (w : World) :
    (Instr.makeSlice 34 (.int .i64 (n : Int)) (.int .i64 (n : Int))).run Try.prog w = .ok (.slice (some ⟨w.heap.size, 0, none⟩) n n) (w.alloc (.cells (madeCells (Value.cells (.agg #[.string ⟨#[]⟩, .slice none 0 0, .int .i64 0, .string ⟨#[]⟩, .bool false, .slice none 0 0, .slice none 0 0, .slice none 0 0, .slice none 0 0])) (n * 9)) 46)) := by
  obtain ⟨i, hi, hzz⟩ := Option.map_eq_some_iff.1 Try.info46
  simp only [Prod.mk.injEq] at hzz
  obtain ⟨hz, hs, hb⟩ := hzz
  have hr := run_make (P := Try.prog) w 34 46 i _ Try.underlying34 hi hz .i64 .i64 n n (by omega) (Int.le_refl _) (by rw [hb]; omega) (by omega)
  simp only [Int.toNat_natCast, hs] at hr
  exact hr
set_option maxHeartbeats 2000000 in
set_option maxRecDepth 100000 in
theorem to_R_CoreAltS_of (m : Nat) (h : ToC Try.prog E 34 (E 2) m) : ToR Try.prog E 19 (E 2) m := by
  intro F n nb W a cap hm hf hn ht hs
  have hmk := run_make_CoreAltS n (by omega)
  have HR := hide (Rd.start hf hs)
  have HM := hide hm
  clear hf hs hm
  go_enter Try.func19, Try.ntmps19
  go_wp2_with fail
  clear hmk
  have HI : Hid (ToI (E 2) n F W 0 F .nil .nil (W.alloc (.cells (madeCells #[.string ⟨#[]⟩, .slice none 0 0, .int .i64 0, .string ⟨#[]⟩, .bool false, .slice none 0 0, .slice none 0 0, .slice none 0 0, .slice none 0 0] (n * 9)) 46))) := ToI.start _ _ (size_madeCells _ _)
  have HR0 := hide (HR.out.below (below_alloc1 W (.cells (madeCells #[.string ⟨#[]⟩, .slice none 0 0, .int .i64 0, .string ⟨#[]⟩, .bool false, .slice none 0 0, .slice none 0 0, .slice none 0 0, .slice none 0 0] (n * 9)) 46)) hn)
  skip
  generalize W.alloc (.cells (madeCells #[.string ⟨#[]⟩, .slice none 0 0, .int .i64 0, .string ⟨#[]⟩, .bool false, .slice none 0 0, .slice none 0 0, .slice none 0 0, .slice none 0 0] (n * 9)) 46) = W0 at *
  go_loopw [4] (fun s4 wr => ∃ (i : Nat) (r Fp Gp : Fo), s4 = .int .i64 i ∧ i ≤ n ∧ Hid (ToI (E 2) n F W i r Fp Gp wr) ∧ Hid (Rd E (E 2) n nb a i r wr)) (fun s4 _ => n - (intOf s4).toNat)
  case atStart => exact ⟨0, F, .nil, .nil, rfl, Nat.zero_le _, HI, HR0⟩
  case round =>
    obtain ⟨i, r, Fp, Gp, rfl, hin, hI, hR⟩ := hrel
    by_cases hi : i < n
    · obtain ⟨x, q, b, o, rfl, hx, rfl, hb, hc, hxs, hR1⟩ := hR.out.next hi (by decide)
      have HR1 := hide hR1
      have hfs := hI.out.eq
      have hzs : x.size ≤ F.size ∧ x.wt ≤ F.wt := by rw [← hfs, Fo.app_size, Fo.app_wt, Fo.app_size, Fo.app_wt]; omega
      have hxl : Hid (x.len = 9) := Fit.len hx
      have hws := hI.out.size
      have hbl := hI.out.bel.size
      have hii : (i : Int) < n := by omega
      have hri := hI.out.room
      clear hR hR1 hfs
      have HC := hide (h x nb wr (by have := HM.out; omega) hx (by omega) (by omega) hxs)
      have HBL := hide (And.intro hws hbl)
      clear hws hbl hzs hxs
      have hx' : Fit E x [.t, .s 1, .i, .t, .b, .s 0, .s 1, .s 3, .s 2] := hx
      obtain ⟨X, hX⟩ : ∃ X, x = X := ⟨_, rfl⟩
      have HXE := hide hX
      rw [hX] at hx'
      clear hX
      obtain ⟨x0, F0, rfl, hx0, hx'⟩ := fit_t hx'
      obtain ⟨a1, n1, c1, k1, F1, rfl, hf1, hx'⟩ := fit_s hx'
      obtain ⟨x2, F2, rfl, hx2, hx'⟩ := fit_i hx'
      obtain ⟨x3, F3, rfl, hx3, hx'⟩ := fit_t hx'
      obtain ⟨x4, F4, rfl, hx'⟩ := fit_b hx'
      obtain ⟨a5, n5, c5, k5, F5, rfl, hf5, hx'⟩ := fit_s hx'
      obtain ⟨a6, n6, c6, k6, F6, rfl, hf6, hx'⟩ := fit_s hx'
      obtain ⟨a7, n7, c7, k7, F7, rfl, hf7, hx'⟩ := fit_s hx'
      obtain ⟨a8, n8, c8, k8, F8, rfl, hf8, hx'⟩ := fit_s hx'
      obtain rfl := fit_nil hx'
      rw [HXE.out] at HC hc
      simp only [Fo.vals] at HC hc
      have p0 : wr.cell? ⟨b, o + i * 9, none⟩ = some (.string x0) := hc 0 _ rfl
      have p1 : wr.cell? ⟨b, o + i * 9 + 1, none⟩ = some (.slice a1 n1 c1) := hc 1 _ rfl
      have p2 : wr.cell? ⟨b, o + i * 9 + 2, none⟩ = some (.int .i64 x2) := hc 2 _ rfl
      have p3 : wr.cell? ⟨b, o + i * 9 + 3, none⟩ = some (.string x3) := hc 3 _ rfl
      have p4 : wr.cell? ⟨b, o + i * 9 + 4, none⟩ = some (.bool x4) := hc 4 _ rfl
      have p5 : wr.cell? ⟨b, o + i * 9 + 5, none⟩ = some (.slice a5 n5 c5) := hc 5 _ rfl
      have p6 : wr.cell? ⟨b, o + i * 9 + 6, none⟩ = some (.slice a6 n6 c6) := hc 6 _ rfl
      have p7 : wr.cell? ⟨b, o + i * 9 + 7, none⟩ = some (.slice a7 n7 c7) := hc 7 _ rfl
      have p8 : wr.cell? ⟨b, o + i * 9 + 8, none⟩ = some (.slice a8 n8 c8) := hc 8 _ rfl
      clear hc
      go_wp2_with fail
      refine HC.out.mono ?_
      clear HC
      rintro e w1 ⟨G, rfl, s0, b1, o0⟩
      have HO := hide o0
      have HB1 := hide b1
      have HSG := hide s0
      obtain ⟨G', hG'⟩ : ∃ G', G = G' := ⟨_, rfl⟩
      have HGE := hide hG'
      rw [hG'] at s0 ⊢
      clear hG'
      obtain ⟨u0, rfl, s0_1⟩ := Fo.sim_v s0
      obtain ⟨d1, e1, t1, u1, rfl, r1, s0_2⟩ := Fo.sim_s s0_1
      obtain ⟨u2, rfl, s0_3⟩ := Fo.sim_v s0_2
      obtain ⟨u3, rfl, s0_4⟩ := Fo.sim_v s0_3
      obtain ⟨u4, rfl, s0_5⟩ := Fo.sim_v s0_4
      obtain ⟨d5, e5, t5, u5, rfl, r5, s0_6⟩ := Fo.sim_s s0_5
      obtain ⟨d6, e6, t6, u6, rfl, r6, s0_7⟩ := Fo.sim_s s0_6
      obtain ⟨d7, e7, t7, u7, rfl, r7, s0_8⟩ := Fo.sim_s s0_7
      obtain ⟨d8, e8, t8, u8, rfl, r8, s0_9⟩ := Fo.sim_s s0_8
      obtain rfl := Fo.sim_nil s0_9
      simp only [Fo.vals]
      have hR2 := hri.below b1 (by have := HBL.out; omega)
      obtain ⟨⟨v0, l0⟩, f0⟩ := hR2 (i * 9) (by show _ < n * 9; omega)
      obtain ⟨⟨v1, l1⟩, f1⟩ := hR2 (i * 9 + 1) (by show _ < n * 9; omega)
      obtain ⟨⟨v2, l2⟩, f2⟩ := hR2 (i * 9 + 2) (by show _ < n * 9; omega)
      obtain ⟨⟨v3, l3⟩, f3⟩ := hR2 (i * 9 + 3) (by show _ < n * 9; omega)
      obtain ⟨⟨v4, l4⟩, f4⟩ := hR2 (i * 9 + 4) (by show _ < n * 9; omega)
      obtain ⟨⟨v5, l5⟩, f5⟩ := hR2 (i * 9 + 5) (by show _ < n * 9; omega)
      obtain ⟨⟨v6, l6⟩, f6⟩ := hR2 (i * 9 + 6) (by show _ < n * 9; omega)
      obtain ⟨⟨v7, l7⟩, f7⟩ := hR2 (i * 9 + 7) (by show _ < n * 9; omega)
      obtain ⟨⟨v8, l8⟩, f8⟩ := hR2 (i * 9 + 8) (by show _ < n * 9; omega)
      clear hR2 hri b1 o0
      go_wp2_with fail
      go_roundw
      case rel =>
        refine ⟨i + 1, q, Fp.app x, Gp.app G, by go_num, by omega, ?_, ?_⟩
        · have h1 := hI.out.step (G := G) hi hxl.out HB1.out (by rw [HXE.out]; exact HSG.out) HO.out
          rw [HGE.out] at h1 ⊢
          exact h1
        · have h1 := (HR1.out.below HB1.out (by have := HBL.out; omega)).kept (setL_kept [.string x0, .slice d1 n1 e1, .int .i64 x2, .string x3, .bool x4, .slice d5 n5 e5, .slice d6 n6 e6, .slice d7 n7 e7, .slice d8 n8 e8] w1 W.heap.size (i * 9)) (by have := HBL.out; have := HB1.out.size; omega) (fun c hc => by show c ≠ _; omega)
          exact h1
      case measure => simp [intOf]; omega
    · obtain ⟨rfl, rfl⟩ := hR.out.done hi
      have h1 := hide (hI.out.finish (by omega))
      clear hR hI
      go_wp2_with fail
      go_ret
      exact ⟨W.heap.size, Gp, rfl, h1.out.1, h1.out.2.1, h1.out.2.2⟩

set_option maxHeartbeats 2000000 in
set_option maxRecDepth 100000 in
theorem to_C_Core (m : Nat) (hCore : ToR Try.prog E 18 (E 3) m) (hCoreAlt : ToR Try.prog E 19 (E 2) m) : ToC Try.prog E 7 (E 3) (m + 1) := by
  intro F nb W hm hf hn h1 hs
  replace hf : Fit E F [.i, .t, .b, .s 0, .s 1, .s 3, .s 2] := hf
  obtain ⟨x0, F0, rfl, hx0, hf⟩ := fit_i hf
  obtain ⟨x1, F1, rfl, hx1, hf⟩ := fit_t hf
  obtain ⟨x2, F2, rfl, hf⟩ := fit_b hf
  obtain ⟨a3, n3, c3, k3, F3, rfl, hf3, hf⟩ := fit_s hf
  obtain ⟨a4, n4, c4, k4, F4, rfl, hf4, hf⟩ := fit_s hf
  obtain ⟨a5, n5, c5, k5, F5, rfl, hf5, hf⟩ := fit_s hf
  obtain ⟨a6, n6, c6, k6, F6, rfl, hf6, hf⟩ := fit_s hf
  obtain rfl := fit_nil hf
  obtain ⟨hs3, hs4, hs5, hs6, -⟩ := hs
  simp only [Fo.size] at hm
  simp only [Fo.wt, textSize] at h1
  simp only [Fo.vals]
  have HS3 : Hid (Fo.Sub W (fun c => c < nb) a3 n3 c3 k3) := hs3
  have HS4 : Hid (Fo.Sub W (fun c => c < nb) a4 n4 c4 k4) := hs4
  have HS5 : Hid (Fo.Sub W (fun c => c < nb) a5 n5 c5 k5) := hs5
  have HS6 : Hid (Fo.Sub W (fun c => c < nb) a6 n6 c6 k6) := hs6
  clear hs3 hs4 hs5 hs6
  obtain ⟨V0, hV0⟩ : ∃ V0, ((W.alloc (.cells #[.int .i64 x0, .string x1, .bool x2, .slice a3 n3 c3, .slice a4 n4 c4, .slice a5 n5 c5, .slice a6 n6 c6] 29)).alloc (.cells #[.int .i64 0, .string ⟨#[]⟩, .bool false, .slice none 0 0, .slice none 0 0, .slice none 0 0, .slice none 0 0] 36)).alloc (.cells #[.int .i64 x0, .string x1, .bool false, .slice none 0 0, .slice none 0 0, .slice none 0 0, .slice none 0 0] 36) = V0 := ⟨_, rfl⟩
  have b0 : Below W.heap.size W V0 := by rw [← hV0]; exact below_alloc3 _ _ _ _
  have z0 : V0.heap.size = W.heap.size + 1 + 1 + 1 := by rw [← hV0]; simp
  have q1 : Bx V0 W.heap.size [.int .i64 x0, .string x1, .bool x2, .slice a3 n3 c3, .slice a4 n4 c4, .slice a5 n5 c5, .slice a6 n6 c6] := by
    rw [← hV0]
    exact (Bx.new _ _ _).kept ((Kept.alloc (fun _ => True) _ _).trans (Kept.alloc _ _ _)) trivial
  have q2 : Bx V0 (W.heap.size + 1) [.int .i64 0, .string ⟨#[]⟩, .bool false, .slice none 0 0, .slice none 0 0, .slice none 0 0, .slice none 0 0] := by
    rw [← hV0]
    have := (Bx.new (W.alloc (.cells #[.int .i64 x0, .string x1, .bool x2, .slice a3 n3 c3, .slice a4 n4 c4, .slice a5 n5 c5, .slice a6 n6 c6] 29)) [.int .i64 0, .string ⟨#[]⟩, .bool false, .slice none 0 0, .slice none 0 0, .slice none 0 0, .slice none 0 0] 36).kept (Kept.alloc (fun _ => True) _ (.cells #[.int .i64 x0, .string x1, .bool false, .slice none 0 0, .slice none 0 0, .slice none 0 0, .slice none 0 0] 36)) trivial
    rwa [World.size_alloc] at this
  have q3 : Bx V0 (W.heap.size + 1 + 1) [.int .i64 x0, .string x1, .bool false, .slice none 0 0, .slice none 0 0, .slice none 0 0, .slice none 0 0] := by
    rw [← hV0]
    have := Bx.new ((W.alloc (.cells #[.int .i64 x0, .string x1, .bool x2, .slice a3 n3 c3, .slice a4 n4 c4, .slice a5 n5 c5, .slice a6 n6 c6] 29)).alloc (.cells #[.int .i64 0, .string ⟨#[]⟩, .bool false, .slice none 0 0, .slice none 0 0, .slice none 0 0, .slice none 0 0] 36)) [.int .i64 x0, .string x1, .bool false, .slice none 0 0, .slice none 0 0, .slice none 0 0, .slice none 0 0] 36
    rwa [World.size_alloc, World.size_alloc] at this
  have HV0 := hide hV0
  clear hV0
  have HB0 := hide b0
  have HZ0 := hide z0
  have HQ10 := hide q1
  have HQ20 := hide q2
  have HQ30 := hide q3
  clear b0 z0 q1 q2 q3
  go_enter Try.func7, Try.ntmps7
  go_wp2_with fail
  rw [HV0.out]
  clear HV0
  have HC1 := to_C_Big m (.v (.bool x2) (.s a3 n3 c3 k3 .nil)) nb V0 (by simp only [Fo.size]; omega) ⟨hf3, trivial⟩ (by have := HB0.out.size; omega) (by simp only [Fo.wt, textSize]; omega) ⟨(HS3.out.below HB0.out (fun c hc => by omega)), trivial⟩
  simp only [Fo.vals] at HC1
  refine HC1.mono ?_
  clear HC1
  rintro e w1 ⟨g2, rfl, s2, b1, o2⟩
  obtain ⟨u2, rfl, s2_1⟩ := Fo.sim_v s2
  obtain ⟨d3, e3, t3, u3, rfl, r3, s2_2⟩ := Fo.sim_s s2_1
  obtain rfl := Fo.sim_nil s2_2
  simp only [Fo.vals]
  have z1 := b1.size
  have Q1 := HQ10.out.below b1
  have Q2 := HQ20.out.below b1
  have Q3 := HQ30.out.below b1
  have HO1 := hide o2
  have HBe1 := hide b1
  obtain ⟨V1, hV1⟩ : ∃ V, ((w1.setCell ⟨W.heap.size + 1 + 1, 2, none⟩ (.bool x2)).setCell ⟨W.heap.size + 1 + 1, 3, none⟩ (.slice d3 n3 e3)) = V := ⟨_, rfl⟩
  have kV1 : Kept (fun c => c ≠ (W.heap.size + 1 + 1)) w1 V1 := by
    rw [← hV1]
    repeat first | (with_reducible refine Kept.set ?_ (by simp)) | with_reducible exact Kept.refl _ _
  have zV1 : V1.heap.size = w1.heap.size := by rw [← hV1]; simp [World.setCell]
  have Q3' : Bx V1 (W.heap.size + 1 + 1) [.int .i64 x0, .string x1, .bool x2, .slice d3 n3 e3, .slice none 0 0, .slice none 0 0, .slice none 0 0] := by
    rw [← hV1]
    exact ((Q3.put 2 (.bool x2) (by simp)).put 3 (.slice d3 n3 e3) (by simp))
  have hz0 := HZ0.out
  have hbz := HB0.out.size
  have Hk1 := hide kV1
  have HV1 := hide hV1
  have Hz1 := hide (And.intro z1 zV1)
  have HB1 : Hid (Below W.heap.size W V1) := Below.kept (HB0.out.trans (b1.mono hbz)) kV1 (fun c hc => by show c ≠ _; omega) (Nat.le_refl _)
  have HQ11 := hide (Q1.kept kV1 (by show _ ≠ _; omega))
  have HQ21 := hide (Q2.kept kV1 (by show _ ≠ _; omega))
  have HQ31 := hide Q3'
  have y14 : w1.cell? ⟨W.heap.size, 4, none⟩ = some (.slice a4 n4 c4) := Q1.cel 4 _ rfl
  have Y14 : V1.cell? ⟨W.heap.size, 4, none⟩ = some (.slice a4 n4 c4) := HQ11.out.cel 4 _ rfl
  have y15 : w1.cell? ⟨W.heap.size, 5, none⟩ = some (.slice a5 n5 c5) := Q1.cel 5 _ rfl
  have Y15 : V1.cell? ⟨W.heap.size, 5, none⟩ = some (.slice a5 n5 c5) := HQ11.out.cel 5 _ rfl
  have y16 : w1.cell? ⟨W.heap.size, 6, none⟩ = some (.slice a6 n6 c6) := Q1.cel 6 _ rfl
  have Y16 : V1.cell? ⟨W.heap.size, 6, none⟩ = some (.slice a6 n6 c6) := HQ11.out.cel 6 _ rfl
  have l12 : w1.cell? ⟨W.heap.size + 1 + 1, 2, none⟩ = some (.bool false) := Q3.cel 2 _ rfl
  have f12 := Q3.live 2
  have l13 : w1.cell? ⟨W.heap.size + 1 + 1, 3, none⟩ = some (.slice none 0 0) := Q3.cel 3 _ rfl
  have f13 := Q3.live 3
  clear z1 Q1 Q2 Q3 Q3' o2 b1 kV1 zV1 hz0 hbz hV1
  go_wp2_with fail
  rw [HV1.out]
  clear HV1
  have HC2 := to_R_StringS m k4 n4 nb V1 a4 c4 (by omega) hf4 (by have := HB1.out.size; omega) (by omega) (HS4.out.below HB1.out (fun c hc => by omega))
  refine HC2.mono ?_
  clear HC2
  rintro e w2 ⟨d4, g4, rfl, s4, b2, o4⟩
  have z2 := b2.size
  have Q1 := HQ11.out.below b2
  have Q2 := HQ21.out.below b2
  have Q3 := HQ31.out.below b2
  have HO2 := hide o4
  have HBe2 := hide b2
  obtain ⟨V2, hV2⟩ : ∃ V, (w2.setCell ⟨W.heap.size + 1 + 1, 4, none⟩ (.slice (some ⟨d4, 0, none⟩) n4 n4)) = V := ⟨_, rfl⟩
  have kV2 : Kept (fun c => c ≠ (W.heap.size + 1 + 1)) w2 V2 := by
    rw [← hV2]
    repeat first | (with_reducible refine Kept.set ?_ (by simp)) | with_reducible exact Kept.refl _ _
  have zV2 : V2.heap.size = w2.heap.size := by rw [← hV2]; simp [World.setCell]
  have Q3' : Bx V2 (W.heap.size + 1 + 1) [.int .i64 x0, .string x1, .bool x2, .slice d3 n3 e3, .slice (some ⟨d4, 0, none⟩) n4 n4, .slice none 0 0, .slice none 0 0] := by
    rw [← hV2]
    exact (Q3.put 4 (.slice (some ⟨d4, 0, none⟩) n4 n4) (by simp))
  have hz0 := HZ0.out
  have hbz := HB1.out.size
  have Hk2 := hide kV2
  have HV2 := hide hV2
  have Hz2 := hide (And.intro z2 zV2)
  have HB2 : Hid (Below W.heap.size W V2) := Below.kept (HB1.out.trans (b2.mono hbz)) kV2 (fun c hc => by show c ≠ _; omega) (Nat.le_refl _)
  have HQ12 := hide (Q1.kept kV2 (by show _ ≠ _; omega))
  have HQ22 := hide (Q2.kept kV2 (by show _ ≠ _; omega))
  have HQ32 := hide Q3'
  have y25 : w2.cell? ⟨W.heap.size, 5, none⟩ = some (.slice a5 n5 c5) := Q1.cel 5 _ rfl
  have Y25 : V2.cell? ⟨W.heap.size, 5, none⟩ = some (.slice a5 n5 c5) := HQ12.out.cel 5 _ rfl
  have y26 : w2.cell? ⟨W.heap.size, 6, none⟩ = some (.slice a6 n6 c6) := Q1.cel 6 _ rfl
  have Y26 : V2.cell? ⟨W.heap.size, 6, none⟩ = some (.slice a6 n6 c6) := HQ12.out.cel 6 _ rfl
  have l24 : w2.cell? ⟨W.heap.size + 1 + 1, 4, none⟩ = some (.slice none 0 0) := Q3.cel 4 _ rfl
  have f24 := Q3.live 4
  clear z2 Q1 Q2 Q3 Q3' o4 b2 kV2 zV2 hz0 hbz hV2
  go_wp2_with fail
  rw [HV2.out]
  clear HV2
  have HC3 := hCore k5 n5 nb V2 a5 c5 (by omega) hf5 (by have := HB2.out.size; omega) (by omega) (HS5.out.below HB2.out (fun c hc => by omega))
  refine HC3.mono ?_
  clear HC3
  rintro e w3 ⟨d5, g5, rfl, s5, b3, o5⟩
  have z3 := b3.size
  have Q1 := HQ12.out.below b3
  have Q2 := HQ22.out.below b3
  have Q3 := HQ32.out.below b3
  have HO3 := hide o5
  have HBe3 := hide b3
  obtain ⟨V3, hV3⟩ : ∃ V, (w3.setCell ⟨W.heap.size + 1 + 1, 5, none⟩ (.slice (some ⟨d5, 0, none⟩) n5 n5)) = V := ⟨_, rfl⟩
  have kV3 : Kept (fun c => c ≠ (W.heap.size + 1 + 1)) w3 V3 := by
    rw [← hV3]
    repeat first | (with_reducible refine Kept.set ?_ (by simp)) | with_reducible exact Kept.refl _ _
  have zV3 : V3.heap.size = w3.heap.size := by rw [← hV3]; simp [World.setCell]
  have Q3' : Bx V3 (W.heap.size + 1 + 1) [.int .i64 x0, .string x1, .bool x2, .slice d3 n3 e3, .slice (some ⟨d4, 0, none⟩) n4 n4, .slice (some ⟨d5, 0, none⟩) n5 n5, .slice none 0 0] := by
    rw [← hV3]
    exact (Q3.put 5 (.slice (some ⟨d5, 0, none⟩) n5 n5) (by simp))
  have hz0 := HZ0.out
  have hbz := HB2.out.size
  have Hk3 := hide kV3
  have HV3 := hide hV3
  have Hz3 := hide (And.intro z3 zV3)
  have HB3 : Hid (Below W.heap.size W V3) := Below.kept (HB2.out.trans (b3.mono hbz)) kV3 (fun c hc => by show c ≠ _; omega) (Nat.le_refl _)
  have HQ13 := hide (Q1.kept kV3 (by show _ ≠ _; omega))
  have HQ23 := hide (Q2.kept kV3 (by show _ ≠ _; omega))
  have HQ33 := hide Q3'
  have y36 : w3.cell? ⟨W.heap.size, 6, none⟩ = some (.slice a6 n6 c6) := Q1.cel 6 _ rfl
  have Y36 : V3.cell? ⟨W.heap.size, 6, none⟩ = some (.slice a6 n6 c6) := HQ13.out.cel 6 _ rfl
  have l35 : w3.cell? ⟨W.heap.size + 1 + 1, 5, none⟩ = some (.slice none 0 0) := Q3.cel 5 _ rfl
  have f35 := Q3.live 5
  clear z3 Q1 Q2 Q3 Q3' o5 b3 kV3 zV3 hz0 hbz hV3
  go_wp2_with fail
  rw [HV3.out]
  clear HV3
  have HC4 := hCoreAlt k6 n6 nb V3 a6 c6 (by omega) hf6 (by have := HB3.out.size; omega) (by omega) (HS6.out.below HB3.out (fun c hc => by omega))
  refine HC4.mono ?_
  clear HC4
  rintro e w4 ⟨d6, g6, rfl, s6, b4, o6⟩
  have z4 := b4.size
  have Q1 := HQ13.out.below b4
  have Q2 := HQ23.out.below b4
  have Q3 := HQ33.out.below b4
  have HO4 := hide o6
  have HBe4 := hide b4
  have l40 : w4.cell? ⟨W.heap.size + 1 + 1, 0, none⟩ = some (.int .i64 x0) := Q3.cel 0 _ rfl
  have f40 := Q3.live 0
  have m40 : w4.cell? ⟨W.heap.size + 1, 0, none⟩ = some (.int .i64 0) := Q2.cel 0 _ rfl
  have v40 := Q2.live 0
  have l41 : w4.cell? ⟨W.heap.size + 1 + 1, 1, none⟩ = some (.string x1) := Q3.cel 1 _ rfl
  have f41 := Q3.live 1
  have m41 : w4.cell? ⟨W.heap.size + 1, 1, none⟩ = some (.string ⟨#[]⟩) := Q2.cel 1 _ rfl
  have v41 := Q2.live 1
  have l42 : w4.cell? ⟨W.heap.size + 1 + 1, 2, none⟩ = some (.bool x2) := Q3.cel 2 _ rfl
  have f42 := Q3.live 2
  have m42 : w4.cell? ⟨W.heap.size + 1, 2, none⟩ = some (.bool false) := Q2.cel 2 _ rfl
  have v42 := Q2.live 2
  have l43 : w4.cell? ⟨W.heap.size + 1 + 1, 3, none⟩ = some (.slice d3 n3 e3) := Q3.cel 3 _ rfl
  have f43 := Q3.live 3
  have m43 : w4.cell? ⟨W.heap.size + 1, 3, none⟩ = some (.slice none 0 0) := Q2.cel 3 _ rfl
  have v43 := Q2.live 3
  have l44 : w4.cell? ⟨W.heap.size + 1 + 1, 4, none⟩ = some (.slice (some ⟨d4, 0, none⟩) n4 n4) := Q3.cel 4 _ rfl
  have f44 := Q3.live 4
  have m44 : w4.cell? ⟨W.heap.size + 1, 4, none⟩ = some (.slice none 0 0) := Q2.cel 4 _ rfl
  have v44 := Q2.live 4
  have l45 : w4.cell? ⟨W.heap.size + 1 + 1, 5, none⟩ = some (.slice (some ⟨d5, 0, none⟩) n5 n5) := Q3.cel 5 _ rfl
  have f45 := Q3.live 5
  have m45 : w4.cell? ⟨W.heap.size + 1, 5, none⟩ = some (.slice none 0 0) := Q2.cel 5 _ rfl
  have v45 := Q2.live 5
  have l46 : w4.cell? ⟨W.heap.size + 1 + 1, 6, none⟩ = some (.slice none 0 0) := Q3.cel 6 _ rfl
  have f46 := Q3.live 6
  have m46 : w4.cell? ⟨W.heap.size + 1, 6, none⟩ = some (.slice none 0 0) := Q2.cel 6 _ rfl
  have v46 := Q2.live 6
  have Hz4 := hide z4
  clear z4 Q1 Q2 Q3 o6 b4
  go_wp2_with fail
  have hz0 := HZ0.out
  refine bodyPost_ret (v := .agg #[.int .i64 x0, .string x1, .bool x2, .slice d3 n3 e3, .slice (some ⟨d4, 0, none⟩) n4 n4, .slice (some ⟨d5, 0, none⟩) n5 n5, .slice (some ⟨d6, 0, none⟩) n6 n6]) (by simp [results, Try.results7, go_sem, m40, m41, m42, m43, m44, m45, m46]) rfl ⟨(.v (.int .i64 x0) (.v (.string x1) (.v (.bool x2) (.s d3 n3 e3 t3 (.s (some ⟨d4, 0, none⟩) n4 n4 g4 (.s (some ⟨d5, 0, none⟩) n5 n5 g5 (.s (some ⟨d6, 0, none⟩) n6 n6 g6 .nil))))))), rfl, ⟨rfl, rfl, rfl, rfl, r3, rfl, s4, rfl, s5, rfl, s6, trivial⟩, ?_⟩
  refine (fun (V : World) (kV : Kept (fun c => c ≠ W.heap.size + 1 ∧ c ≠ W.heap.size + 1 + 1) w4 V) => (?_ : Below W.heap.size W V ∧ Own W.heap.size V (.v (.int .i64 x0) (.v (.string x1) (.v (.bool x2) (.s d3 n3 e3 t3 (.s (some ⟨d4, 0, none⟩) n4 n4 g4 (.s (some ⟨d5, 0, none⟩) n5 n5 g5 (.s (some ⟨d6, 0, none⟩) n6 n6 g6 .nil))))))))) _ ?_
  · have hbz := HB3.out.size
    have hzl := Hz4.out
    have Bl := HB3.out.trans (HBe4.out.mono hbz)
    refine ⟨Below.kept Bl kV (fun c hc => by omega) (Nat.le_refl _), ?_⟩
    have R4 : Own V3.heap.size w4 (.s (some ⟨d6, 0, none⟩) n6 n6 g6 .nil) := HO4.out
    have hs3z := Hz3.out
    have P3 : Own V2.heap.size V3 (.s (some ⟨d5, 0, none⟩) n5 n5 g5 .nil) := HO3.out.kept Hk3.out (fun c hc _ => by show c ≠ _; have := HB2.out.size; have := HZ0.out; have := Hz1.out; have := Hz2.out; have := HBe1.out.size; have := HBe2.out.size; have := HBe3.out.size; omega)
    have K3 : Kept (fun c => c ≠ (W.heap.size + 1 + 1)) V3 w4 := kt HBe4.out
    have R3 : Own V2.heap.size w4 (.s (some ⟨d5, 0, none⟩) n5 n5 g5 (.s (some ⟨d6, 0, none⟩) n6 n6 g6 .nil)) := P3.appk K3 (fun c hc _ => by show c ≠ _; have := HZ0.out; have := Hz1.out; have := Hz2.out; have := Hz3.out; have := HBe1.out.size; have := HBe2.out.size; have := HBe3.out.size; omega) (by have := HZ0.out; have := Hz1.out; have := Hz2.out; have := Hz3.out; have := HBe1.out.size; have := HBe2.out.size; have := HBe3.out.size; omega) R4
    have hs2z := Hz2.out
    have P2 : Own V1.heap.size V2 (.s (some ⟨d4, 0, none⟩) n4 n4 g4 .nil) := HO2.out.kept Hk2.out (fun c hc _ => by show c ≠ _; have := HB1.out.size; have := HZ0.out; have := Hz1.out; have := HBe1.out.size; have := HBe2.out.size; omega)
    have K2 : Kept (fun c => c ≠ (W.heap.size + 1 + 1)) V2 w4 := ((kt HBe3.out).trans Hk3.out).trans (kt HBe4.out)
    have R2 : Own V1.heap.size w4 (.s (some ⟨d4, 0, none⟩) n4 n4 g4 (.s (some ⟨d5, 0, none⟩) n5 n5 g5 (.s (some ⟨d6, 0, none⟩) n6 n6 g6 .nil))) := P2.appk K2 (fun c hc _ => by show c ≠ _; have := HZ0.out; have := Hz1.out; have := Hz2.out; have := HBe1.out.size; have := HBe2.out.size; omega) (by have := HZ0.out; have := Hz1.out; have := Hz2.out; have := HBe1.out.size; have := HBe2.out.size; omega) R3
    have hs1z := Hz1.out
    have P1 : Own V0.heap.size V1 (.v (.bool x2) (.s d3 n3 e3 t3 .nil)) := HO1.out.kept Hk1.out (fun c hc _ => by show c ≠ _; have := HB0.out.size; have := HZ0.out;  have := HBe1.out.size; omega)
    have K1 : Kept (fun c => c ≠ (W.heap.size + 1 + 1)) V1 w4 := ((((kt HBe2.out).trans Hk2.out).trans (kt HBe3.out)).trans Hk3.out).trans (kt HBe4.out)
    have R1 : Own V0.heap.size w4 (.v (.bool x2) (.s d3 n3 e3 t3 (.s (some ⟨d4, 0, none⟩) n4 n4 g4 (.s (some ⟨d5, 0, none⟩) n5 n5 g5 (.s (some ⟨d6, 0, none⟩) n6 n6 g6 .nil))))) := P1.appk K1 (fun c hc _ => by show c ≠ _; have := HZ0.out; have := Hz1.out; have := HBe1.out.size; omega) (by have := HZ0.out; have := Hz1.out; have := HBe1.out.size; omega) R2
    exact Own.mono (show Own V0.heap.size V (.v (.int .i64 x0) (.v (.string x1) (.v (.bool x2) (.s d3 n3 e3 t3 (.s (some ⟨d4, 0, none⟩) n4 n4 g4 (.s (some ⟨d5, 0, none⟩) n5 n5 g5 (.s (some ⟨d6, 0, none⟩) n6 n6 g6 .nil))))))) from ((R1.kept kV (fun c hc _ => by omega)).v _).v _) (by omega)
  · repeat first | (with_reducible refine Kept.set ?_ (by simp)) | with_reducible exact Kept.refl _ _

theorem Try.info36 : (Try.prog.info? 36).map (fun i => (i.zero, i.size, i.bytes)) = some (some (.agg #[.int .i64 0, .string ⟨#[]⟩, .bool false, .slice none 0 0, .slice none 0 0, .slice none 0 0, .slice none 0 0]), 7, 128) := by kernel_rfl
theorem run_make_CoreS (n : Nat) (hn : n ≤ 1048576) (w : World) :
    (Instr.makeSlice 33 (.int .i64 (n : Int)) (.int .i64 (n : Int))).run Try.prog w = .ok (.slice (some ⟨w.heap.size, 0, none⟩) n n) (w.alloc (.cells (madeCells (Value.cells (.agg #[.int .i64 0, .string ⟨#[]⟩, .bool false, .slice none 0 0, .slice none 0 0, .slice none 0 0, .slice none 0 0])) (n * 7)) 36)) := by
  obtain ⟨i, hi, hzz⟩ := Option.map_eq_some_iff.1 Try.info36
  simp only [Prod.mk.injEq] at hzz
  obtain ⟨hz, hs, hb⟩ := hzz
  have hr := run_make (P := Try.prog) w 33 36 i _ Try.underlying33 hi hz .i64 .i64 n n (by omega) (Int.le_refl _) (by rw [hb]; omega) (by omega)
  simp only [Int.toNat_natCast, hs] at hr
  exact hr
set_option maxHeartbeats 2000000 in
set_option maxRecDepth 100000 in
theorem to_R_CoreS_of (m : Nat) (h : ToC Try.prog E 7 (E 3) m) : ToR Try.prog E 18 (E 3) m := by
  intro F n nb W a cap hm hf hn ht hs
  have hmk := run_make_CoreS n (by omega)
  have HR := hide (Rd.start hf hs)
  have HM := hide hm
  clear hf hs hm
  go_enter Try.func18, Try.ntmps18
  go_wp2_with fail
  clear hmk
  have HI : Hid (ToI (E 3) n F W 0 F .nil .nil (W.alloc (.cells (madeCells #[.int .i64 0, .string ⟨#[]⟩, .bool false, .slice none 0 0, .slice none 0 0, .slice none 0 0, .slice none 0 0] (n * 7)) 36))) := ToI.start _ _ (size_madeCells _ _)
  have HR0 := hide (HR.out.below (below_alloc1 W (.cells (madeCells #[.int .i64 0, .string ⟨#[]⟩, .bool false, .slice none 0 0, .slice none 0 0, .slice none 0 0, .slice none 0 0] (n * 7)) 36)) hn)
  skip
  generalize W.alloc (.cells (madeCells #[.int .i64 0, .string ⟨#[]⟩, .bool false, .slice none 0 0, .slice none 0 0, .slice none 0 0, .slice none 0 0] (n * 7)) 36) = W0 at *
  go_loopw [4] (fun s4 wr => ∃ (i : Nat) (r Fp Gp : Fo), s4 = .int .i64 i ∧ i ≤ n ∧ Hid (ToI (E 3) n F W i r Fp Gp wr) ∧ Hid (Rd E (E 3) n nb a i r wr)) (fun s4 _ => n - (intOf s4).toNat)
  case atStart => exact ⟨0, F, .nil, .nil, rfl, Nat.zero_le _, HI, HR0⟩
  case round =>
    obtain ⟨i, r, Fp, Gp, rfl, hin, hI, hR⟩ := hrel
    by_cases hi : i < n
    · obtain ⟨x, q, b, o, rfl, hx, rfl, hb, hc, hxs, hR1⟩ := hR.out.next hi (by decide)
      have HR1 := hide hR1
      have hfs := hI.out.eq
      have hzs : x.size ≤ F.size ∧ x.wt ≤ F.wt := by rw [← hfs, Fo.app_size, Fo.app_wt, Fo.app_size, Fo.app_wt]; omega
      have hxl : Hid (x.len = 7) := Fit.len hx
      have hws := hI.out.size
      have hbl := hI.out.bel.size
      have hii : (i : Int) < n := by omega
      have hri := hI.out.room
      clear hR hR1 hfs
      have HC := hide (h x nb wr (by have := HM.out; omega) hx (by omega) (by omega) hxs)
      have HBL := hide (And.intro hws hbl)
      clear hws hbl hzs hxs
      have hx' : Fit E x [.i, .t, .b, .s 0, .s 1, .s 3, .s 2] := hx
      obtain ⟨X, hX⟩ : ∃ X, x = X := ⟨_, rfl⟩
      have HXE := hide hX
      rw [hX] at hx'
      clear hX
      obtain ⟨x0, F0, rfl, hx0, hx'⟩ := fit_i hx'
      obtain ⟨x1, F1, rfl, hx1, hx'⟩ := fit_t hx'
      obtain ⟨x2, F2, rfl, hx'⟩ := fit_b hx'
      obtain ⟨a3, n3, c3, k3, F3, rfl, hf3, hx'⟩ := fit_s hx'
      obtain ⟨a4, n4, c4, k4, F4, rfl, hf4, hx'⟩ := fit_s hx'
      obtain ⟨a5, n5, c5, k5, F5, rfl, hf5, hx'⟩ := fit_s hx'
      obtain ⟨a6, n6, c6, k6, F6, rfl, hf6, hx'⟩ := fit_s hx'
      obtain rfl := fit_nil hx'
      rw [HXE.out] at HC hc
      simp only [Fo.vals] at HC hc
      have p0 : wr.cell? ⟨b, o + i * 7, none⟩ = some (.int .i64 x0) := hc 0 _ rfl
      have p1 : wr.cell? ⟨b, o + i * 7 + 1, none⟩ = some (.string x1) := hc 1 _ rfl
      have p2 : wr.cell? ⟨b, o + i * 7 + 2, none⟩ = some (.bool x2) := hc 2 _ rfl
      have p3 : wr.cell? ⟨b, o + i * 7 + 3, none⟩ = some (.slice a3 n3 c3) := hc 3 _ rfl
      have p4 : wr.cell? ⟨b, o + i * 7 + 4, none⟩ = some (.slice a4 n4 c4) := hc 4 _ rfl
      have p5 : wr.cell? ⟨b, o + i * 7 + 5, none⟩ = some (.slice a5 n5 c5) := hc 5 _ rfl
      have p6 : wr.cell? ⟨b, o + i * 7 + 6, none⟩ = some (.slice a6 n6 c6) := hc 6 _ rfl
      clear hc
      go_wp2_with fail
      refine HC.out.mono ?_
      clear HC
      rintro e w1 ⟨G, rfl, s0, b1, o0⟩
      have HO := hide o0
      have HB1 := hide b1
      have HSG := hide s0
      obtain ⟨G', hG'⟩ : ∃ G', G = G' := ⟨_, rfl⟩
      have HGE := hide hG'
      rw [hG'] at s0 ⊢
      clear hG'
      obtain ⟨u0, rfl, s0_1⟩ := Fo.sim_v s0
      obtain ⟨u1, rfl, s0_2⟩ := Fo.sim_v s0_1
      obtain ⟨u2, rfl, s0_3⟩ := Fo.sim_v s0_2
      obtain ⟨d3, e3, t3, u3, rfl, r3, s0_4⟩ := Fo.sim_s s0_3
      obtain ⟨d4, e4, t4, u4, rfl, r4, s0_5⟩ := Fo.sim_s s0_4
      obtain ⟨d5, e5, t5, u5, rfl, r5, s0_6⟩ := Fo.sim_s s0_5
      obtain ⟨d6, e6, t6, u6, rfl, r6, s0_7⟩ := Fo.sim_s s0_6
      obtain rfl := Fo.sim_nil s0_7
      simp only [Fo.vals]
      have hR2 := hri.below b1 (by have := HBL.out; omega)
      obtain ⟨⟨v0, l0⟩, f0⟩ := hR2 (i * 7) (by show _ < n * 7; omega)
      obtain ⟨⟨v1, l1⟩, f1⟩ := hR2 (i * 7 + 1) (by show _ < n * 7; omega)
      obtain ⟨⟨v2, l2⟩, f2⟩ := hR2 (i * 7 + 2) (by show _ < n * 7; omega)
      obtain ⟨⟨v3, l3⟩, f3⟩ := hR2 (i * 7 + 3) (by show _ < n * 7; omega)
      obtain ⟨⟨v4, l4⟩, f4⟩ := hR2 (i * 7 + 4) (by show _ < n * 7; omega)
      obtain ⟨⟨v5, l5⟩, f5⟩ := hR2 (i * 7 + 5) (by show _ < n * 7; omega)
      obtain ⟨⟨v6, l6⟩, f6⟩ := hR2 (i * 7 + 6) (by show _ < n * 7; omega)
      clear hR2 hri b1 o0
      go_wp2_with fail
      go_roundw
      case rel =>
        refine ⟨i + 1, q, Fp.app x, Gp.app G, by go_num, by omega, ?_, ?_⟩
        · have h1 := hI.out.step (G := G) hi hxl.out HB1.out (by rw [HXE.out]; exact HSG.out) HO.out
          rw [HGE.out] at h1 ⊢
          exact h1
        · have h1 := (HR1.out.below HB1.out (by have := HBL.out; omega)).kept (setL_kept [.int .i64 x0, .string x1, .bool x2, .slice d3 n3 e3, .slice d4 n4 e4, .slice d5 n5 e5, .slice d6 n6 e6] w1 W.heap.size (i * 7)) (by have := HBL.out; have := HB1.out.size; omega) (fun c hc => by show c ≠ _; omega)
          exact h1
      case measure => simp [intOf]; omega
    · obtain ⟨rfl, rfl⟩ := hR.out.done hi
      have h1 := hide (hI.out.finish (by omega))
      clear hR hI
      go_wp2_with fail
      go_ret
      exact ⟨W.heap.size, Gp, rfl, h1.out.1, h1.out.2.1, h1.out.2.2⟩

theorem to_group_CoreAlt : ∀ m : Nat, (ToC Try.prog E 34 (E 2) m ∧ ToR Try.prog E 19 (E 2) m) ∧ (ToC Try.prog E 7 (E 3) m ∧ ToR Try.prog E 18 (E 3) m)
  | 0 => by
    have cCoreAlt : ToC Try.prog E 34 (E 2) 0 := (fun F _ _ hm hf => absurd (Fit.len hf) (by have := F.len_le; show ¬ F.len = 9; omega))
    have rCoreAlt := to_R_CoreAltS_of 0 cCoreAlt
    have cCore : ToC Try.prog E 7 (E 3) 0 := (fun F _ _ hm hf => absurd (Fit.len hf) (by have := F.len_le; show ¬ F.len = 7; omega))
    have rCore := to_R_CoreS_of 0 cCore
    exact ⟨⟨cCoreAlt, rCoreAlt⟩, ⟨cCore, rCore⟩⟩
  | m + 1 => by
    have ih := to_group_CoreAlt m
    have cCore := to_C_Core m ih.2.2 ih.1.2 
    have rCore := to_R_CoreS_of (m + 1) cCore
    have cCoreAlt := to_C_CoreAlt (m + 1) cCore
    have rCoreAlt := to_R_CoreAltS_of (m + 1) cCoreAlt
    exact ⟨⟨cCoreAlt, rCoreAlt⟩, ⟨cCore, rCore⟩⟩
theorem to_R_CoreAltS (m : Nat) : ToR Try.prog E 19 (E 2) m := (to_group_CoreAlt m).1.2
theorem to_C_CoreAlt_all (m : Nat) : ToC Try.prog E 34 (E 2) m := (to_group_CoreAlt m).1.1
theorem to_R_CoreS (m : Nat) : ToR Try.prog E 18 (E 3) m := (to_group_CoreAlt m).2.2
theorem to_C_Core_all (m : Nat) : ToC Try.prog E 7 (E 3) m := (to_group_CoreAlt m).2.1
end Go.Proofs.Ytfgmgbkiebeeoaa
