import Derived.Test.YtmnligaelihmiaaKa
namespace Go.Proofs.Ytmnligaelihmiaa
open Go.RowKit Go.Joins

theorem Try.info2 : (Try.prog.info? 2).map (fun i => (i.zero, i.size, i.bytes)) = some (some (.int .i64 0), 1, 8) := by kernel_rfl
theorem run_make_Int64S (n : Nat) (hn : n ≤ 1048576) (w : World) :
    (Instr.makeSlice 27 (.int .i64 (n : Int)) (.int .i64 (n : Int))).run Try.prog w = .ok (.slice (some ⟨w.heap.size, 0, none⟩) n n) (w.alloc (.cells (madeCells (Value.cells (.int .i64 0)) (n * 1)) 2)) := by
  obtain ⟨i, hi, hzz⟩ := Option.map_eq_some_iff.1 Try.info2
  simp only [Prod.mk.injEq] at hzz
  obtain ⟨hz, hs, hb⟩ := hzz
  have hr := run_make (P := Try.prog) w 27 2 i _ Try.underlying27 hi hz .i64 .i64 n n (by omega) (Int.le_refl _) (by rw [hb]; omega) (by omega)
  simp only [Int.toNat_natCast, hs] at hr
  exact hr
set_option maxHeartbeats 2000000 in
set_option maxRecDepth 100000 in
theorem to_R_Int64S (m : Nat) : ToR Try.prog E 23 (E 0) m := by
  intro F n nb W a cap hm hf hn ht hs
  have hmk := run_make_Int64S n (by omega)
  have HR := hide (Rd.start hf hs)
  have HM := hide hm
  clear hf hs hm
  go_enter Try.func23, Try.ntmps23
  go_wp2_with fail
  clear hmk
  have HI : Hid (ToI (E 0) n F W 0 F .nil .nil (W.alloc (.cells (madeCells #[.int .i64 0] (n * 1)) 2))) := ToI.start _ _ (size_madeCells _ _)
  have HR0 := hide (HR.out.below (below_alloc1 W (.cells (madeCells #[.int .i64 0] (n * 1)) 2)) hn)
  rw [Nat.mul_one] at *
  generalize W.alloc (.cells (madeCells #[.int .i64 0] n) 2) = W0 at *
  go_loopw [4] (fun s4 wr => ∃ (i : Nat) (r Fp Gp : Fo), s4 = .int .i64 i ∧ i ≤ n ∧ Hid (ToI (E 0) n F W i r Fp Gp wr) ∧ Hid (Rd E (E 0) n nb a i r wr)) (fun s4 _ => n - (intOf s4).toNat)
  case atStart => exact ⟨0, F, .nil, .nil, rfl, Nat.zero_le _, HI, HR0⟩
  case round =>
    obtain ⟨i, r, Fp, Gp, rfl, hin, hI, hR⟩ := hrel
    by_cases hi : i < n
    · obtain ⟨x, q, b, o, rfl, hx, rfl, hb, hc, hxs, hR1⟩ := hR.out.next hi (by decide)
      have HR1 := hide hR1
      have hfs := hI.out.eq
      have hzs : x.size ≤ F.size ∧ x.wt ≤ F.wt := by rw [← hfs, Fo.app_size, Fo.app_wt, Fo.app_size, Fo.app_wt]; omega
      have hxl : Hid (x.len = 1) := Fit.len hx
      have hws := hI.out.size
      have hbl := hI.out.bel.size
      have hii : (i : Int) < n := by omega
      have hri := hI.out.room
      clear hR hR1 hfs
      replace hx : Fit E x [.i] := hx
      obtain ⟨x0, F0, rfl, hx0, hx⟩ := fit_i hx
      obtain rfl := fit_nil hx
      have p0 : wr.cell? ⟨b, o + i * 1, none⟩ = some (.int .i64 x0) := hc 0 _ rfl
      rw [Nat.mul_one] at p0
      obtain ⟨⟨v0, l0⟩, f0⟩ := hri i (by show _ < n * 1; omega)
      have HBL := hide (And.intro hws hbl)
      clear hc hxs hri hws hbl hzs
      go_wp2_with fail
      go_roundw
      case rel =>
        refine ⟨i + 1, q, Fp.app (.v (.int .i64 x0) .nil), Gp.app (.v (.int .i64 x0) .nil), by go_num, by omega, ?_, ?_⟩
        · have h1 := hI.out.step (G := .v (.int .i64 x0) .nil) hi hxl.out (Below.refl _ _) ⟨rfl, trivial⟩ ⟨trivial, List.nodup_nil, fun _ hc => by simp [Fo.inn] at hc⟩
          have e3 : i * (E 0).length = i := Nat.mul_one i
          rw [e3] at h1
          exact h1
        · exact HR1.out.kept (setL_kept [.int .i64 x0] wr W.heap.size i) (by have := HBL.out; omega) (fun c hc => by show c ≠ _; omega)
      case measure => simp [intOf]; omega
    · obtain ⟨rfl, rfl⟩ := hR.out.done hi
      have h1 := hide (hI.out.finish (by omega))
      clear hR hI
      go_wp2_with fail
      go_ret
      exact ⟨W.heap.size, Gp, rfl, h1.out.1, h1.out.2.1, h1.out.2.2⟩

end Go.Proofs.Ytmnligaelihmiaa
