import Derived.Test.YtmnligaelihmiaaKToint64
import Derived.Test.YtmnligaelihmiaaUt
import Derived.Deep.RegionHeld3
namespace Go.Proofs.Ytmnligaelihmiaa
open Go.RowKit Go.Joins

theorem Try.info27 : (Try.prog.info? 27).map (fun i => (i.zero, i.size, i.bytes)) = some (some (.slice none 0 0), 1, 24) := by kernel_rfl
theorem run_make_Int64SS (n : Nat) (hn : n ≤ 1048576) (w : World) :
    (Instr.makeSlice 23 (.int .i64 (n : Int)) (.int .i64 (n : Int))).run Try.prog w = .ok (.slice (some ⟨w.heap.size, 0, none⟩) n n) (w.alloc (.cells (madeCells (Value.cells (.slice none 0 0)) (n * 1)) 27)) := by
  obtain ⟨i, hi, hzz⟩ := Option.map_eq_some_iff.1 Try.info27
  simp only [Prod.mk.injEq] at hzz
  obtain ⟨hz, hs, hb⟩ := hzz
  have hr := run_make (P := Try.prog) w 23 27 i _ Try.underlying23 hi hz .i64 .i64 n n (by omega) (Int.le_refl _) (by rw [hb]; omega) (by omega)
  simp only [Int.toNat_natCast, hs] at hr
  exact hr
set_option maxHeartbeats 2000000 in
set_option maxRecDepth 100000 in
theorem to_R_Int64SS (m : Nat) : ToR Try.prog E 10 (E 1) m := by
  intro F n nb W a cap hm hf hn ht hs
  have hmk := run_make_Int64SS n (by omega)
  have HR := hide (Rd.start hf hs)
  have HM := hide hm
  clear hf hs hm
  go_enter Try.func10, Try.ntmps10
  go_wp2_with fail
  clear hmk
  have HI : Hid (ToI (E 1) n F W 0 F .nil .nil (W.alloc (.cells (madeCells #[.slice none 0 0] (n * 1)) 27))) := ToI.start _ _ (size_madeCells _ _)
  have HR0 := hide (HR.out.below (below_alloc1 W (.cells (madeCells #[.slice none 0 0] (n * 1)) 27)) hn)
  rw [Nat.mul_one] at *
  generalize W.alloc (.cells (madeCells #[.slice none 0 0] n) 27) = W0 at *
  go_loopw [4] (fun s4 wr => ∃ (i : Nat) (r Fp Gp : Fo), s4 = .int .i64 i ∧ i ≤ n ∧ Hid (ToI (E 1) n F W i r Fp Gp wr) ∧ Hid (Rd E (E 1) n nb a i r wr)) (fun s4 _ => n - (intOf s4).toNat)
  case atStart => exact ⟨0, F, .nil, .nil, rfl, Nat.zero_le _, HI, HR0⟩
  case round =>
    obtain ⟨i, r, Fp, Gp, rfl, hin, hI, hR⟩ := hrel
    by_cases hi : i < n
    · obtain ⟨x, q, b, o, rfl, hx, rfl, hb, hc, hxs, hR1⟩ := hR.out.next hi (by decide)
      have HR1 := hide hR1
      have hfs := hI.out.eq
      have hzs : x.size ≤ F.size ∧ x.wt ≤ F.wt := by rw [← hfs, Fo.app_size, Fo.app_wt, Fo.app_size, Fo.app_wt]; omega
      have hxl : Hid (x.len = 1) := Fit.len hx
      have hws := hI.out.size
      have hbl := hI.out.bel.size
      have hii : (i : Int) < n := by omega
      clear hR hR1 hfs
      replace hx : Fit E x [.s 0] := hx
      obtain ⟨a0, n0, c0, k0, F0, rfl, hf0, hx⟩ := fit_s hx
      obtain rfl := fit_nil hx
      obtain ⟨hs0, -⟩ := hxs
      simp only [Fo.size, Fo.wt] at hzs
      have p0 : wr.cell? ⟨b, o + i * 1, none⟩ = some (.slice a0 n0 c0) := hc 0 _ rfl
      rw [Nat.mul_one] at p0
      have HC := hide (to_R_Int64S m k0 n0 nb wr a0 c0 (by have := HM.out; omega) hf0 (by omega) (by omega) hs0)
      have HBL := hide (And.intro hws hbl)
      clear hc hs0 hws hbl hzs
      go_wp2_with fail
      refine HC.out.mono ?_
      rintro e w2 ⟨d0, G0, rfl, g1, b2, o2⟩
      have hI2 := hI.out
      have hws2 := b2.size
      have hri := (hI2.room.below b2 (by have := HBL.out; omega)) i (by show _ < n * 1; omega)
      obtain ⟨⟨v0, l0⟩, f0⟩ := hri
      have HB2 := hide b2
      have HO2 := hide o2
      have HG1 := hide g1
      have HW2 := hide hws2
      clear b2 o2 g1 hI2 hws2
      go_wp2_with fail
      go_roundw
      case rel =>
        refine ⟨i + 1, q, Fp.app (.s a0 n0 c0 k0 .nil), Gp.app (.s (some ⟨d0, 0, none⟩) n0 n0 G0 .nil), by go_num, by omega, ?_, ?_⟩
        · have h1 := hI.out.step (G := .s (some ⟨d0, 0, none⟩) n0 n0 G0 .nil) hi hxl.out HB2.out ⟨rfl, HG1.out, trivial⟩ HO2.out
          have e3 : i * (E 1).length = i := Nat.mul_one i
          rw [e3] at h1
          exact h1
        · exact (HR1.out.below HB2.out (by have := HBL.out; omega)).kept (setL_kept [.slice (some ⟨d0, 0, none⟩) n0 n0] w2 W.heap.size i) (by have := HBL.out; have := HW2.out; omega) (fun c hc => by show c ≠ _; omega)
      case measure => simp [intOf]; omega
    · obtain ⟨rfl, rfl⟩ := hR.out.done hi
      have h1 := hide (hI.out.finish (by omega))
      clear hR hI
      go_wp2_with fail
      go_ret
      exact ⟨W.heap.size, Gp, rfl, h1.out.1, h1.out.2.1, h1.out.2.2⟩

end Go.Proofs.Ytmnligaelihmiaa
