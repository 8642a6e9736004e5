import Derived.Test.YtoeaaeimkkaldaaGreatRows
import Derived.ProofKit
import Derived.OpenShut
import Derived.WideShapes
import Derived.ShutString
import Derived.ChangeOld
import Derived.Lib.SmallJoins
import Derived.Deep.DeepCutAuto
namespace Go.Proofs.YtoeaaeimkkaldaaGreat
open Go.RowKit Go.Joins Go.ChangeShapes Go.WideShapes Go.ChangeAt

theorem Tryz.own : ownKnob Tryz.prog.godebug = none := by kernel_rfl
theorem Tryz.laidOut : laidOutB Tryz.prog = true := by kernel_rfl

/-- How a pass is called. -/
def pnF (p : Int) : ByteArray := if p = 1 then ⟨#[98, 101, 116, 97]⟩ else if p = 2 then ⟨#[107, 110, 111, 119, 110]⟩ else if p = 3 then ⟨#[100, 101, 97, 100]⟩ else if p = 4 then ⟨#[105, 110, 108, 105, 110, 101]⟩ else if p = 5 then ⟨#[102, 108, 111, 97, 116]⟩ else if p = 6 then ⟨#[115, 116, 114, 105, 99, 116]⟩ else ⟨#[]⟩

theorem p_cases (p : Int) : p < 0 ∨ p = 0 ∨ p = 1 ∨ p = 2 ∨ p = 3 ∨ p = 4 ∨ p = 5 ∨ p = 6 ∨ 6 < p := by omega

theorem pn_low {p : Int} (h : p < 1) : pnF p = ⟨#[]⟩ := by
  unfold pnF
  rw [if_neg (by omega), if_neg (by omega), if_neg (by omega), if_neg (by omega), if_neg (by omega), if_neg (by omega)]

theorem pn_high {p : Int} (h : 6 < p) : pnF p = ⟨#[]⟩ := by
  unfold pnF
  rw [if_neg (by omega), if_neg (by omega), if_neg (by omega), if_neg (by omega), if_neg (by omega), if_neg (by omega)]

set_option maxHeartbeats 4000000 in
set_option maxRecDepth 100000 in
theorem mName (p : Int) (W : World) : Calls Tryz.prog 4 #[.int .i64 p] W fun e W' => e = .returned (.string (pnF p)) ∧ Below W.heap.size W W' := by
  rcases p_cases p with h | rfl | rfl | rfl | rfl | rfl | rfl | rfl | h
  · rw [pn_low (by omega)]
    have h1 : p < 1 := by omega
    go_enter Tryz.func4, Tryz.ntmps4
    go_wp2_with fail
    go_ret
    exact ⟨rfl, Below.refl _ _⟩
  · go_enter Tryz.func4, Tryz.ntmps4
    go_wp2_with fail
    go_ret
    exact ⟨rfl, Below.refl _ _⟩
  all_goals try
    go_enter Tryz.func4, Tryz.ntmps4
    go_wp2_with fail
    go_ret
    exact ⟨rfl, below_alloc1 _ _⟩
  rw [pn_high h]
  have h1 : ¬ p < 1 := by omega
  go_enter Tryz.func4, Tryz.ntmps4
  go_wp2_with fail
  go_ret
  exact ⟨rfl, Below.refl _ _⟩

/-- The names of the table of passes. -/
def Rules (W W' : World) : Prop := W'.cell? ⟨W.heap.size, 0, none⟩ = some (.string ⟨#[]⟩) ∧ W'.cell? ⟨W.heap.size, 4, none⟩ = some (.string ⟨#[98, 101, 116, 97]⟩) ∧ W'.cell? ⟨W.heap.size, 8, none⟩ = some (.string ⟨#[107, 110, 111, 119, 110]⟩) ∧ W'.cell? ⟨W.heap.size, 12, none⟩ = some (.string ⟨#[100, 101, 97, 100]⟩) ∧ W'.cell? ⟨W.heap.size, 16, none⟩ = some (.string ⟨#[105, 110, 108, 105, 110, 101]⟩) ∧ W'.cell? ⟨W.heap.size, 20, none⟩ = some (.string ⟨#[102, 108, 111, 97, 116]⟩) ∧ W'.cell? ⟨W.heap.size, 24, none⟩ = some (.string ⟨#[115, 116, 114, 105, 99, 116]⟩)

set_option maxHeartbeats 4000000 in
set_option maxRecDepth 100000 in
theorem iRules (W : World) : Calls Tryz.prog 6 #[] W fun e W' => e = .returned (.slice (some ⟨W.heap.size, 0, none⟩) 7 7) ∧ Below W.heap.size W W' ∧ Rules W W' := by
  go_enter Tryz.func6, Tryz.ntmps6
  go_wp2_with fail
  go_ret
  refine ⟨rfl, below_alloc1 _ _, ?_⟩
  refine ⟨?_, ?_, ?_, ?_, ?_, ?_, ?_⟩ <;> exact (World.cell?_alloc_at _ _ _ _ rfl).trans rfl

set_option maxHeartbeats 4000000 in
set_option maxRecDepth 100000 in
theorem iName (p : Int) (W : World) : Calls Tryz.prog 5 #[.int .i64 p] W fun e W' => e = .returned (.string (pnF p)) ∧ Below W.heap.size W W' := by
  rcases p_cases p with h | rfl | rfl | rfl | rfl | rfl | rfl | rfl | h
  · rw [pn_low (by omega)]
    go_enter Tryz.func5, Tryz.ntmps5
    go_wp2_with (go_at_call 6; refine (iRules _).mono ?_; rintro e W1 ⟨rfl, b1, r1⟩)
    go_ret
    exact ⟨rfl, b1⟩
  iterate 7
    · go_enter Tryz.func5, Tryz.ntmps5
      go_upto_region 1 with fail
      go_wp2_with (go_at_call 6; refine (iRules _).mono ?_; rintro e W1 ⟨rfl, b1, r0, r1, r2, r3, r4, r5, r6⟩)
      go_ret
      exact ⟨rfl, b1⟩
  rw [pn_high h]
  have h1 : ¬ p < 0 := by omega
  have h2 : (7 : Int) ≤ p := by omega
  go_enter Tryz.func5, Tryz.ntmps5
  go_wp2_with (go_at_call 6; refine (iRules _).mono ?_; rintro e W1 ⟨rfl, b1, r1⟩)
  go_ret
  exact ⟨rfl, b1⟩

set_option maxHeartbeats 4000000 in
set_option maxRecDepth 100000 in
theorem lawName (p : Int) (W : World) : Calls Tryz.prog 3 #[.int .i64 p] W fun e W' => e = .returned (.bool true) ∧ Below W.heap.size W W' := by
  go_enter Tryz.func3, Tryz.ntmps3
  go_upto_region 1 with fail
  go_wp2_with (go_at_call 4; refine (mName _ _).mono ?_; rintro e W1 ⟨rfl, b1⟩)
  go_wp2_with (go_at_call 5; refine (iName _ _).mono ?_; rintro e W2 ⟨rfl, b2⟩)
  go_ret
  exact ⟨rfl, b1.trans (b2.mono b1.size)⟩

end Go.Proofs.YtoeaaeimkkaldaaGreat
