import Derived.Test.YtcnokpaicnjkfaaDg
namespace Go.Proofs.Ytcnokpaicnjkfaa
open Go.RowKit Go.Joins

/-- One mark more. -/
def hw (b : Bool) (m h : Int) : Int := if b then bits .or .i64 h m else h

/-- Only what is allowed is there. -/
def only (al : Int) (b1 b2 b3 b4 b5 : Bool) : Bool := bits .andNot .i64 (hw b5 16 (hw b4 8 (hw b3 4 (hw b2 2 (hw b1 1 0))))) al == 0

theorem only_1 (b1 b2 b3 b4 b5 : Bool) : only 1 b1 b2 b3 b4 b5 = (!b2 && !b3 && !b4 && !b5) := by cases b1 <;> cases b2 <;> cases b3 <;> cases b4 <;> cases b5 <;> rfl
theorem only_2 (b1 b2 b3 b4 b5 : Bool) : only 2 b1 b2 b3 b4 b5 = (!b1 && !b3 && !b4 && !b5) := by cases b1 <;> cases b2 <;> cases b3 <;> cases b4 <;> cases b5 <;> rfl
theorem only_8 (b1 b2 b3 b4 b5 : Bool) : only 8 b1 b2 b3 b4 b5 = (!b1 && !b2 && !b3 && !b5) := by cases b1 <;> cases b2 <;> cases b3 <;> cases b4 <;> cases b5 <;> rfl
theorem only_9 (b1 b2 b3 b4 b5 : Bool) : only 9 b1 b2 b3 b4 b5 = (!b2 && !b3 && !b5) := by cases b1 <;> cases b2 <;> cases b3 <;> cases b4 <;> cases b5 <;> rfl
theorem only_12 (b1 b2 b3 b4 b5 : Bool) : only 12 b1 b2 b3 b4 b5 = (!b1 && !b2 && !b5) := by cases b1 <;> cases b2 <;> cases b3 <;> cases b4 <;> cases b5 <;> rfl
theorem only_25 (b1 b2 b3 b4 b5 : Bool) : only 25 b1 b2 b3 b4 b5 = (!b2 && !b3) := by cases b1 <;> cases b2 <;> cases b3 <;> cases b4 <;> cases b5 <;> rfl

set_option maxHeartbeats 2000000 in
set_option maxRecDepth 100000 in
theorem i_only (al : Int) (d : Nd) (k : Int) (nm : ByteArray) (mn : Bool) (la na ka aa : Option Addr) (ln lc nn nc kn kc an ac : Nat) (W : World)
    (hc : Cel W [.int .i64 k, .string nm, .bool mn, .slice la ln lc, .slice na nn nc, .slice ka kn kc, .slice aa an ac] d.b d.o) (hb : d.b < W.heap.size)
    (q : Bool) (hq : q = only al (!nm.toList.isEmpty) (mn || decide (0 < ln)) (decide (0 < nn)) (decide (0 < kn)) (decide (0 < an))) :
    Calls Try.prog 86 #[.agg #[d.ptr], .int .i64 al] W fun e W' => e = .returned (.bool q) ∧ Below W.heap.size W W' := by
  have HB := hide (below_alloc1 W (.cells #[.pointer (some ⟨d.b, d.o, none⟩)] 113))
  have c1 := hc.below HB.out hb 1 _ rfl
  have c2 := hc.below HB.out hb 2 _ rfl
  have c3 := hc.below HB.out hb 3 _ rfl
  have c4 := hc.below HB.out hb 4 _ rfl
  have c5 := hc.below HB.out hb 5 _ rfl
  have c6 := hc.below HB.out hb 6 _ rfl
  simp only [Nd.ptr]
  have HQ := hide hq
  clear hc hq hb
  go_enter Try.func86, Try.ntmps86
  go_wp2_with fail
  all_goals
    go_ret
    refine ⟨?_, HB.out⟩
    rw [HQ.out]
    show Ending.returned (.bool _) = Ending.returned (.bool _)
    clear HB HQ c1 c2 c3 c4 c5 c6
    simp [only, hw, *]

end Go.Proofs.Ytcnokpaicnjkfaa
