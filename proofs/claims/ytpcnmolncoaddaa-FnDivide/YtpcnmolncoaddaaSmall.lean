import Derived.Test.YtpcnmolncoaddaaSCompare
import Derived.Test.YtpcnmolncoaddaaArith
namespace Go.Proofs.Ytpcnmolncoaddaa
open Go.RowKit Go.Joins

set_option maxHeartbeats 400000 in
theorem smallIf_any (g : Bool) (x : Int) (w : World) :
    Calls Try.prog 71 #[.bool g, .int .i64 x] w fun e w' => e = .returned (.agg #[.bool g, .int .i64 (if g = true then x else 0)]) ∧ Below w.heap.size w w' := by
  cases g
  all_goals
    go_enter Try.func71, Try.ntmps71
    go_wp2
    refine bodyPost_ret (v := _) (by simp [results, Try.results71, go_sem]) rfl ⟨rfl, ?_⟩
    exact below_alloc1 _ _

set_option maxHeartbeats 400000 in
theorem eqSmall_any (g : Bool) (x : Int) (w : World) :
    Calls Try.prog 38 #[.agg #[.bool g, .int .i64 x], .agg #[.bool g, .int .i64 x]] w fun e w' => e = .returned (.bool true) ∧ Below w.heap.size w w' := by
  go_enter Try.func38, Try.ntmps38
  go_wp2
  go_ret
  exact ⟨rfl, below_alloc2 _ _ _⟩

theorem Lim.drewN {w v n f} (h : Lim w v n f) (q : Nat) : Lim (w.drewN q) v n f := h
theorem limb_q0 (v : Value) (n : Nat) (f : Nat → Nat) (w : World) (q : Nat) (hL : Lim w v n f) (hn : n ≤ 1048576) :
    Calls Try.prog 72 #[v, .int .i64 0] (w.drewN q) fun e w'' => e = .returned (.int .u64 (ext n f 0)) ∧ ∃ m, w'' = w.drewN m :=
  (limb_any v n f 0 (w.drewN q) (hL.drewN q) hn).mono fun _ _ ⟨he, hm⟩ => ⟨he, q, hm.symm⟩
theorem limb_q1 (v : Value) (n : Nat) (f : Nat → Nat) (w : World) (q : Nat) (hL : Lim w v n f) (hn : n ≤ 1048576) :
    Calls Try.prog 72 #[v, .int .i64 1] (w.drewN q) fun e w'' => e = .returned (.int .u64 (ext n f 1)) ∧ ∃ m, w'' = w.drewN m :=
  (limb_any v n f 1 (w.drewN q) (hL.drewN q) hn).mono fun _ _ ⟨he, hm⟩ => ⟨he, q, hm.symm⟩

def smallG (m : Bool) (U : Nat) : Bool := if m = true then decide ((U : Int) ≤ 9223372036854775808) else decide ((U : Int) < 9223372036854775808)
def smallX (m : Bool) (U : Nat) : Int := if smallG m U = true then (if m = true then wrap64 (IntKind.u64.wrap (-(U : Int))) else U) else 0

theorem smallG_f (U : Nat) : smallG false U = decide ((U : Int) < 9223372036854775808) := by simp only [smallG, Bool.false_eq_true, if_false]
theorem smallG_t (U : Nat) : smallG true U = decide ((U : Int) ≤ 9223372036854775808) := by simp only [smallG, if_true]
theorem smallX_f {U : Nat} (h : smallG false U = true) : smallX false U = U := by simp only [smallX, h, if_true, Bool.false_eq_true, if_false]
theorem smallX_t {U : Nat} (h : smallG true U = true) : smallX true U = wrap64 (IntKind.u64.wrap (-(U : Int))) := by simp only [smallX, h, if_true]
theorem smallX_n {m : Bool} {U : Nat} (h : smallG m U = false) : smallX m U = 0 := by simp only [smallX, h, Bool.false_eq_true, if_false]

theorem box_frozen {w w1 : World} {x0 x1 y0 y1 : Value} {t s : TypeId} (hb1 : Below ((w.alloc (.cells #[x0, x1] t)).alloc (.cells #[y0, y1] s)).heap.size ((w.alloc (.cells #[x0, x1] t)).alloc (.cells #[y0, y1] s)) w1) (i : Nat) :
    w1.frozen? ⟨w.heap.size + 1, i, none⟩ = false := (hb1.frozen (p := ⟨w.heap.size + 1, i, none⟩) (by simp)).trans (by simp)

theorem ret_small (m : Bool) (U : Nat) {g : Bool} {x : Int} (h : smallG m U = g) (h' : smallX m U = x) : Ending.returned (.agg #[.bool g, .int .i64 x]) = .returned (.agg #[.bool (smallG m U), .int .i64 (smallX m U)]) := by rw [h, h']

set_option maxHeartbeats 1000000 in
set_option maxRecDepth 100000 in
theorem sSmall_good (m : Bool) (v : Value) (n : Nat) (f : Nat → Nat) (w : World) (hL : Lim w v n f) (hf : faultB m n f = false) (hn : n ≤ 2) (hl0 : ext n f 0 < 4294967296) (hl1 : ext n f 1 < 4294967296) (U : Nat) (HU : Hid (U = ext n f 1 * 4294967296 + ext n f 0)) :
    Calls Try.prog 31 #[.agg #[.bool m, v]] w fun e w' => e = .returned (.agg #[.bool (smallG m U), .int .i64 (smallX m U)]) ∧ Below w.heap.size w w' := by
  obtain ⟨a, c, rfl, -⟩ := id hL
  go_enter Try.func31, Try.ntmps31
  go_wp2_with fail
  refine (sFault_any _ _ n f _ (hL.below (below_alloc2 _ _ _))).mono ?_
  rintro e w1 ⟨rfl, hb1⟩
  rw [hf]
  have h1 := (Box2.start w _ _ _ _ _ _).next hb1
  obtain ⟨a0, a1, b0, b1, hz, bel⟩ := id h1
  have f0 := box_frozen hb1 0
  have f1 := box_frozen hb1 1
  clear hb1 hf
  go_wp2_with fail
  go_quiet (first | (go_at_call_of 72 (Value.int IntKind.i64 0); exact limb_q0 _ n f _ _ (hL.below bel) (by omega)) | (go_at_call_of 72 (Value.int IntKind.i64 1); exact limb_q1 _ n f _ _ (hL.below bel) (by omega)))
  rw [or_lo _ _ hl0 hl1, ← HU.out]
  clear HU
  cases m
  · by_cases hU : (U : Int) < 9223372036854775808
    · have d : decide ((U : Int) < 9223372036854775808) = true := decide_eq_true hU
      have H : Hid (smallG false U = true) := (smallG_f U).trans d
      have H' : Hid (smallX false U = U) := smallX_f H.out
      have hU' : (U : Int) ≤ 9223372036854775807 := by omega
      clear hU
      go_wp2_with fail
      refine bodyPost_ret (v := .agg #[.bool true, .int .i64 U]) (by simp [results, Try.results31, go_sem, b0, b1]) rfl ⟨ret_small _ _ H.out H'.out, ?_⟩
      exact ((bdraws h1.bel _).setCell (by simp) _).setCell (by simp) _
    · have d : decide ((U : Int) < 9223372036854775808) = false := decide_eq_false hU
      have H : Hid (smallG false U = false) := (smallG_f U).trans d
      have H' : Hid (smallX false U = 0) := smallX_n H.out
      clear hU
      go_wp2_with fail
      refine bodyPost_ret (v := .agg #[.bool false, .int .i64 0]) (by simp [results, Try.results31, go_sem, b0, b1]) rfl ⟨ret_small _ _ H.out H'.out, ?_⟩
      exact ((bdraws h1.bel _).setCell (by simp) _).setCell (by simp) _
  · by_cases hU : (U : Int) ≤ 9223372036854775808
    · have d : decide ((U : Int) ≤ 9223372036854775808) = true := decide_eq_true hU
      have H : Hid (smallG true U = true) := (smallG_t U).trans d
      have H' : Hid (smallX true U = wrap64 (IntKind.u64.wrap (-(U : Int)))) := smallX_t H.out
      clear hU
      go_wp2_with fail
      refine bodyPost_ret (v := .agg #[.bool true, .int .i64 (wrap64 (IntKind.u64.wrap (-(U : Int))))]) (by simp [results, Try.results31, go_sem, b0, b1]) rfl ⟨ret_small _ _ H.out H'.out, ?_⟩
      exact ((bdraws h1.bel _).setCell (by simp) _).setCell (by simp) _
    · have d : decide ((U : Int) ≤ 9223372036854775808) = false := decide_eq_false hU
      have H : Hid (smallG true U = false) := (smallG_t U).trans d
      have H' : Hid (smallX true U = 0) := smallX_n H.out
      clear hU
      go_wp2_with fail
      refine bodyPost_ret (v := .agg #[.bool false, .int .i64 0]) (by simp [results, Try.results31, go_sem, b0, b1]) rfl ⟨ret_small _ _ H.out H'.out, ?_⟩
      exact ((bdraws h1.bel _).setCell (by simp) _).setCell (by simp) _

end Go.Proofs.Ytpcnmolncoaddaa
