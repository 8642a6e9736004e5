import Derived.Test.YtplhjcohkjomgaaDoorAL
namespace Go.Proofs.YtplhjcohkjomgaaDoor
open Go.RowKit Go.Joins

/-- A token as it lies in memory. -/
structure Tq where
  k : Int
  t : ByteArray
  l : Int
  c : Int
/-- Row of n tokens at the head of block g. -/
def Row (w : World) (g n : Nat) (f : Nat → Tq) : Prop := ∀ i, i < n → w.cell? ⟨g, i * 4, none⟩ = some (.int .i64 (f i).k) ∧ w.cell? ⟨g, i * 4 + 1, none⟩ = some (.string (f i).t) ∧ w.cell? ⟨g, i * 4 + 2, none⟩ = some (.int .i64 (f i).l) ∧ w.cell? ⟨g, i * 4 + 3, none⟩ = some (.int .i64 (f i).c)
/-- A slice of n tokens. -/
def Toks (w : World) (ao : Option Addr) (n : Nat) (f : Nat → Tq) : Prop := 0 < n → ∃ g, ao = some ⟨g, 0, none⟩ ∧ Row w g n f ∧ g < w.heap.size

theorem Row.keep {w w' g n f} (h : Row w g n f) (hb : w'.heap[g]? = w.heap[g]?) : Row w' g n f := fun i hi => by
  obtain ⟨h1, h2, h3, h4⟩ := h i hi
  exact ⟨(World.cell?_of_block hb).trans h1, (World.cell?_of_block hb).trans h2, (World.cell?_of_block hb).trans h3, (World.cell?_of_block hb).trans h4⟩
theorem Toks.below {w w' ao n f} {B : Nat} (h : Toks w ao n f) (hb : Below B w w') (hB : ∀ g, ao = some ⟨g, 0, none⟩ → g < B) : Toks w' ao n f := fun hn => by
  obtain ⟨g, e, h1, h2⟩ := h hn
  exact ⟨g, e, h1.keep (hb.block g (hB g e)), Nat.lt_of_lt_of_le h2 hb.size⟩
theorem Toks.next {w w' ao n f} (h : Toks w ao n f) (hb : Below w.heap.size w w') : Toks w' ao n f := fun hn => by
  obtain ⟨g, e, h1, h2⟩ := h hn
  exact ⟨g, e, h1.keep (hb.block g h2), Nat.lt_of_lt_of_le h2 hb.size⟩

set_option maxHeartbeats 1000000 in
set_option maxRecDepth 100000 in
theorem eqTok (k l c : Int) (t : ByteArray) (w : World) : Calls Tryd.prog 36 #[.agg #[.int .i64 k, .string t, .int .i64 l, .int .i64 c], .agg #[.int .i64 k, .string t, .int .i64 l, .int .i64 c]] w fun e w' => e = .returned (.bool true) ∧ Below w.heap.size w w' := by
  go_enter Tryd.func36, Tryd.ntmps36
  go_wp2_with fail
  go_ret
  exact ⟨rfl, (below_alloc1 _ _).trans ((below_alloc1 _ _).mono (by simp))⟩

set_option maxHeartbeats 1000000 in
set_option maxRecDepth 100000 in
theorem eqToks (ao ao' : Option Addr) (n cp cp' : Nat) (f : Nat → Tq) (w : World) (hn : n ≤ 1048576) (h : Toks w ao n f) (h' : Toks w ao' n f) : Calls Tryd.prog 22 #[.slice ao n cp, .slice ao' n cp'] w fun e w' => e = .returned (.bool true) ∧ Below w.heap.size w w' := by
  have H := hide h
  have H' := hide h'
  clear h h'
  go_enter Tryd.func22, Tryd.ntmps22
  go_wp2_with fail
  go_loopw [5] (fun i wr => ∃ j : Nat, j ≤ n ∧ i = .int .i64 j ∧ Below w.heap.size w wr) (fun i _ => n - (intOf i).toNat)
  case atStart => exact ⟨0, Nat.zero_le _, rfl, Below.refl _ _⟩
  case round =>
    obtain ⟨j, hj, rfl, hb⟩ := hrel
    by_cases hlt : j < n
    · have hlt' : (j : Int) < n := by omega
      obtain ⟨g, rfl, hR, hg⟩ := H.out (by omega)
      obtain ⟨g', rfl, hR', hg'⟩ := H'.out (by omega)
      obtain ⟨x0, x1, x2, x3⟩ := hR.keep (hb.block g hg) j hlt
      obtain ⟨y0, y1, y2, y3⟩ := hR'.keep (hb.block g' hg') j hlt
      clear hR hR'
      go_wp2_with fail
      go_region_with (go_at_call 36; refine (eqTok _ _ _ _ _).mono ?_; rintro e w2 ⟨rfl, b2⟩)
      all_goals
        have hz := hb.size
        have hb2 := hb.drew.trans (b2.mono hz)
        go_wp2_with fail
        go_roundw
        case rel => exact ⟨j + 1, by omega, by go_num, hb2⟩
        case measure => simp [intOf]; omega
    · have hlt' : ¬ (j : Int) < n := by omega
      go_wp2_with fail
      go_ret
      exact ⟨rfl, hb⟩

set_option maxHeartbeats 1000000 in
set_option maxRecDepth 100000 in
theorem eqRes (q1 q2 q3 : Int) (ao ao' : Option Addr) (n cp cp' : Nat) (f : Nat → Tq) (w : World) (hn : n ≤ 1048576) (h : Toks w ao n f) (h' : Toks w ao' n f) : Calls Tryd.prog 9 #[.agg #[.int .i64 q1, .int .i64 q2, .int .i64 q3, .slice ao n cp], .agg #[.int .i64 q1, .int .i64 q2, .int .i64 q3, .slice ao' n cp']] w fun e w' => e = .returned (.bool true) ∧ Below w.heap.size w w' := by
  have b0 : Below w.heap.size w ((w.alloc (.cells #[.int .i64 q1, .int .i64 q2, .int .i64 q3, .slice ao n cp] 24)).alloc (.cells #[.int .i64 q1, .int .i64 q2, .int .i64 q3, .slice ao' n cp'] 24)) := (below_alloc1 _ _).trans ((below_alloc1 _ _).mono (by simp))
  have H1 := hide (eqToks ao ao' n cp cp' f _ hn (h.next b0) (h'.next b0))
  clear h h'
  go_enter Tryd.func9, Tryd.ntmps9
  go_wp2_with fail
  refine H1.out.mono ?_
  rintro e w2 ⟨rfl, b2⟩
  go_wp2_with fail
  go_ret
  exact ⟨rfl, b0.trans (b2.mono b0.size)⟩

end Go.Proofs.YtplhjcohkjomgaaDoor
