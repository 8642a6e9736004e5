import Derived.Test.YtbgocfcnkhfejaaDraw1
namespace Go.Proofs.Ytbgocfcnkhfejaa
open Go.RowKit Go.Joins

set_option maxHeartbeats 400000 in
theorem chance_any (p k t n : Nat) (w : World) (hS : Src w p k t) (hk : k ≤ 2000000) (ht : t < 100000) (hn : 0 < n) (hn' : n ≤ 1000) :
    Calls Try.prog 60 #[.pointer (some ⟨p, 0, none⟩), .int .i64 n] w fun e w' => ∃ r : Bool, e = .returned (.bool r) ∧ Src w' p k (t + 1) ∧ Only p w w' := by
  go_enter Try.func60, Try.ntmps60
  go_wp2_with fail
  refine (next_any p k t n w hS hk ht hn hn').mono ?_
  rintro e w1 ⟨r, hr, rfl, hS1, ho⟩
  go_wp2_with fail
  go_ret
  exact ⟨_, rfl, hS1, ho⟩

set_option maxHeartbeats 400000 in
theorem source_any (a : Option Addr) (k c : Nat) (w : World) (hk : k ≤ 2000000) (hc : k ≤ c)
    (hb : 0 < k → ∃ b off, a = some ⟨b, off, none⟩ ∧ ∃ g : Nat → Nat, ∀ i, i < k → g i < 256 ∧ w.cell? ⟨b, off + i, none⟩ = some (.int .u8 (g i))) :
    Calls Try.prog 58 #[.slice a k c] w fun e w' => e = .returned (.pointer (some ⟨w.heap.size, 0, none⟩)) ∧ Src w' w.heap.size k 0 ∧ Below w.heap.size w w' := by
  have HE : ∀ z : Int, Hid (Src (w.alloc (.cells #[.slice a k c, .int .i64 0, .int .i64 z] 98)) w.heap.size k 0) := fun z =>
    ⟨a, c, z, Res3.start w _ _ _ 98, hc, fun hk => by
      obtain ⟨b, off, e, g, h5⟩ := hb hk
      have hl : b < w.heap.size := block_lt_of_cell (h5 0 hk).2
      exact ⟨b, off, e, by omega, g, fun i hi => ⟨(h5 i hi).1, ((below_alloc1 w _).cell hl).trans (h5 i hi).2⟩⟩⟩
  clear hb
  go_enter Try.func58, Try.ntmps58
  go_wp2_with fail
  all_goals
    go_ret
    exact ⟨rfl, (HE _).out, below_alloc1 _ _⟩

end Go.Proofs.Ytbgocfcnkhfejaa
