import Derived.Test.YtmpnbaebdghopaaJB
namespace Go.Proofs.Ytmpnbaebdghopaa
open Go.RowKit Go.Joins

/-- The type that a kind stands for. -/
def tyK (k : Int) : Nat := if k = 1 then 123 else if k = 2 then 124 else if k = 3 then 125 else if k = 4 then 126 else if k = 5 then 127 else if k = 6 then 128 else if k = 7 then 129 else if k = 8 then 130 else if k = 9 then 131 else if k = 10 then 132 else 121

set_option maxHeartbeats 1000000 in
set_option maxRecDepth 100000 in
theorem t_1 (d : Nd) (W : World) (hc : W.cell? ⟨d.b, d.o, none⟩ = some (.int .i64 1)) (hb : d.b < W.heap.size) :
    Calls Try.prog 34 #[d.ptr] W fun e W' => e = .returned (.iface 123 (.agg #[d.ptr])) ∧ W' = W.alloc (.cells #[d.ptr] 121) := by
  simp only [Nd.ptr]
  have c0 := (below_alloc1 W (.cells #[.pointer (some ⟨d.b, d.o, none⟩)] 121)).cell (p := ⟨d.b, d.o, none⟩) hb
  rw [hc] at c0
  go_enter Try.func34, Try.ntmps34
  go_wp2_with fail
  go_ret
  exact ⟨rfl, rfl⟩

set_option maxHeartbeats 1000000 in
set_option maxRecDepth 100000 in
theorem t_2 (d : Nd) (W : World) (hc : W.cell? ⟨d.b, d.o, none⟩ = some (.int .i64 2)) (hb : d.b < W.heap.size) :
    Calls Try.prog 34 #[d.ptr] W fun e W' => e = .returned (.iface 124 (.agg #[d.ptr])) ∧ W' = W.alloc (.cells #[d.ptr] 121) := by
  simp only [Nd.ptr]
  have c0 := (below_alloc1 W (.cells #[.pointer (some ⟨d.b, d.o, none⟩)] 121)).cell (p := ⟨d.b, d.o, none⟩) hb
  rw [hc] at c0
  go_enter Try.func34, Try.ntmps34
  go_wp2_with fail
  go_ret
  exact ⟨rfl, rfl⟩

set_option maxHeartbeats 1000000 in
set_option maxRecDepth 100000 in
theorem t_3 (d : Nd) (W : World) (hc : W.cell? ⟨d.b, d.o, none⟩ = some (.int .i64 3)) (hb : d.b < W.heap.size) :
    Calls Try.prog 34 #[d.ptr] W fun e W' => e = .returned (.iface 125 (.agg #[d.ptr])) ∧ W' = W.alloc (.cells #[d.ptr] 121) := by
  simp only [Nd.ptr]
  have c0 := (below_alloc1 W (.cells #[.pointer (some ⟨d.b, d.o, none⟩)] 121)).cell (p := ⟨d.b, d.o, none⟩) hb
  rw [hc] at c0
  go_enter Try.func34, Try.ntmps34
  go_wp2_with fail
  go_ret
  exact ⟨rfl, rfl⟩

set_option maxHeartbeats 1000000 in
set_option maxRecDepth 100000 in
theorem t_4 (d : Nd) (W : World) (hc : W.cell? ⟨d.b, d.o, none⟩ = some (.int .i64 4)) (hb : d.b < W.heap.size) :
    Calls Try.prog 34 #[d.ptr] W fun e W' => e = .returned (.iface 126 (.agg #[d.ptr])) ∧ W' = W.alloc (.cells #[d.ptr] 121) := by
  simp only [Nd.ptr]
  have c0 := (below_alloc1 W (.cells #[.pointer (some ⟨d.b, d.o, none⟩)] 121)).cell (p := ⟨d.b, d.o, none⟩) hb
  rw [hc] at c0
  go_enter Try.func34, Try.ntmps34
  go_wp2_with fail
  go_ret
  exact ⟨rfl, rfl⟩

set_option maxHeartbeats 1000000 in
set_option maxRecDepth 100000 in
theorem t_5 (d : Nd) (W : World) (hc : W.cell? ⟨d.b, d.o, none⟩ = some (.int .i64 5)) (hb : d.b < W.heap.size) :
    Calls Try.prog 34 #[d.ptr] W fun e W' => e = .returned (.iface 127 (.agg #[d.ptr])) ∧ W' = W.alloc (.cells #[d.ptr] 121) := by
  simp only [Nd.ptr]
  have c0 := (below_alloc1 W (.cells #[.pointer (some ⟨d.b, d.o, none⟩)] 121)).cell (p := ⟨d.b, d.o, none⟩) hb
  rw [hc] at c0
  go_enter Try.func34, Try.ntmps34
  go_wp2_with fail
  go_ret
  exact ⟨rfl, rfl⟩

set_option maxHeartbeats 1000000 in
set_option maxRecDepth 100000 in
theorem t_6 (d : Nd) (W : World) (hc : W.cell? ⟨d.b, d.o, none⟩ = some (.int .i64 6)) (hb : d.b < W.heap.size) :
    Calls Try.prog 34 #[d.ptr] W fun e W' => e = .returned (.iface 128 (.agg #[d.ptr])) ∧ W' = W.alloc (.cells #[d.ptr] 121) := by
  simp only [Nd.ptr]
  have c0 := (below_alloc1 W (.cells #[.pointer (some ⟨d.b, d.o, none⟩)] 121)).cell (p := ⟨d.b, d.o, none⟩) hb
  rw [hc] at c0
  go_enter Try.func34, Try.ntmps34
  go_wp2_with fail
  go_ret
  exact ⟨rfl, rfl⟩

set_option maxHeartbeats 1000000 in
set_option maxRecDepth 100000 in
theorem t_7 (d : Nd) (W : World) (hc : W.cell? ⟨d.b, d.o, none⟩ = some (.int .i64 7)) (hb : d.b < W.heap.size) :
    Calls Try.prog 34 #[d.ptr] W fun e W' => e = .returned (.iface 129 (.agg #[d.ptr])) ∧ W' = W.alloc (.cells #[d.ptr] 121) := by
  simp only [Nd.ptr]
  have c0 := (below_alloc1 W (.cells #[.pointer (some ⟨d.b, d.o, none⟩)] 121)).cell (p := ⟨d.b, d.o, none⟩) hb
  rw [hc] at c0
  go_enter Try.func34, Try.ntmps34
  go_wp2_with fail
  go_ret
  exact ⟨rfl, rfl⟩

set_option maxHeartbeats 1000000 in
set_option maxRecDepth 100000 in
theorem t_8 (d : Nd) (W : World) (hc : W.cell? ⟨d.b, d.o, none⟩ = some (.int .i64 8)) (hb : d.b < W.heap.size) :
    Calls Try.prog 34 #[d.ptr] W fun e W' => e = .returned (.iface 130 (.agg #[d.ptr])) ∧ W' = W.alloc (.cells #[d.ptr] 121) := by
  simp only [Nd.ptr]
  have c0 := (below_alloc1 W (.cells #[.pointer (some ⟨d.b, d.o, none⟩)] 121)).cell (p := ⟨d.b, d.o, none⟩) hb
  rw [hc] at c0
  go_enter Try.func34, Try.ntmps34
  go_wp2_with fail
  go_ret
  exact ⟨rfl, rfl⟩

set_option maxHeartbeats 1000000 in
set_option maxRecDepth 100000 in
theorem t_9 (d : Nd) (W : World) (hc : W.cell? ⟨d.b, d.o, none⟩ = some (.int .i64 9)) (hb : d.b < W.heap.size) :
    Calls Try.prog 34 #[d.ptr] W fun e W' => e = .returned (.iface 131 (.agg #[d.ptr])) ∧ W' = W.alloc (.cells #[d.ptr] 121) := by
  simp only [Nd.ptr]
  have c0 := (below_alloc1 W (.cells #[.pointer (some ⟨d.b, d.o, none⟩)] 121)).cell (p := ⟨d.b, d.o, none⟩) hb
  rw [hc] at c0
  go_enter Try.func34, Try.ntmps34
  go_wp2_with fail
  go_ret
  exact ⟨rfl, rfl⟩

set_option maxHeartbeats 1000000 in
set_option maxRecDepth 100000 in
theorem t_10 (d : Nd) (W : World) (hc : W.cell? ⟨d.b, d.o, none⟩ = some (.int .i64 10)) (hb : d.b < W.heap.size) :
    Calls Try.prog 34 #[d.ptr] W fun e W' => e = .returned (.iface 132 (.agg #[d.ptr])) ∧ W' = W.alloc (.cells #[d.ptr] 121) := by
  simp only [Nd.ptr]
  have c0 := (below_alloc1 W (.cells #[.pointer (some ⟨d.b, d.o, none⟩)] 121)).cell (p := ⟨d.b, d.o, none⟩) hb
  rw [hc] at c0
  go_enter Try.func34, Try.ntmps34
  go_wp2_with fail
  go_ret
  exact ⟨rfl, rfl⟩

set_option maxHeartbeats 2000000 in
set_option maxRecDepth 100000 in
theorem t_other (d : Nd) (W : World) (k : Int) (hc : W.cell? ⟨d.b, d.o, none⟩ = some (.int .i64 k)) (hb : d.b < W.heap.size) (h1 : ¬ k = 1) (h2 : ¬ k = 2) (h3 : ¬ k = 3) (h4 : ¬ k = 4) (h5 : ¬ k = 5) (h6 : ¬ k = 6) (h7 : ¬ k = 7) (h8 : ¬ k = 8) (h9 : ¬ k = 9) (h10 : ¬ k = 10) :
    Calls Try.prog 34 #[d.ptr] W fun e W' => e = .returned (.iface 121 (.agg #[d.ptr])) ∧ W' = W.alloc (.cells #[d.ptr] 121) := by
  simp only [Nd.ptr]
  have c0 := (below_alloc1 W (.cells #[.pointer (some ⟨d.b, d.o, none⟩)] 121)).cell (p := ⟨d.b, d.o, none⟩) hb
  rw [hc] at c0
  have g1 : (k == 1) = false := by rw [beq_eq_false_iff_ne]; exact h1
  have g2 : (k == 2) = false := by rw [beq_eq_false_iff_ne]; exact h2
  have g3 : (k == 3) = false := by rw [beq_eq_false_iff_ne]; exact h3
  have g4 : (k == 4) = false := by rw [beq_eq_false_iff_ne]; exact h4
  have g5 : (k == 5) = false := by rw [beq_eq_false_iff_ne]; exact h5
  have g6 : (k == 6) = false := by rw [beq_eq_false_iff_ne]; exact h6
  have g7 : (k == 7) = false := by rw [beq_eq_false_iff_ne]; exact h7
  have g8 : (k == 8) = false := by rw [beq_eq_false_iff_ne]; exact h8
  have g9 : (k == 9) = false := by rw [beq_eq_false_iff_ne]; exact h9
  have g10 : (k == 10) = false := by rw [beq_eq_false_iff_ne]; exact h10
  go_enter Try.func34, Try.ntmps34
  go_wp2_with fail
  go_ret
  exact ⟨rfl, rfl⟩

theorem i_term (d : Nd) (W : World) (k : Int) (hc : W.cell? ⟨d.b, d.o, none⟩ = some (.int .i64 k)) (hb : d.b < W.heap.size) :
    Calls Try.prog 34 #[d.ptr] W fun e W' => e = .returned (.iface (tyK k) (.agg #[d.ptr])) ∧ W' = W.alloc (.cells #[d.ptr] 121) := by
  by_cases h1 : k = 1
  · subst h1; exact t_1 d W hc hb
  by_cases h2 : k = 2
  · subst h2; exact t_2 d W hc hb
  by_cases h3 : k = 3
  · subst h3; exact t_3 d W hc hb
  by_cases h4 : k = 4
  · subst h4; exact t_4 d W hc hb
  by_cases h5 : k = 5
  · subst h5; exact t_5 d W hc hb
  by_cases h6 : k = 6
  · subst h6; exact t_6 d W hc hb
  by_cases h7 : k = 7
  · subst h7; exact t_7 d W hc hb
  by_cases h8 : k = 8
  · subst h8; exact t_8 d W hc hb
  by_cases h9 : k = 9
  · subst h9; exact t_9 d W hc hb
  by_cases h10 : k = 10
  · subst h10; exact t_10 d W hc hb
  have e : tyK k = 121 := by unfold tyK; rw [if_neg h1, if_neg h2, if_neg h3, if_neg h4, if_neg h5, if_neg h6, if_neg h7, if_neg h8, if_neg h9, if_neg h10]
  rw [e]
  exact t_other d W k hc hb h1 h2 h3 h4 h5 h6 h7 h8 h9 h10

end Go.Proofs.Ytmpnbaebdghopaa
