import Derived.Test.YtcnokpaicnjkfaaJB
namespace Go.Proofs.Ytcnokpaicnjkfaa
open Go.RowKit Go.Joins

/-- The type that a kind stands for. -/
def tyK (k : Int) : Nat := if k = 1 then 115 else if k = 2 then 116 else if k = 3 then 117 else if k = 4 then 118 else if k = 5 then 119 else if k = 6 then 120 else if k = 7 then 121 else if k = 8 then 122 else if k = 9 then 123 else if k = 10 then 124 else 113

set_option maxHeartbeats 1000000 in
set_option maxRecDepth 100000 in
theorem t_1 (d : Nd) (W : World) (hc : W.cell? ⟨d.b, d.o, none⟩ = some (.int .i64 1)) (hb : d.b < W.heap.size) :
    Calls Try.prog 47 #[d.ptr] W fun e W' => e = .returned (.iface 115 (.agg #[d.ptr])) ∧ W' = W.alloc (.cells #[d.ptr] 113) := by
  simp only [Nd.ptr]
  have c0 := (below_alloc1 W (.cells #[.pointer (some ⟨d.b, d.o, none⟩)] 113)).cell (p := ⟨d.b, d.o, none⟩) hb
  rw [hc] at c0
  go_enter Try.func47, Try.ntmps47
  go_wp2_with fail
  go_ret
  exact ⟨rfl, rfl⟩

set_option maxHeartbeats 1000000 in
set_option maxRecDepth 100000 in
theorem t_2 (d : Nd) (W : World) (hc : W.cell? ⟨d.b, d.o, none⟩ = some (.int .i64 2)) (hb : d.b < W.heap.size) :
    Calls Try.prog 47 #[d.ptr] W fun e W' => e = .returned (.iface 116 (.agg #[d.ptr])) ∧ W' = W.alloc (.cells #[d.ptr] 113) := by
  simp only [Nd.ptr]
  have c0 := (below_alloc1 W (.cells #[.pointer (some ⟨d.b, d.o, none⟩)] 113)).cell (p := ⟨d.b, d.o, none⟩) hb
  rw [hc] at c0
  go_enter Try.func47, Try.ntmps47
  go_wp2_with fail
  go_ret
  exact ⟨rfl, rfl⟩

set_option maxHeartbeats 1000000 in
set_option maxRecDepth 100000 in
theorem t_3 (d : Nd) (W : World) (hc : W.cell? ⟨d.b, d.o, none⟩ = some (.int .i64 3)) (hb : d.b < W.heap.size) :
    Calls Try.prog 47 #[d.ptr] W fun e W' => e = .returned (.iface 117 (.agg #[d.ptr])) ∧ W' = W.alloc (.cells #[d.ptr] 113) := by
  simp only [Nd.ptr]
  have c0 := (below_alloc1 W (.cells #[.pointer (some ⟨d.b, d.o, none⟩)] 113)).cell (p := ⟨d.b, d.o, none⟩) hb
  rw [hc] at c0
  go_enter Try.func47, Try.ntmps47
  go_wp2_with fail
  go_ret
  exact ⟨rfl, rfl⟩

set_option maxHeartbeats 1000000 in
set_option maxRecDepth 100000 in
theorem t_4 (d : Nd) (W : World) (hc : W.cell? ⟨d.b, d.o, none⟩ = some (.int .i64 4)) (hb : d.b < W.heap.size) :
    Calls Try.prog 47 #[d.ptr] W fun e W' => e = .returned (.iface 118 (.agg #[d.ptr])) ∧ W' = W.alloc (.cells #[d.ptr] 113) := by
  simp only [Nd.ptr]
  have c0 := (below_alloc1 W (.cells #[.pointer (some ⟨d.b, d.o, none⟩)] 113)).cell (p := ⟨d.b, d.o, none⟩) hb
  rw [hc] at c0
  go_enter Try.func47, Try.ntmps47
  go_wp2_with fail
  go_ret
  exact ⟨rfl, rfl⟩

set_option maxHeartbeats 1000000 in
set_option maxRecDepth 100000 in
theorem t_5 (d : Nd) (W : World) (hc : W.cell? ⟨d.b, d.o, none⟩ = some (.int .i64 5)) (hb : d.b < W.heap.size) :
    Calls Try.prog 47 #[d.ptr] W fun e W' => e = .returned (.iface 119 (.agg #[d.ptr])) ∧ W' = W.alloc (.cells #[d.ptr] 113) := by
  simp only [Nd.ptr]
  have c0 := (below_alloc1 W (.cells #[.pointer (some ⟨d.b, d.o, none⟩)] 113)).cell (p := ⟨d.b, d.o, none⟩) hb
  rw [hc] at c0
  go_enter Try.func47, Try.ntmps47
  go_wp2_with fail
  go_ret
  exact ⟨rfl, rfl⟩

set_option maxHeartbeats 1000000 in
set_option maxRecDepth 100000 in
theorem t_6 (d : Nd) (W : World) (hc : W.cell? ⟨d.b, d.o, none⟩ = some (.int .i64 6)) (hb : d.b < W.heap.size) :
    Calls Try.prog 47 #[d.ptr] W fun e W' => e = .returned (.iface 120 (.agg #[d.ptr])) ∧ W' = W.alloc (.cells #[d.ptr] 113) := by
  simp only [Nd.ptr]
  have c0 := (below_alloc1 W (.cells #[.pointer (some ⟨d.b, d.o, none⟩)] 113)).cell (p := ⟨d.b, d.o, none⟩) hb
  rw [hc] at c0
  go_enter Try.func47, Try.ntmps47
  go_wp2_with fail
  go_ret
  exact ⟨rfl, rfl⟩

set_option maxHeartbeats 1000000 in
set_option maxRecDepth 100000 in
theorem t_7 (d : Nd) (W : World) (hc : W.cell? ⟨d.b, d.o, none⟩ = some (.int .i64 7)) (hb : d.b < W.heap.size) :
    Calls Try.prog 47 #[d.ptr] W fun e W' => e = .returned (.iface 121 (.agg #[d.ptr])) ∧ W' = W.alloc (.cells #[d.ptr] 113) := by
  simp only [Nd.ptr]
  have c0 := (below_alloc1 W (.cells #[.pointer (some ⟨d.b, d.o, none⟩)] 113)).cell (p := ⟨d.b, d.o, none⟩) hb
  rw [hc] at c0
  go_enter Try.func47, Try.ntmps47
  go_wp2_with fail
  go_ret
  exact ⟨rfl, rfl⟩

set_option maxHeartbeats 1000000 in
set_option maxRecDepth 100000 in
theorem t_8 (d : Nd) (W : World) (hc : W.cell? ⟨d.b, d.o, none⟩ = some (.int .i64 8)) (hb : d.b < W.heap.size) :
    Calls Try.prog 47 #[d.ptr] W fun e W' => e = .returned (.iface 122 (.agg #[d.ptr])) ∧ W' = W.alloc (.cells #[d.ptr] 113) := by
  simp only [Nd.ptr]
  have c0 := (below_alloc1 W (.cells #[.pointer (some ⟨d.b, d.o, none⟩)] 113)).cell (p := ⟨d.b, d.o, none⟩) hb
  rw [hc] at c0
  go_enter Try.func47, Try.ntmps47
  go_wp2_with fail
  go_ret
  exact ⟨rfl, rfl⟩

set_option maxHeartbeats 1000000 in
set_option maxRecDepth 100000 in
theorem t_9 (d : Nd) (W : World) (hc : W.cell? ⟨d.b, d.o, none⟩ = some (.int .i64 9)) (hb : d.b < W.heap.size) :
    Calls Try.prog 47 #[d.ptr] W fun e W' => e = .returned (.iface 123 (.agg #[d.ptr])) ∧ W' = W.alloc (.cells #[d.ptr] 113) := by
  simp only [Nd.ptr]
  have c0 := (below_alloc1 W (.cells #[.pointer (some ⟨d.b, d.o, none⟩)] 113)).cell (p := ⟨d.b, d.o, none⟩) hb
  rw [hc] at c0
  go_enter Try.func47, Try.ntmps47
  go_wp2_with fail
  go_ret
  exact ⟨rfl, rfl⟩

set_option maxHeartbeats 1000000 in
set_option maxRecDepth 100000 in
theorem t_10 (d : Nd) (W : World) (hc : W.cell? ⟨d.b, d.o, none⟩ = some (.int .i64 10)) (hb : d.b < W.heap.size) :
    Calls Try.prog 47 #[d.ptr] W fun e W' => e = .returned (.iface 124 (.agg #[d.ptr])) ∧ W' = W.alloc (.cells #[d.ptr] 113) := by
  simp only [Nd.ptr]
  have c0 := (below_alloc1 W (.cells #[.pointer (some ⟨d.b, d.o, none⟩)] 113)).cell (p := ⟨d.b, d.o, none⟩) hb
  rw [hc] at c0
  go_enter Try.func47, Try.ntmps47
  go_wp2_with fail
  go_ret
  exact ⟨rfl, rfl⟩

set_option maxHeartbeats 2000000 in
set_option maxRecDepth 100000 in
theorem t_other (d : Nd) (W : World) (k : Int) (hc : W.cell? ⟨d.b, d.o, none⟩ = some (.int .i64 k)) (hb : d.b < W.heap.size) (h1 : ¬ k = 1) (h2 : ¬ k = 2) (h3 : ¬ k = 3) (h4 : ¬ k = 4) (h5 : ¬ k = 5) (h6 : ¬ k = 6) (h7 : ¬ k = 7) (h8 : ¬ k = 8) (h9 : ¬ k = 9) (h10 : ¬ k = 10) :
    Calls Try.prog 47 #[d.ptr] W fun e W' => e = .returned (.iface 113 (.agg #[d.ptr])) ∧ W' = W.alloc (.cells #[d.ptr] 113) := by
  simp only [Nd.ptr]
  have c0 := (below_alloc1 W (.cells #[.pointer (some ⟨d.b, d.o, none⟩)] 113)).cell (p := ⟨d.b, d.o, none⟩) hb
  rw [hc] at c0
  have g1 : (k == 1) = false := by rw [beq_eq_false_iff_ne]; exact h1
  have g2 : (k == 2) = false := by rw [beq_eq_false_iff_ne]; exact h2
  have g3 : (k == 3) = false := by rw [beq_eq_false_iff_ne]; exact h3
  have g4 : (k == 4) = false := by rw [beq_eq_false_iff_ne]; exact h4
  have g5 : (k == 5) = false := by rw [beq_eq_false_iff_ne]; exact h5
  have g6 : (k == 6) = false := by rw [beq_eq_false_iff_ne]; exact h6
  have g7 : (k == 7) = false := by rw [beq_eq_false_iff_ne]; exact h7
  have g8 : (k == 8) = false := by rw [beq_eq_false_iff_ne]; exact h8
  have g9 : (k == 9) = false := by rw [beq_eq_false_iff_ne]; exact h9
  have g10 : (k == 10) = false := by rw [beq_eq_false_iff_ne]; exact h10
  go_enter Try.func47, Try.ntmps47
  go_wp2_with fail
  go_ret
  exact ⟨rfl, rfl⟩

theorem i_term (d : Nd) (W : World) (k : Int) (hc : W.cell? ⟨d.b, d.o, none⟩ = some (.int .i64 k)) (hb : d.b < W.heap.size) :
    Calls Try.prog 47 #[d.ptr] W fun e W' => e = .returned (.iface (tyK k) (.agg #[d.ptr])) ∧ W' = W.alloc (.cells #[d.ptr] 113) := by
  by_cases h1 : k = 1
  · subst h1; exact t_1 d W hc hb
  by_cases h2 : k = 2
  · subst h2; exact t_2 d W hc hb
  by_cases h3 : k = 3
  · subst h3; exact t_3 d W hc hb
  by_cases h4 : k = 4
  · subst h4; exact t_4 d W hc hb
  by_cases h5 : k = 5
  · subst h5; exact t_5 d W hc hb
  by_cases h6 : k = 6
  · subst h6; exact t_6 d W hc hb
  by_cases h7 : k = 7
  · subst h7; exact t_7 d W hc hb
  by_cases h8 : k = 8
  · subst h8; exact t_8 d W hc hb
  by_cases h9 : k = 9
  · subst h9; exact t_9 d W hc hb
  by_cases h10 : k = 10
  · subst h10; exact t_10 d W hc hb
  have e : tyK k = 113 := by unfold tyK; rw [if_neg h1, if_neg h2, if_neg h3, if_neg h4, if_neg h5, if_neg h6, if_neg h7, if_neg h8, if_neg h9, if_neg h10]
  rw [e]
  exact t_other d W k hc hb h1 h2 h3 h4 h5 h6 h7 h8 h9 h10

end Go.Proofs.Ytcnokpaicnjkfaa

namespace Go.Proofs.Ytcnokpaicnjkfaa
open Go.RowKit Go.Joins

/-- The check of a kind. -/
def fnK (k : Int) : Nat := if k = 1 then 85 else if k = 2 then 87 else if k = 3 then 90 else if k = 4 then 92 else if k = 5 then 93 else if k = 6 then 95 else if k = 7 then 98 else if k = 8 then 101 else if k = 9 then 103 else if k = 10 then 105 else 83

theorem i_whole (d : Nd) (W : World) (hd : d.Ok W (fun b => b < W.heap.size)) (hsz : d.x.size ≤ 16777216) (h : Hd) (ks al : Tm) (he : rdK d.x = .nd h ks al .nil) (q : Bool) (hq : q = true ↔ shp h ks.len al) :
    Calls Try.prog (fnK h.k) #[.agg #[d.ptr]] W fun e W' => e = .returned (.bool q) ∧ Below W.heap.size W W' := by
  have hat := hd.at_
  have hcel := hd.cel
  have hsub := hd.subs
  have hfit := hd.fit
  obtain ⟨b, o, x⟩ := d
  simp only at hat hcel hsub hfit hsz he
  obtain ⟨k, nm, mn, la, ln, lc, lk, na, nn, nc, nk, ka, kn, kc, kk, aa, an, ac, ak, rfl, -, hnm, h3, h4, h5, h6⟩ := core_open hfit
  obtain ⟨hs3, hs4, hs5, hs6, -⟩ := hsub
  rw [rdK_nd, rdK_nil] at he
  obtain ⟨rfl, rfl, rfl, -⟩ := Tm.nd.inj he
  simp only [Fo.vals] at hcel
  rw [rdK_len kn kk h5] at hq
  obtain ⟨hlr, hll⟩ := lr_of h3 hs3
  obtain ⟨hsr, hsl⟩ := sr_of h4 hs4
  have hal := rdA_len an ak h6
  have hlz : ∀ {n w : Nat} {F : Fo} {k' : Nat}, Fit E F (rep (E k') n) → (E k').length = w → 0 < w → n ≤ F.size := fun {n w F k'} h e hw => by
    have e1 := Fit.len h
    rw [rep_len, e] at e1
    have := F.len_le
    have := Nat.le_mul_of_pos_right n hw
    omega
  have z5 := hlz h5 rfl (by decide)
  have z6 := hlz h6 rfl (by decide)
  have z4 := hlz h4 rfl (by decide)
  have z3 := hlz h3 rfl (by decide)
  simp only [Fo.size] at hsz
  have hh : ∀ x', Wc ⟨b, o, x'⟩ k nm mn la na ka aa lc nc kn kc an ac (rdU lk) (rdS nk) (rdA ak) W := fun _ => ⟨by rw [hll, hsl]; exact hcel, hat, hlr, hsr, ⟨by omega, by omega⟩, rdS_sz _ _ h4, by omega, by omega, hal, hnm⟩
  simp only [fnK]
  by_cases e1 : k = 1
  · subst e1
    exact w_1 _ _ _ nm mn la na ka aa lc nc kn kc an ac (rdU lk) (rdS nk) (rdA ak) W (hh _) q hq
  by_cases e2 : k = 2
  · subst e2
    exact w_2 _ _ _ nm mn la na ka aa lc nc kn kc an ac (rdU lk) (rdS nk) (rdA ak) W (hh _) q hq
  by_cases e3 : k = 3
  · subst e3
    exact w_3 _ _ _ nm mn la na ka aa lc nc kn kc an ac (rdU lk) (rdS nk) (rdA ak) W (hh _) q hq
  by_cases e4 : k = 4
  · subst e4
    exact w_4 _ _ _ nm mn la na ka aa lc nc kn kc an ac (rdU lk) (rdS nk) (rdA ak) W (hh _) q hq
  by_cases e5 : k = 5
  · subst e5
    exact w_5 _ _ _ nm mn la na ka aa lc nc kn kc an ac (rdU lk) (rdS nk) (rdA ak) W (hh _) q hq
  by_cases e6 : k = 6
  · subst e6
    exact w_6 _ _ _ nm mn la na ka aa lc nc kn kc an ac (rdU lk) (rdS nk) (rdA ak) W (hh _) q hq
  by_cases e7 : k = 7
  · subst e7
    exact w_7 _ _ _ nm mn la na ka aa lc nc kn kc an ac (rdU lk) (rdS nk) (rdA ak) W (hh _) q hq
  by_cases e8 : k = 8
  · subst e8
    exact w_8 _ _ _ nm mn la na ka aa lc nc kn kc an ac (rdU lk) (rdS nk) ak W (hh _) h6 hs6 (by omega) q hq
  by_cases e9 : k = 9
  · subst e9
    exact w_9 _ _ _ nm mn la na ka aa lc nc kn kc an ac (rdU lk) (rdS nk) (rdA ak) W (hh _) q hq
  by_cases e10 : k = 10
  · subst e10
    exact w_10 _ _ _ nm mn la na ka aa lc nc kn kc an ac (rdU lk) (rdS nk) (rdA ak) W (hh _) q hq
  rw [if_neg e1, if_neg e2, if_neg e3, if_neg e4, if_neg e5, if_neg e6, if_neg e7, if_neg e8, if_neg e9, if_neg e10]
  have hF : q = false := by
    cases hqq : q with
    | false => rfl
    | true => exact absurd (hq.1 hqq) (shp_other _ _ _ e1 e2 e3 e4 e5 e6 e7 e8 e9 e10)
  rw [hF]
  exact w_0 _ W

theorem me_0 (v : Value) (w : World) : (method (Try.prog.types.size + 100) 113 v "loop.example/g00017/impl.isWhole").run Try.prog w = .ok (83, v) w := by kernel_rfl
theorem me_1 (v : Value) (w : World) : (method (Try.prog.types.size + 100) 115 v "loop.example/g00017/impl.isWhole").run Try.prog w = .ok (85, v) w := by kernel_rfl
theorem me_2 (v : Value) (w : World) : (method (Try.prog.types.size + 100) 116 v "loop.example/g00017/impl.isWhole").run Try.prog w = .ok (87, v) w := by kernel_rfl
theorem me_3 (v : Value) (w : World) : (method (Try.prog.types.size + 100) 117 v "loop.example/g00017/impl.isWhole").run Try.prog w = .ok (90, v) w := by kernel_rfl
theorem me_4 (v : Value) (w : World) : (method (Try.prog.types.size + 100) 118 v "loop.example/g00017/impl.isWhole").run Try.prog w = .ok (92, v) w := by kernel_rfl
theorem me_5 (v : Value) (w : World) : (method (Try.prog.types.size + 100) 119 v "loop.example/g00017/impl.isWhole").run Try.prog w = .ok (93, v) w := by kernel_rfl
theorem me_6 (v : Value) (w : World) : (method (Try.prog.types.size + 100) 120 v "loop.example/g00017/impl.isWhole").run Try.prog w = .ok (95, v) w := by kernel_rfl
theorem me_7 (v : Value) (w : World) : (method (Try.prog.types.size + 100) 121 v "loop.example/g00017/impl.isWhole").run Try.prog w = .ok (98, v) w := by kernel_rfl
theorem me_8 (v : Value) (w : World) : (method (Try.prog.types.size + 100) 122 v "loop.example/g00017/impl.isWhole").run Try.prog w = .ok (101, v) w := by kernel_rfl
theorem me_9 (v : Value) (w : World) : (method (Try.prog.types.size + 100) 123 v "loop.example/g00017/impl.isWhole").run Try.prog w = .ok (103, v) w := by kernel_rfl
theorem me_10 (v : Value) (w : World) : (method (Try.prog.types.size + 100) 124 v "loop.example/g00017/impl.isWhole").run Try.prog w = .ok (105, v) w := by kernel_rfl

theorem me_any (k : Int) (v : Value) (w : World) : (method (Try.prog.types.size + 100) (tyK k) v "loop.example/g00017/impl.isWhole").run Try.prog w = .ok (fnK k, v) w := by
  unfold tyK fnK
  by_cases e1 : k = 1
  · subst e1
    exact me_1 v w
  by_cases e2 : k = 2
  · subst e2
    exact me_2 v w
  by_cases e3 : k = 3
  · subst e3
    exact me_3 v w
  by_cases e4 : k = 4
  · subst e4
    exact me_4 v w
  by_cases e5 : k = 5
  · subst e5
    exact me_5 v w
  by_cases e6 : k = 6
  · subst e6
    exact me_6 v w
  by_cases e7 : k = 7
  · subst e7
    exact me_7 v w
  by_cases e8 : k = 8
  · subst e8
    exact me_8 v w
  by_cases e9 : k = 9
  · subst e9
    exact me_9 v w
  by_cases e10 : k = 10
  · subst e10
    exact me_10 v w
  rw [if_neg e1, if_neg e2, if_neg e3, if_neg e4, if_neg e5, if_neg e6, if_neg e7, if_neg e8, if_neg e9, if_neg e10, if_neg e1, if_neg e2, if_neg e3, if_neg e4, if_neg e5, if_neg e6, if_neg e7, if_neg e8, if_neg e9, if_neg e10]
  exact me_0 v w

end Go.Proofs.Ytcnokpaicnjkfaa
