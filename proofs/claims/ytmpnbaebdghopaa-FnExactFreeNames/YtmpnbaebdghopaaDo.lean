import Derived.Test.YtmpnbaebdghopaaDn
namespace Go.Proofs.Ytmpnbaebdghopaa
open Go.RowKit Go.Joins

/-- The check of a kind. -/
def fnK (k : Int) : Nat := if k = 1 then 121 else if k = 2 then 123 else if k = 3 then 126 else if k = 4 then 128 else if k = 5 then 129 else if k = 6 then 131 else if k = 7 then 134 else if k = 8 then 137 else if k = 9 then 141 else if k = 10 then 143 else 118

theorem i_whole (d : Nd) (W : World) (hd : d.Ok W (fun b => b < W.heap.size)) (hsz : d.x.size ≤ 16777216) (h : Hd) (ks al : Tm) (he : rdK d.x = .nd h ks al .nil) (q : Bool) (hq : q = true ↔ shp h ks.len al) :
    Calls Try.prog (fnK h.k) #[.agg #[d.ptr]] W fun e W' => e = .returned (.bool q) ∧ Below W.heap.size W W' := by
  have hat := hd.at_
  have hcel := hd.cel
  have hsub := hd.subs
  have hfit := hd.fit
  obtain ⟨b, o, x⟩ := d
  simp only at hat hcel hsub hfit hsz he
  obtain ⟨k, nm, mn, la, ln, lc, lk, na, nn, nc, nk, ka, kn, kc, kk, aa, an, ac, ak, rfl, -, hnm, h3, h4, h5, h6⟩ := core_open hfit
  obtain ⟨hs3, hs4, hs5, hs6, -⟩ := hsub
  rw [rdK_nd, rdK_nil] at he
  obtain ⟨rfl, rfl, rfl, -⟩ := Tm.nd.inj he
  simp only [Fo.vals] at hcel
  rw [rdK_len kn kk h5] at hq
  obtain ⟨hlr, hll⟩ := lr_of h3 hs3
  obtain ⟨hsr, hsl⟩ := sr_of h4 hs4
  have hal := rdA_len an ak h6
  have hlz : ∀ {n w : Nat} {F : Fo} {k' : Nat}, Fit E F (rep (E k') n) → (E k').length = w → 0 < w → n ≤ F.size := fun {n w F k'} h e hw => by
    have e1 := Fit.len h
    rw [rep_len, e] at e1
    have := F.len_le
    have := Nat.le_mul_of_pos_right n hw
    omega
  have z5 := hlz h5 rfl (by decide)
  have z6 := hlz h6 rfl (by decide)
  have z4 := hlz h4 rfl (by decide)
  have z3 := hlz h3 rfl (by decide)
  simp only [Fo.size] at hsz
  have hh : ∀ x', Wc ⟨b, o, x'⟩ k nm mn la na ka aa lc nc kn kc an ac (rdU lk) (rdS nk) (rdA ak) W := fun _ => ⟨by rw [hll, hsl]; exact hcel, hat, hlr, hsr, ⟨by omega, by omega⟩, rdS_sz _ _ h4, by omega, by omega, hal, hnm⟩
  simp only [fnK]
  by_cases e1 : k = 1
  · subst e1
    exact w_1 _ _ _ nm mn la na ka aa lc nc kn kc an ac (rdU lk) (rdS nk) (rdA ak) W (hh _) q hq
  by_cases e2 : k = 2
  · subst e2
    exact w_2 _ _ _ nm mn la na ka aa lc nc kn kc an ac (rdU lk) (rdS nk) (rdA ak) W (hh _) q hq
  by_cases e3 : k = 3
  · subst e3
    exact w_3 _ _ _ nm mn la na ka aa lc nc kn kc an ac (rdU lk) (rdS nk) (rdA ak) W (hh _) q hq
  by_cases e4 : k = 4
  · subst e4
    exact w_4 _ _ _ nm mn la na ka aa lc nc kn kc an ac (rdU lk) (rdS nk) (rdA ak) W (hh _) q hq
  by_cases e5 : k = 5
  · subst e5
    exact w_5 _ _ _ nm mn la na ka aa lc nc kn kc an ac (rdU lk) (rdS nk) (rdA ak) W (hh _) q hq
  by_cases e6 : k = 6
  · subst e6
    exact w_6 _ _ _ nm mn la na ka aa lc nc kn kc an ac (rdU lk) (rdS nk) (rdA ak) W (hh _) q hq
  by_cases e7 : k = 7
  · subst e7
    exact w_7 _ _ _ nm mn la na ka aa lc nc kn kc an ac (rdU lk) (rdS nk) (rdA ak) W (hh _) q hq
  by_cases e8 : k = 8
  · subst e8
    exact w_8 _ _ _ nm mn la na ka aa lc nc kn kc an ac (rdU lk) (rdS nk) ak W (hh _) h6 hs6 (by omega) q hq
  by_cases e9 : k = 9
  · subst e9
    exact w_9 _ _ _ nm mn la na ka aa lc nc kn kc an ac (rdU lk) (rdS nk) (rdA ak) W (hh _) q hq
  by_cases e10 : k = 10
  · subst e10
    exact w_10 _ _ _ nm mn la na ka aa lc nc kn kc an ac (rdU lk) (rdS nk) (rdA ak) W (hh _) q hq
  rw [if_neg e1, if_neg e2, if_neg e3, if_neg e4, if_neg e5, if_neg e6, if_neg e7, if_neg e8, if_neg e9, if_neg e10]
  have hF : q = false := by
    cases hqq : q with
    | false => rfl
    | true => exact absurd (hq.1 hqq) (shp_other _ _ _ e1 e2 e3 e4 e5 e6 e7 e8 e9 e10)
  rw [hF]
  exact w_0 _ W

theorem me_0 (v : Value) (w : World) : (method (Try.prog.types.size + 100) 121 v "loop.example/g00017/impl.isWhole").run Try.prog w = .ok (118, v) w := by kernel_rfl
theorem me_1 (v : Value) (w : World) : (method (Try.prog.types.size + 100) 123 v "loop.example/g00017/impl.isWhole").run Try.prog w = .ok (121, v) w := by kernel_rfl
theorem me_2 (v : Value) (w : World) : (method (Try.prog.types.size + 100) 124 v "loop.example/g00017/impl.isWhole").run Try.prog w = .ok (123, v) w := by kernel_rfl
theorem me_3 (v : Value) (w : World) : (method (Try.prog.types.size + 100) 125 v "loop.example/g00017/impl.isWhole").run Try.prog w = .ok (126, v) w := by kernel_rfl
theorem me_4 (v : Value) (w : World) : (method (Try.prog.types.size + 100) 126 v "loop.example/g00017/impl.isWhole").run Try.prog w = .ok (128, v) w := by kernel_rfl
theorem me_5 (v : Value) (w : World) : (method (Try.prog.types.size + 100) 127 v "loop.example/g00017/impl.isWhole").run Try.prog w = .ok (129, v) w := by kernel_rfl
theorem me_6 (v : Value) (w : World) : (method (Try.prog.types.size + 100) 128 v "loop.example/g00017/impl.isWhole").run Try.prog w = .ok (131, v) w := by kernel_rfl
theorem me_7 (v : Value) (w : World) : (method (Try.prog.types.size + 100) 129 v "loop.example/g00017/impl.isWhole").run Try.prog w = .ok (134, v) w := by kernel_rfl
theorem me_8 (v : Value) (w : World) : (method (Try.prog.types.size + 100) 130 v "loop.example/g00017/impl.isWhole").run Try.prog w = .ok (137, v) w := by kernel_rfl
theorem me_9 (v : Value) (w : World) : (method (Try.prog.types.size + 100) 131 v "loop.example/g00017/impl.isWhole").run Try.prog w = .ok (141, v) w := by kernel_rfl
theorem me_10 (v : Value) (w : World) : (method (Try.prog.types.size + 100) 132 v "loop.example/g00017/impl.isWhole").run Try.prog w = .ok (143, v) w := by kernel_rfl

theorem me_any (k : Int) (v : Value) (w : World) : (method (Try.prog.types.size + 100) (tyK k) v "loop.example/g00017/impl.isWhole").run Try.prog w = .ok (fnK k, v) w := by
  unfold tyK fnK
  by_cases e1 : k = 1
  · subst e1
    exact me_1 v w
  by_cases e2 : k = 2
  · subst e2
    exact me_2 v w
  by_cases e3 : k = 3
  · subst e3
    exact me_3 v w
  by_cases e4 : k = 4
  · subst e4
    exact me_4 v w
  by_cases e5 : k = 5
  · subst e5
    exact me_5 v w
  by_cases e6 : k = 6
  · subst e6
    exact me_6 v w
  by_cases e7 : k = 7
  · subst e7
    exact me_7 v w
  by_cases e8 : k = 8
  · subst e8
    exact me_8 v w
  by_cases e9 : k = 9
  · subst e9
    exact me_9 v w
  by_cases e10 : k = 10
  · subst e10
    exact me_10 v w
  rw [if_neg e1, if_neg e2, if_neg e3, if_neg e4, if_neg e5, if_neg e6, if_neg e7, if_neg e8, if_neg e9, if_neg e10, if_neg e1, if_neg e2, if_neg e3, if_neg e4, if_neg e5, if_neg e6, if_neg e7, if_neg e8, if_neg e9, if_neg e10]
  exact me_0 v w

end Go.Proofs.Ytmpnbaebdghopaa
