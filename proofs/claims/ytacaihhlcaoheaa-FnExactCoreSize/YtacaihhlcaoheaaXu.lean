import Derived.Test.YtacaihhlcaoheaaJM
import Derived.Test.YtacaihhlcaoheaaUw
import Derived.Deep.RegionHeld3
import Derived.Deep.DeepCutAuto
namespace Go.Proofs.Ytacaihhlcaoheaa
open Go.RowKit Go.Joins

theorem tc_sim0 : ∀ (m : Nat) (F G : Fo) (n : Nat), F.size ≤ m → G.sim F → (Fit E F (rep (E 3) n) → tcK G = tcK F) ∧ (Fit E F (rep (E 2) n) → tcA G = tcA F) := by
  intro m
  induction m with
  | zero =>
    intro F G n h s
    cases F with
    | nil =>
      rw [Fo.sim_nil s]
      exact ⟨fun _ => rfl, fun _ => rfl⟩
    | v x r => simp only [Fo.size] at h; omega
    | s a n c ks r => simp only [Fo.size] at h; omega
  | succ m ih =>
    intro F G n h s
    cases n with
    | zero =>
      refine ⟨fun hf => ?_, fun hf => ?_⟩
      · have e := fit_nil hf
        subst e
        rw [Fo.sim_nil s]
      · have e := fit_nil hf
        subst e
        rw [Fo.sim_nil s]
    | succ n =>
      refine ⟨fun hf => ?_, fun hf => ?_⟩
      · obtain ⟨x, q, rfl, hx, hq, hl⟩ := Fit.split (fs := E 3) (gs := rep (E 3) n) hf
        obtain ⟨k, nm, mn, la, ln, lc, lk, na, nn, nc, nk, ka, kn, kc, kk, aa, an, ac, ak, rfl, -, -, h3, h4, h5, h6⟩ := core_open hx
        simp only [Fo.app, Fo.size] at h
        simp only [Fo.app] at s ⊢
        obtain ⟨u0, rfl, s_1⟩ := Fo.sim_v s
        obtain ⟨u1, rfl, s_2⟩ := Fo.sim_v s_1
        obtain ⟨u2, rfl, s_3⟩ := Fo.sim_v s_2
        obtain ⟨d3, e3, t3, u3, rfl, -, s_4⟩ := Fo.sim_s s_3
        obtain ⟨d4, e4, t4, u4, rfl, -, s_5⟩ := Fo.sim_s s_4
        obtain ⟨d5, e5, t5, u5, rfl, s5, s_6⟩ := Fo.sim_s s_5
        obtain ⟨d6, e6, t6, u6, rfl, s6, s_7⟩ := Fo.sim_s s_6
        rw [tcK_nd, tcK_nd, (ih kk t5 kn (by omega) s5).1 h5, (ih ak t6 an (by omega) s6).2 h6, (ih q u6 n (by omega) s_7).1 hq]
      · obtain ⟨x, q, rfl, hx, hq, hl⟩ := Fit.split (fs := E 2) (gs := rep (E 2) n) hf
        obtain ⟨con, ca, cn, cc, ck, y, rfl, -, -, hy⟩ := alt_open hx
        obtain ⟨k, nm, mn, la, ln, lc, lk, na, nn, nc, nk, ka, kn, kc, kk, aa, an, ac, ak, rfl, -, -, h3, h4, h5, h6⟩ := core_open hy
        simp only [Fo.app, Fo.size] at h
        simp only [Fo.app] at s ⊢
        obtain ⟨u8, rfl, s_1⟩ := Fo.sim_v s
        obtain ⟨d9, e9, t9, u9, rfl, -, s_2⟩ := Fo.sim_s s_1
        obtain ⟨u0, rfl, s_3⟩ := Fo.sim_v s_2
        obtain ⟨u1, rfl, s_4⟩ := Fo.sim_v s_3
        obtain ⟨u2, rfl, s_5⟩ := Fo.sim_v s_4
        obtain ⟨d3, e3, t3, u3, rfl, -, s_6⟩ := Fo.sim_s s_5
        obtain ⟨d4, e4, t4, u4, rfl, -, s_7⟩ := Fo.sim_s s_6
        obtain ⟨d5, e5, t5, u5, rfl, s5, s_8⟩ := Fo.sim_s s_7
        obtain ⟨d6, e6, t6, u6, rfl, s6, s_9⟩ := Fo.sim_s s_8
        rw [tcA_nd, tcA_nd, (ih kk t5 kn (by omega) s5).1 h5, (ih ak t6 an (by omega) s6).2 h6, (ih q u6 n (by omega) s_9).2 hq]

theorem tc_sim {F G : Fo} (hf : Fit E F (E 3)) (s : G.sim F) : tcK G = tcK F := (tc_sim0 _ F G 1 (Nat.le_refl _) s).1 hf

theorem m_size (F : Fo) (W : World) (hf : Fit E F (E 3)) (hw : F.wt ≤ 1048576) (hs : F.Subs W (fun c => c < W.heap.size)) : Calls Try.prog 6 #[.agg F.vals.toArray] W fun e W' => e = .returned (.int .i64 (tcK F : Int)) ∧ Below W.heap.size W W' := by
  have hb := (Fit.bounds (E := E) (M := 9) (by intro k; unfold E; split <;> decide) F _ hf).2.2
  have hl : F.len = 7 := Fit.len hf
  exact ct_all _ F _ W (Nat.le_refl _) hf (Nat.le_refl _) (by omega) hs

theorem i_size2 (F : Fo) (W : World) {lo : Nat} (hf : Fit E F (E 3)) (hw : F.wt ≤ 1048576) (ho : Own lo W F) : Calls Try.prog 8 #[.agg F.vals.toArray] W fun e W' => e = .returned (.int .i64 (tcK F : Int)) ∧ Below W.heap.size W W' := i_size W hf hw ho

end Go.Proofs.Ytacaihhlcaoheaa
