import Derived.Test.YtppfohpgcofkbaaJK
import Derived.Test.YtppfohpgcofkbaaUx
namespace Go.Proofs.Ytppfohpgcofkbaa
open Go.RowKit Go.Joins

/-- All names of terms are texts. -/
def Tm.allN : Tm → Prop
  | .nil => True
  | .nd h ks al r => h.nm.size ≤ maxLen ∧ ks.allN ∧ al.allN ∧ r.allN

theorem rdS_sim : ∀ (A B : Fo), A.sim B → rdS A = rdS B
  | .nil, .nil, _ => rfl
  | .v x r, .v y q, h => by
    obtain ⟨rfl, h2⟩ := h
    have e := rdS_sim r q h2
    cases x <;> simp only [rdS, e]
  | .s _ _ _ _ _, .s _ _ _ _ _, _ => rfl
  | .nil, .v _ _, h => h.elim
  | .nil, .s _ _ _ _ _, h => h.elim
  | .v _ _, .nil, h => h.elim
  | .v _ _, .s _ _ _ _ _, h => h.elim
  | .s _ _ _ _ _, .nil, h => h.elim
  | .s _ _ _ _ _, .v _ _, h => h.elim

theorem rdU_sim : ∀ (A B : Fo), A.sim B → rdU A = rdU B
  | .nil, .nil, _ => rfl
  | .v x r, .v y q, h => by
    obtain ⟨rfl, h2⟩ := h
    have e := rdU_sim r q h2
    cases x <;> simp only [rdU, e]
  | .s _ _ _ _ _, .s _ _ _ _ _, _ => rfl
  | .nil, .v _ _, h => h.elim
  | .nil, .s _ _ _ _ _, h => h.elim
  | .v _ _, .nil, h => h.elim
  | .v _ _, .s _ _ _ _ _, h => h.elim
  | .s _ _ _ _ _, .nil, h => h.elim
  | .s _ _ _ _ _, .v _ _, h => h.elim

/-- What stands for the same reads the same. -/
theorem rd_sim : ∀ (m : Nat), (∀ (F G : Fo) (n : Nat), F.size ≤ m → Fit E F (rep (E 3) n) → (rdK F).allN ∧ (G.sim F → rdK G = rdK F)) ∧ (∀ (F G : Fo) (n : Nat), F.size ≤ m → Fit E F (rep (E 2) n) → (rdA F).allN ∧ (G.sim F → rdA G = rdA F)) := by
  intro m
  induction m with
  | zero =>
    refine ⟨fun F G n hm hf => ?_, fun F G n hm hf => ?_⟩
    · cases F with
      | nil => exact ⟨by rw [rdK_nil]; trivial, fun h => by rw [Fo.sim_nil h]⟩
      | v _ _ => simp [Fo.size] at hm
      | s _ _ _ _ _ => simp [Fo.size] at hm
    · cases F with
      | nil => exact ⟨by rw [rdA_nil]; trivial, fun h => by rw [Fo.sim_nil h]⟩
      | v _ _ => simp [Fo.size] at hm
      | s _ _ _ _ _ => simp [Fo.size] at hm
  | succ m ih =>
    obtain ⟨ihK, ihA⟩ := ih
    refine ⟨fun F G n hm hf => ?_, fun F G n hm hf => ?_⟩
    · cases n with
      | zero =>
        rw [fit_nil hf]
        exact ⟨by rw [rdK_nil]; trivial, fun h => by rw [Fo.sim_nil h]⟩
      | succ n =>
        replace hf : Fit E F ([.i, .t, .b, .s 0, .s 1, .s 3, .s 2] ++ rep (E 3) n) := hf
        obtain ⟨k, F0, rfl, -, hf⟩ := fit_i hf
        obtain ⟨nm, F1, rfl, hnm, hf⟩ := fit_t hf
        obtain ⟨mn, F2, rfl, hf⟩ := fit_b hf
        obtain ⟨la, ln, lc, lk, F3, rfl, h3, hf⟩ := fit_s hf
        obtain ⟨na, nn, nc, nk, F4, rfl, h4, hf⟩ := fit_s hf
        obtain ⟨ka, kn, kc, kk, F5, rfl, h5, hf⟩ := fit_s hf
        obtain ⟨aa, an, ac, ak, F6, rfl, h6, hf⟩ := fit_s hf
        simp only [Fo.size] at hm
        have a1 := fun G => ihK kk G kn (by omega) h5
        have a2 := fun G => ihA ak G an (by omega) h6
        have a3 := fun G => ihK F6 G n (by omega) hf
        refine ⟨by rw [rdK_nd]; exact ⟨hnm, (a1 .nil).1, (a2 .nil).1, (a3 .nil).1⟩, fun h => ?_⟩
        obtain ⟨G0, rfl, g0⟩ := Fo.sim_v h
        obtain ⟨G1, rfl, g1⟩ := Fo.sim_v g0
        obtain ⟨G2, rfl, g2⟩ := Fo.sim_v g1
        obtain ⟨d3, e3, j3, G3, rfl, s3, g3⟩ := Fo.sim_s g2
        obtain ⟨d4, e4, j4, G4, rfl, s4, g4⟩ := Fo.sim_s g3
        obtain ⟨d5, e5, j5, G5, rfl, s5, g5⟩ := Fo.sim_s g4
        obtain ⟨d6, e6, j6, G6, rfl, s6, g6⟩ := Fo.sim_s g5
        rw [rdK_nd, rdK_nd, rdU_sim _ _ s3, rdS_sim _ _ s4, (a1 _).2 s5, (a2 _).2 s6, (a3 _).2 g6]
    · cases n with
      | zero =>
        rw [fit_nil hf]
        exact ⟨by rw [rdA_nil]; trivial, fun h => by rw [Fo.sim_nil h]⟩
      | succ n =>
        replace hf : Fit E F ([.t, .s 1, .i, .t, .b, .s 0, .s 1, .s 3, .s 2] ++ rep (E 2) n) := hf
        obtain ⟨con, E0, rfl, -, hf⟩ := fit_t hf
        obtain ⟨ca, cn, cc, ck, E1, rfl, h0, hf⟩ := fit_s hf
        obtain ⟨k, F0, rfl, -, hf⟩ := fit_i hf
        obtain ⟨nm, F1, rfl, hnm, hf⟩ := fit_t hf
        obtain ⟨mn, F2, rfl, hf⟩ := fit_b hf
        obtain ⟨la, ln, lc, lk, F3, rfl, h3, hf⟩ := fit_s hf
        obtain ⟨na, nn, nc, nk, F4, rfl, h4, hf⟩ := fit_s hf
        obtain ⟨ka, kn, kc, kk, F5, rfl, h5, hf⟩ := fit_s hf
        obtain ⟨aa, an, ac, ak, F6, rfl, h6, hf⟩ := fit_s hf
        simp only [Fo.size] at hm
        have a1 := fun G => ihK kk G kn (by omega) h5
        have a2 := fun G => ihA ak G an (by omega) h6
        have a3 := fun G => ihA F6 G n (by omega) hf
        refine ⟨by rw [rdA_nd]; exact ⟨hnm, (a1 .nil).1, (a2 .nil).1, (a3 .nil).1⟩, fun h => ?_⟩
        obtain ⟨D0, rfl, g0⟩ := Fo.sim_v h
        obtain ⟨d0, e0, j0, D1, rfl, s0, g1⟩ := Fo.sim_s g0
        obtain ⟨G0, rfl, g2⟩ := Fo.sim_v g1
        obtain ⟨G1, rfl, g3⟩ := Fo.sim_v g2
        obtain ⟨G2, rfl, g4⟩ := Fo.sim_v g3
        obtain ⟨d3, e3, j3, G3, rfl, s3, g5⟩ := Fo.sim_s g4
        obtain ⟨d4, e4, j4, G4, rfl, s4, g6⟩ := Fo.sim_s g5
        obtain ⟨d5, e5, j5, G5, rfl, s5, g7⟩ := Fo.sim_s g6
        obtain ⟨d6, e6, j6, G6, rfl, s6, g8⟩ := Fo.sim_s g7
        rw [rdA_nd, rdA_nd, rdS_sim _ _ s0, rdU_sim _ _ s3, rdS_sim _ _ s4, (a1 _).2 s5, (a2 _).2 s6, (a3 _).2 g8]

theorem core_rep {F : Fo} (hf : Fit E F (E 3)) : Fit E F (rep (E 3) 1) := hf

theorem fcT_sim {F G : Fo} (hf : Fit E F (E 3)) (h : G.sim F) : fcT G = fcT F := by
  have e := ((rd_sim F.size).1 F G 1 (Nat.le_refl _) (core_rep hf)).2 h
  unfold fcT fx KT
  rw [e]

theorem hEM : ∀ k, (E k).length ≤ 9 := E_len

end Go.Proofs.Ytppfohpgcofkbaa
