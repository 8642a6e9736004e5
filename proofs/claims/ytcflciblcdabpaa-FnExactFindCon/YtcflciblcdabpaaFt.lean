import Derived.Test.YtcflciblcdabpaaJD
import Derived.Test.YtcflciblcdabpaaUw
namespace Go.Proofs.Ytcflciblcdabpaa
open Go.RowKit Go.Joins

theorem hEM : ∀ k, (E k).length ≤ 8 := by
  intro k
  match k with
  | 0 | 1 | 2 | 3 | 4 | 5 | 6 | 7 => simp [E]
  | _ + 8 => simp [E]

theorem zeroC_fit : Fit E zeroC (E 3) := ⟨by decide, by decide, by decide, by decide, trivial, trivial⟩

theorem findC_fit (c : ByteArray) : ∀ (n : Nat) {F : Fo}, Fit E F (rep (E 3) n) → Fit E (findC c F) (E 3) ∧ (findC c F).wt ≤ F.wt := by
  intro n
  induction n with
  | zero =>
    intro F hf
    have e := fit_nil hf
    subst e
    exact ⟨zeroC_fit, Nat.le_refl 0⟩
  | succ n ih =>
    intro F hf
    replace hf : Fit E F ([.t, .t, .i, .i, .s 2] ++ rep (E 3) n) := hf
    obtain ⟨x0, F0, rfl, h0, hf⟩ := fit_t hf
    obtain ⟨x1, F1, rfl, h1, hf⟩ := fit_t hf
    obtain ⟨x2, F2, rfl, h2, hf⟩ := fit_i hf
    obtain ⟨x3, F3, rfl, h3, hf⟩ := fit_i hf
    obtain ⟨a4, n4, c4, k4, F4, rfl, h4, hf⟩ := fit_s hf
    obtain ⟨i1, i2⟩ := ih hf
    simp only [findC]
    split
    · exact ⟨⟨h0, h1, h2, h3, h4, trivial⟩, by simp only [Fo.wt]; omega⟩
    · exact ⟨i1, by simp only [Fo.wt]; omega⟩

theorem findC_sim (c : ByteArray) : ∀ (n : Nat) {F G : Fo}, Fit E F (rep (E 3) n) → G.sim F → (findC c G).sim (findC c F) := by
  intro n
  induction n with
  | zero =>
    intro F G hf hs
    have e := fit_nil hf
    subst e
    rw [Fo.sim_nil hs]
    exact Fo.sim.refl _
  | succ n ih =>
    intro F G hf hs
    replace hf : Fit E F ([.t, .t, .i, .i, .s 2] ++ rep (E 3) n) := hf
    obtain ⟨x0, F0, rfl, -, hf⟩ := fit_t hf
    obtain ⟨x1, F1, rfl, -, hf⟩ := fit_t hf
    obtain ⟨x2, F2, rfl, -, hf⟩ := fit_i hf
    obtain ⟨x3, F3, rfl, -, hf⟩ := fit_i hf
    obtain ⟨a4, n4, c4, k4, F4, rfl, -, hf⟩ := fit_s hf
    obtain ⟨u0, rfl, s_1⟩ := Fo.sim_v hs
    obtain ⟨u1, rfl, s_2⟩ := Fo.sim_v s_1
    obtain ⟨u2, rfl, s_3⟩ := Fo.sim_v s_2
    obtain ⟨u3, rfl, s_4⟩ := Fo.sim_v s_3
    obtain ⟨d4, e4, t4, u4, rfl, r4, s_5⟩ := Fo.sim_s s_4
    simp only [findC]
    split
    · exact ⟨rfl, rfl, rfl, rfl, rfl, r4, trivial⟩
    · exact ih hf s_5

theorem findCT_fit {c : ByteArray} {F : Fo} (hf : Fit E F tabs) : Fit E (findCT c F) (E 3) := by
  obtain ⟨a0, n0, c0, k0, F0, rfl, hf0, hf⟩ := fit_s hf
  exact (findC_fit c _ hf0).1

theorem findCT_wt {c : ByteArray} {F : Fo} (hf : Fit E F tabs) (h : F.wt ≤ 1048576) : (findCT c F).wt ≤ 1048576 := by
  obtain ⟨a0, n0, c0, k0, F0, rfl, hf0, hf⟩ := fit_s hf
  have := (findC_fit c _ hf0).2
  simp only [findCT, Fo.wt] at h ⊢
  omega

theorem findCT_sim {c : ByteArray} {F G : Fo} (hf : Fit E F tabs) (hs : G.sim F) : (findCT c G).sim (findCT c F) := by
  obtain ⟨a0, n0, c0, k0, F0, rfl, hf0, hf⟩ := fit_s hf
  obtain ⟨d0, e0, t0, u0, rfl, r0, s_1⟩ := Fo.sim_s hs
  exact findC_sim c _ hf0 r0

theorem m_FC (F : Fo) (c : ByteArray) (nb : Nat) (W : World) (hf : Fit E F tabs) (hn : nb ≤ W.heap.size) (hwt : F.wt ≤ 1048576) (hs : F.Subs W (fun c => c < nb)) :
    Calls Try.prog 5 #[.agg F.vals.toArray, .string c] W fun e W' => ∃ R : Fo, e = .returned (.agg R.vals.toArray) ∧ R.sim (findCT c F) ∧ Below W.heap.size W W' ∧ R.Subs W' (fun c => c < W'.heap.size) :=
  m_FindCon F c W hf hwt (hs.mono (fun d hd => by omega))

end Go.Proofs.Ytcflciblcdabpaa
