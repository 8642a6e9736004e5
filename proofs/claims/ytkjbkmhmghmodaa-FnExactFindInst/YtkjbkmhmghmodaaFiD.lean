import Derived.Test.YtkjbkmhmghmodaaFiA
import Derived.Test.YtkjbkmhmghmodaaUw
namespace Go.Proofs.Ytkjbkmhmghmodaa
open Go.RowKit Go.Joins

theorem hEM : ∀ k, (E k).length ≤ 8 := by
  intro k
  match k with
  | 0 | 1 | 2 | 3 | 4 | 5 | 6 | 7 => simp [E]
  | _ + 8 => simp [E]

theorem zeroI_fit : Fit E zeroI (E 6) := ⟨by decide, by decide, by decide, trivial, trivial⟩

theorem findI_fit (c d : ByteArray) : ∀ (n : Nat) {F : Fo}, Fit E F (rep (E 6) n) → Fit E (findI c d F) (E 6) ∧ (findI c d F).wt ≤ F.wt := by
  intro n
  induction n with
  | zero =>
    intro F hf
    have e := fit_nil hf
    subst e
    exact ⟨zeroI_fit, Nat.le_refl 0⟩
  | succ n ih =>
    intro F hf
    replace hf : Fit E F ([.t, .t, .i, .s 5] ++ rep (E 6) n) := hf
    obtain ⟨x0, F0, rfl, h0, hf⟩ := fit_t hf
    obtain ⟨x1, F1, rfl, h1, hf⟩ := fit_t hf
    obtain ⟨x2, F2, rfl, h2, hf⟩ := fit_i hf
    obtain ⟨a3, n3, c3, k3, F3, rfl, h3, hf⟩ := fit_s hf
    obtain ⟨i1, i2⟩ := ih hf
    simp only [findI]
    split
    · exact ⟨⟨h0, h1, h2, h3, trivial⟩, by simp only [Fo.wt]; omega⟩
    · exact ⟨i1, by simp only [Fo.wt]; omega⟩

theorem findT_fit {c d : ByteArray} {F : Fo} (hf : Fit E F tabs) : Fit E (findT c d F) (E 6) := by
  obtain ⟨a0, n0, c0, k0, F0, rfl, hf0, hf⟩ := fit_s hf
  obtain ⟨a1, n1, c1, k1, F1, rfl, hf1, hf⟩ := fit_s hf
  obtain ⟨a2, n2, c2, k2, F2, rfl, hf2, hf⟩ := fit_s hf
  obtain ⟨a3, n3, c3, k3, F3, rfl, hf3, hf⟩ := fit_s hf
  obtain ⟨a4, n4, c4, k4, F4, rfl, hf4, hf⟩ := fit_s hf
  exact (findI_fit c d _ hf4).1

theorem findT_wt {c d : ByteArray} {F : Fo} (hf : Fit E F tabs) (h : F.wt ≤ 1048576) : (findT c d F).wt ≤ 1048576 := by
  obtain ⟨a0, n0, c0, k0, F0, rfl, hf0, hf⟩ := fit_s hf
  obtain ⟨a1, n1, c1, k1, F1, rfl, hf1, hf⟩ := fit_s hf
  obtain ⟨a2, n2, c2, k2, F2, rfl, hf2, hf⟩ := fit_s hf
  obtain ⟨a3, n3, c3, k3, F3, rfl, hf3, hf⟩ := fit_s hf
  obtain ⟨a4, n4, c4, k4, F4, rfl, hf4, hf⟩ := fit_s hf
  have := (findI_fit c d _ hf4).2
  simp only [findT, Fo.wt] at h ⊢
  omega

end Go.Proofs.Ytkjbkmhmghmodaa
