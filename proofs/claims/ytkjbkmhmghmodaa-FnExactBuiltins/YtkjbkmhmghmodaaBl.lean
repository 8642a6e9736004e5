import Derived.Test.YtkjbkmhmghmodaaBj
namespace Go.Proofs.Ytkjbkmhmghmodaa
open Go.RowKit Go.Joins

theorem tupS_size (k : Nat) (hk : k ≤ 7) : (tupS k).size ≤ maxLen := by
  unfold tupS maxLen
  simp only [ByteArray.size_append]
  have e1 : (⟨#[40]⟩ : ByteArray).size = 1 := rfl
  have e2 : (⟨#[41]⟩ : ByteArray).size = 1 := rfl
  have e3 : (⟨(List.replicate (k - 1) 44).toArray⟩ : ByteArray).size = k - 1 := by simp [ByteArray.size]
  omega

theorem tupC_fit (k : Nat) (hk : k ≤ 7) : Fit E (tupC k) (E 3) := ⟨tupS_size k hk, tupS_size k hk, by decide, wf_small k hk, gens_fit k hk, trivial⟩
theorem tupD_fit (k : Nat) (hk : k ≤ 7) : Fit E (tupD k) (E 4) := ⟨tupS_size k hk, wf_small k hk, ⟨tupS_size k hk, trivial⟩, trivial⟩

theorem cx1_fit : Fit E cx1 (rep (E 3) 4) := ⟨by decide, by decide, by decide, by decide, trivial, by decide, by decide, by decide, by decide, trivial, by decide, by decide, by decide, by decide, trivial, by decide, by decide, by decide, by decide, ⟨by decide, by decide, by decide, trivial, by decide, by decide, by decide, ⟨by decide, by decide, by decide, trivial, trivial⟩, trivial⟩, trivial⟩
theorem dx1_fit : Fit E dx1 (rep (E 4) 5) := ⟨by decide, by decide, ⟨by decide, by decide, trivial⟩, by decide, by decide, ⟨by decide, by decide, trivial⟩, by decide, by decide, trivial, by decide, by decide, trivial, by decide, by decide, trivial, trivial⟩

theorem ct_fit : ∀ i, i ≤ 8 → Fit E (ct i) (rep (E 3) (ncf i)) ∧ Fit E (dt i) (rep (E 4) (ndf i))
  | 0, _ => ⟨cx1_fit, dx1_fit⟩
  | 1, _ => by
    have e1 : rep (E 3) 5 = rep (E 3) 4 ++ E 3 := (rep_snoc _ _).symm
    have e2 : rep (E 4) 6 = rep (E 4) 5 ++ E 4 := (rep_snoc _ _).symm
    simp only [ncf, ndf, ct, dt]
    rw [e1, e2]
    exact ⟨cx1_fit.app (tupC_fit 0 (by omega)), dx1_fit.app (tupD_fit 0 (by omega))⟩
  | 2, _ => by
    have e1 : rep (E 3) 5 = rep (E 3) 4 ++ E 3 := (rep_snoc _ _).symm
    have e2 : rep (E 4) 6 = rep (E 4) 5 ++ E 4 := (rep_snoc _ _).symm
    simp only [ncf, ndf, ct, dt]
    rw [e1, e2]
    exact ⟨cx1_fit.app (tupC_fit 0 (by omega)), dx1_fit.app (tupD_fit 0 (by omega))⟩
  | i + 3, h => by
    obtain ⟨h1, h2⟩ := ct_fit (i + 2) (by omega)
    have e1 : rep (E 3) (ncf (i + 3)) = rep (E 3) (ncf (i + 2)) ++ E 3 := (rep_snoc _ _).symm
    have e2 : rep (E 4) (ndf (i + 3)) = rep (E 4) (ndf (i + 2)) ++ E 4 := (rep_snoc _ _).symm
    rw [e1, e2]
    exact ⟨h1.app (tupC_fit (i + 2) (by omega)), h2.app (tupD_fit (i + 2) (by omega))⟩

theorem ansB_fit : Fit E ansB [.s 3, .s 4, .s 7, .s 1, .s 6] := ⟨(ct_fit 8 (by omega)).1, (ct_fit 8 (by omega)).2, trivial, trivial, trivial, trivial⟩
theorem ansB_sct : 1 + ansB.sct ≤ 4294967296 := by decide

end Go.Proofs.Ytkjbkmhmghmodaa
