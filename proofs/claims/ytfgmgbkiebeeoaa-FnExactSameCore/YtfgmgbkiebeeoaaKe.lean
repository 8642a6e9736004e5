import Derived.Deep.RegionHeld3
import Derived.Test.YtfgmgbkiebeeoaaKa
namespace Go.Proofs.Ytfgmgbkiebeeoaa
open Go.RowKit Go.Joins

theorem Fo.sim.split : ∀ {x y r q : Fo}, x.len = y.len → (y.app q).sim (x.app r) → y.sim x ∧ q.sim r
  | .nil, .nil, _, _, _, h => ⟨trivial, h⟩
  | .v _ x, .v _ y, r, q, e, ⟨h1, h2⟩ => by
    obtain ⟨h3, h4⟩ := Fo.sim.split (x := x) (y := y) (by simpa [Fo.len] using e) h2
    exact ⟨⟨h1, h3⟩, h4⟩
  | .s _ _ _ _ x, .s _ _ _ _ y, r, q, e, ⟨h1, h0, h2⟩ => by
    obtain ⟨h3, h4⟩ := Fo.sim.split (x := x) (y := y) (by simpa [Fo.len] using e) h2
    exact ⟨⟨h1, h0, h3⟩, h4⟩
  | .nil, .v _ _, _, _, e, _ => by simp [Fo.len] at e
  | .nil, .s _ _ _ _ _, _, _, e, _ => by simp [Fo.len] at e
  | .v _ _, .nil, _, _, e, _ => by simp [Fo.len] at e
  | .s _ _ _ _ _, .nil, _, _, e, _ => by simp [Fo.len] at e
  | .v _ _, .s _ _ _ _ _, _, _, _, h => h.elim
  | .s _ _ _ _ _, .v _ _, _, _, _, h => h.elim

end Go.Proofs.Ytfgmgbkiebeeoaa
