import Derived.Test.YtfgmgbkiebeeoaaRows
import Derived.Test.YtfgmgbkiebeeoaaUr
namespace Go.Proofs.Ytfgmgbkiebeeoaa
open Go.RowKit Go.Joins

def E : Nat → List Fld
  | 0 => [.u]
  | 1 => [.t]
  | 2 => [.t, .s 1, .i, .t, .b, .s 0, .s 1, .s 3, .s 2]
  | 3 => [.i, .t, .b, .s 0, .s 1, .s 3, .s 2]
  | _ => []

theorem Fo.len_le : ∀ F : Fo, F.len ≤ F.size
  | .nil => Nat.le_refl _
  | .v _ r => by have := r.len_le; simp only [Fo.size, Fo.len]; omega
  | .s _ _ _ _ r => by have := r.len_le; simp only [Fo.size, Fo.len]; omega

end Go.Proofs.Ytfgmgbkiebeeoaa
