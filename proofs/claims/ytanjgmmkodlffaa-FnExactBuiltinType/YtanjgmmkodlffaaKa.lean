import Derived.Test.YtanjgmmkodlffaaRows
import Derived.Test.YtanjgmmkodlffaaUr
namespace Go.Proofs.Ytanjgmmkodlffaa.U
open Go.RowKit Go.Joins

def E : Nat → List Fld
  | 0 => [.t, .i]
  | 1 => [.i, .i, .t, .s 1]
  | 2 => [.t, .i, .s 0, .i, .i, .t, .s 1]
  | 3 => [.i, .t, .s 3]
  | _ => []

theorem Fo.len_le : ∀ F : Fo, F.len ≤ F.size
  | .nil => Nat.le_refl _
  | .v _ r => by have := r.len_le; simp only [Fo.size, Fo.len]; omega
  | .s _ _ _ _ r => by have := r.len_le; simp only [Fo.size, Fo.len]; omega

end Go.Proofs.Ytanjgmmkodlffaa.U
