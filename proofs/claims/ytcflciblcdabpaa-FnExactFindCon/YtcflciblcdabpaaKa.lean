import Derived.Test.YtcflciblcdabpaaRows
import Derived.Test.YtcflciblcdabpaaUr
namespace Go.Proofs.Ytcflciblcdabpaa
open Go.RowKit Go.Joins

def E : Nat → List Fld
  | 0 => [.t]
  | 1 => [.t, .s 0, .s 0]
  | 2 => [.i, .i, .t, .s 2]
  | 3 => [.t, .t, .i, .i, .s 2]
  | 4 => [.t, .i, .s 0]
  | 5 => [.t, .i]
  | 6 => [.t, .t, .i, .s 5]
  | 7 => [.t, .t, .i, .s 5, .i, .i, .t, .s 2]
  | _ => []

theorem Fo.len_le : ∀ F : Fo, F.len ≤ F.size
  | .nil => Nat.le_refl _
  | .v _ r => by have := r.len_le; simp only [Fo.size, Fo.len]; omega
  | .s _ _ _ _ r => by have := r.len_le; simp only [Fo.size, Fo.len]; omega

end Go.Proofs.Ytcflciblcdabpaa
