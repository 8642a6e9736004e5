import Derived.Test.YtjlefdalobgdfaaRows
import Derived.Test.YtjlefdalobgdfaaUr
namespace Go.Proofs.Ytjlefdalobgdfaa.U
open Go.RowKit Go.Joins

def E : Nat → List Fld
  | 0 => [.i, .i, .t, .s 0]
  | 1 => [.i, .i, .i, .t, .s 0]
  | 2 => [.t, .i]
  | 3 => [.i]
  | _ => []

theorem Fo.len_le : ∀ F : Fo, F.len ≤ F.size
  | .nil => Nat.le_refl _
  | .v _ r => by have := r.len_le; simp only [Fo.size, Fo.len]; omega
  | .s _ _ _ _ r => by have := r.len_le; simp only [Fo.size, Fo.len]; omega

end Go.Proofs.Ytjlefdalobgdfaa.U
