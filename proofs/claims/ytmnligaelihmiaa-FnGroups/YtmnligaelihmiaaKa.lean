import Derived.Test.YtmnligaelihmiaaRows
import Derived.Test.YtmnligaelihmiaaUr
namespace Go.Proofs.Ytmnligaelihmiaa
open Go.RowKit Go.Joins

def E : Nat → List Fld
  | 0 => [.i]
  | 1 => [.s 0]
  | _ => []

theorem Fo.len_le : ∀ F : Fo, F.len ≤ F.size
  | .nil => Nat.le_refl _
  | .v _ r => by have := r.len_le; simp only [Fo.size, Fo.len]; omega
  | .s _ _ _ _ r => by have := r.len_le; simp only [Fo.size, Fo.len]; omega

end Go.Proofs.Ytmnligaelihmiaa
