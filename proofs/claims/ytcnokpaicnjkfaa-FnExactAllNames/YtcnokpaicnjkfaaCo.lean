import Derived.Test.YtcnokpaicnjkfaaCl
import Derived.Test.YtcnokpaicnjkfaaUw
namespace Go.Proofs.Ytcnokpaicnjkfaa
open Go.RowKit Go.Joins

theorem E_len (k : Nat) : (E k).length ≤ 9 := by
  match k with
  | 0 => decide
  | 1 => decide
  | 2 => decide
  | 3 => decide
  | n + 4 => exact Nat.zero_le _

theorem own_up {W : World} {B B' : Nat} {v : Value} {n : Nat} {xs : List Value} (h : W.ownsRow B 9 1 v n xs) (hv : ∀ g, v.ownBlock = some g → B' ≤ g) : W.ownsRow B' 9 1 v n xs := by
  refine ⟨h.1, ?_⟩
  rcases h.2 with h | ⟨g, cap, cur, rfl, hb, hr⟩
  · exact .inl h
  · exact .inr ⟨g, cap, cur, rfl, hv g rfl, hr⟩

end Go.Proofs.Ytcnokpaicnjkfaa
