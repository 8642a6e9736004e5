import Derived.Test.YtpcnmolncoaddaaBase
namespace Go.Proofs.Ytpcnmolncoaddaa
open Go.RowKit Go.Joins

theorem or_hi (lo hi : Nat) (h1 : lo < 4294967296) (h2 : hi < 4294967296) : bits .or .u64 ((hi : Int) * 4294967296) (lo : Int) = ((hi * 4294967296 + lo : Nat) : Int) := by
  have e : (hi : Int) * 4294967296 = ((hi * 4294967296 : Nat) : Int) := by omega
  rw [e, u64_or_nat _ _ (by omega) (by omega)]
  have := Nat.two_pow_add_eq_or_of_lt (i := 32) (b := lo) (by simpa using h1) hi
  rw [show 2 ^ 32 * hi = hi * 4294967296 from by omega] at this
  rw [this]
theorem or_lo (lo hi : Nat) (h1 : lo < 4294967296) (h2 : hi < 4294967296) : bits .or .u64 (lo : Int) ((hi : Int) * 4294967296) = ((hi * 4294967296 + lo : Nat) : Int) := by
  have e : (hi : Int) * 4294967296 = ((hi * 4294967296 : Nat) : Int) := by omega
  rw [e, u64_or_nat _ _ (by omega) (by omega), Nat.or_comm]
  have := Nat.two_pow_add_eq_or_of_lt (i := 32) (b := lo) (by simpa using h1) hi
  rw [show 2 ^ 32 * hi = hi * 4294967296 from by omega] at this
  rw [this]

end Go.Proofs.Ytpcnmolncoaddaa
