import Derived.Test.YtcflciblcdabpaaFe
import Derived.Laws.StructEq
import Derived.Laws.Small
import Derived.Maps.OwnSet
namespace Go.Proofs.Ytcflciblcdabpaa
open Go.RowKit Go.Joins Go.MapKept Go.ChangeMaps

/-- A block of cells of which none is frozen. -/
structure LiveB (w : World) (c : Nat) : Prop where
  fr : ∀ j, w.frozen? ⟨c, j, none⟩ = false
  sh : ∃ t n, w.shape? c = some (t, n)

theorem LiveB.at {w : World} {a : Addr} (h : LiveB w a.block) : w.frozen? a = false := by
  have := h.fr a.off
  simpa [World.frozen?] using this

theorem sameAddr_ne {P : Program} {w : World} {a b : Addr} (hne : a.block ≠ b.block) (ha : LiveB w a.block) (hb : LiveB w b.block) : (sameAddr a b).run P w = .ok false w := by
  obtain ⟨t, n, hs⟩ := ha.sh
  obtain ⟨t', n', hs'⟩ := hb.sh
  have h1 := ha.at
  have h2 := hb.at
  have h3 := ha.fr n
  have h4 := hb.fr n'
  simp [sameAddr, hne, h1, h2, h3, h4, noView, viewAt, mayBeOne, stringish, hs, hs']

theorem sameAddr_eq {P : Program} {w : World} {a : Addr} : (sameAddr a a).run P w = .ok true w := by
  simp [sameAddr]

theorem key_ne {w : World} {a c : Addr} {m n : Int} (hne : a.block ≠ c.block) (ha : LiveB w a.block) (hc : LiveB w c.block) (dd : Nat) :
    (Op.equalIn (dd + 1 + 1) 114 (.agg #[.pointer (some a), .int .i64 m]) (.agg #[.pointer (some c), .int .i64 n])).run Try.prog w = .ok false w := by
  have hp : Try.prog.stoodInHeld 114 = false := by kernel_rfl
  rw [run_equalIn_agg (hp := hp) (ht := by simp [go_sem])]
  simp [go_sem, Op.equalIn, sameAddr_ne hne ha hc]

theorem key_eq {w : World} {a : Addr} {m : Int} (dd : Nat) :
    (Op.equalIn (dd + 1 + 1) 114 (.agg #[.pointer (some a), .int .i64 m]) (.agg #[.pointer (some a), .int .i64 m])).run Try.prog w = .ok true w := by
  have hp : Try.prog.stoodInHeld 114 = false := by kernel_rfl
  rw [run_equalIn_agg (hp := hp) (ht := by simp [go_sem])]
  simp [go_sem, Op.equalIn, sameAddr_eq]

theorem key_nil {w : World} {a : Addr} {m : Int} (dd : Nat) :
    (Op.equalIn (dd + 1 + 1) 114 (.agg #[.pointer (some a), .int .i64 m]) (.agg #[.pointer none, .int .i64 0])).run Try.prog w = .ok false w := by
  have hp : Try.prog.stoodInHeld 114 = false := by kernel_rfl
  rw [run_equalIn_agg (hp := hp) (ht := by simp [go_sem])]
  simp [go_sem, Op.equalIn]

theorem key_nil' {w : World} {a : Addr} {m : Int} (dd : Nat) :
    (Op.equalIn (dd + 1 + 1) 114 (.agg #[.pointer none, .int .i64 0]) (.agg #[.pointer (some a), .int .i64 m])).run Try.prog w = .ok false w := by
  have hp : Try.prog.stoodInHeld 114 = false := by kernel_rfl
  rw [run_equalIn_agg (hp := hp) (ht := by simp [go_sem])]
  simp [go_sem, Op.equalIn]

theorem key_nil0 {w : World} (dd : Nat) :
    (Op.equalIn (dd + 1 + 1) 114 (.agg #[.pointer none, .int .i64 0]) (.agg #[.pointer none, .int .i64 0])).run Try.prog w = .ok true w := by
  have hp : Try.prog.stoodInHeld 114 = false := by kernel_rfl
  rw [run_equalIn_agg (hp := hp) (ht := by simp [go_sem])]
  simp [go_sem, Op.equalIn]

end Go.Proofs.Ytcflciblcdabpaa
