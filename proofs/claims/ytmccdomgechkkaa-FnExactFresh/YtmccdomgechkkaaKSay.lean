import Derived.Deep.RegionHeld3
import Derived.Test.YtmccdomgechkkaaKa
import Derived.Test.YtmccdomgechkkaaUs
namespace Go.Proofs.Ytmccdomgechkkaa
open Go.ChangeShapes Go.WideShapes Go.ChangeAt Go.RowKit Go.Joins

theorem Try.own : ownKnob Try.prog.godebug = none := by kernel_rfl
theorem Try.laidOut : laidOutB Try.prog = true := by kernel_rfl
theorem Try.cells9 : Try.prog.cellsOf 9 = 1 := by kernel_rfl

set_option maxRecDepth 100000 in
theorem all_say {H : Type} {enc : TypeId × Value → H} {W : World} : ∀ (m : Nat), (∀ cs x, DataW.trod enc Try.prog W 0 (fun _ => true) true m 9 cs = some x → Says E W (E 0) cs) := by
  intro m cs x h
  exact says_text Try.underlying9 h

end Go.Proofs.Ytmccdomgechkkaa
