import Derived.Deep.RegionHeld3
import Derived.Test.YtpgbaidkhjaocaaKa
import Derived.Test.YtpgbaidkhjaocaaUs
namespace Go.Proofs.Ytpgbaidkhjaocaa
open Go.ChangeShapes Go.WideShapes Go.ChangeAt Go.RowKit Go.Joins

theorem Try.own : ownKnob Try.prog.godebug = none := by kernel_rfl
theorem Try.laidOut : laidOutB Try.prog = true := by kernel_rfl
theorem Try.cells2 : Try.prog.cellsOf 2 = 1 := by kernel_rfl
theorem Try.cells9 : Try.prog.cellsOf 9 = 1 := by kernel_rfl
theorem Try.cells29 : Try.prog.cellsOf 29 = 4 := by kernel_rfl

set_option maxRecDepth 100000 in
theorem all_say {H : Type} {enc : TypeId × Value → H} {W : World} : ∀ (m : Nat), (∀ cs x, DataW.trod enc Try.prog W 0 (fun _ => true) true m 29 cs = some x → Says E W [.i, .t, .t, .i] cs) := by
  intro m
  induction m using Nat.strongRecOn with
  | ind m ih =>
  · intro cs x h
    obtain ⟨xs, n, rfl, -, hl, hlen, hf⟩ := DataW.trod_struct Try.underlying29 h
    rw [Try.cells29] at hl
    match cs, hl with
    | [c0, c1, c2, c3], _ =>
      have f0 : DataW.trod enc Try.prog W 0 (fun _ => true) true n 2 [c0] = xs[0]? := by
        have := hf 0 _ rfl
        simpa [Try.cells2] using this
      have f1 : DataW.trod enc Try.prog W 0 (fun _ => true) true n 9 [c1] = xs[1]? := by
        have := hf 1 _ rfl
        simpa [Try.cells9] using this
      have f2 : DataW.trod enc Try.prog W 0 (fun _ => true) true n 9 [c2] = xs[2]? := by
        have := hf 2 _ rfl
        simpa [Try.cells9] using this
      have f3 : DataW.trod enc Try.prog W 0 (fun _ => true) true n 2 [c3] = xs[3]? := by
        have := hf 3 _ rfl
        simpa [Try.cells2] using this
      match xs, hlen with
      | [y0, y1, y2, y3], _ =>
        simp only [List.getElem?_cons_zero, List.getElem?_cons_succ] at f0 f1 f2 f3
        exact Says.cat (says_int Try.underlying2 f0) (Says.cat (says_text Try.underlying9 f1) (Says.cat (says_text Try.underlying9 f2) (Says.cat (says_int Try.underlying2 f3) (Says.none))))

set_option maxRecDepth 100000 in
theorem open_Outcome {H : Type} {enc : TypeId × Value → H} {W : World} {r : Reach} {base : Nat} {v : Value} {d : DataW H} {p : List MemPlace} (hv : Value.okWide Try.prog W r base 29 v) (h : DataW.Trod enc Try.prog W 0 (fun _ => true) true 29 v d p) :
    ∃ F : Fo, v = .agg F.vals.toArray ∧ Fit E F [.i, .t, .t, .i] ∧ F.Subs W (fun c => c < W.heap.size) := by
  obtain ⟨cs, rfl, hsz⟩ := okWide_struct Try.underlying29 hv
  obtain ⟨fuel, hf⟩ := h
  obtain ⟨F, e, h1, h2⟩ := (all_say fuel) _ _ hf
  refine ⟨F, ?_, h1, h2⟩
  simp only [Value.cells] at e
  congr 1
  apply Array.ext'
  exact e
end Go.Proofs.Ytpgbaidkhjaocaa
