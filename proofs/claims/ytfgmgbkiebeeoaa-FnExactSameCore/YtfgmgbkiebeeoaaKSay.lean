import Derived.Deep.RegionHeld3
import Derived.Test.YtfgmgbkiebeeoaaKa
import Derived.Test.YtfgmgbkiebeeoaaJM
namespace Go.Proofs.Ytfgmgbkiebeeoaa
open Go.ChangeShapes Go.WideShapes Go.ChangeAt Go.RowKit Go.Joins

theorem Try.own : ownKnob Try.prog.godebug = none := by kernel_rfl
theorem Try.laidOut : laidOutB Try.prog = true := by kernel_rfl
theorem Try.cells2 : Try.prog.cellsOf 2 = 1 := by kernel_rfl
theorem Try.cells4 : Try.prog.cellsOf 4 = 1 := by kernel_rfl
theorem Try.cells9 : Try.prog.cellsOf 9 = 1 := by kernel_rfl
theorem Try.cells22 : Try.prog.cellsOf 22 = 1 := by kernel_rfl
theorem Try.cells24 : Try.prog.cellsOf 24 = 2 := by kernel_rfl
theorem Try.cells25 : Try.prog.cellsOf 25 = 1 := by kernel_rfl
theorem Try.cells26 : Try.prog.cellsOf 26 = 1 := by kernel_rfl
theorem Try.cells27 : Try.prog.cellsOf 27 = 1 := by kernel_rfl
theorem Try.cells29 : Try.prog.cellsOf 29 = 7 := by kernel_rfl
theorem Try.cells61 : Try.prog.cellsOf 61 = 1 := by kernel_rfl
theorem Try.cells93 : Try.prog.cellsOf 93 = 9 := by kernel_rfl

set_option maxRecDepth 100000 in
theorem all_say {H : Type} {enc : TypeId × Value → H} {W : World} : ∀ (m : Nat), (∀ cs x, DataW.trod enc Try.prog W 0 (fun _ => true) true m 24 cs = some x → Says E W [.b, .s 0] cs) ∧ (∀ cs x, DataW.trod enc Try.prog W 0 (fun _ => true) true m 93 cs = some x → Says E W (E 2) cs) ∧ (∀ cs x, DataW.trod enc Try.prog W 0 (fun _ => true) true m 29 cs = some x → Says E W (E 3) cs) ∧ (∀ cs x, DataW.trod enc Try.prog W 0 (fun _ => true) true m 61 cs = some x → Says E W (E 0) cs) ∧ (∀ cs x, DataW.trod enc Try.prog W 0 (fun _ => true) true m 9 cs = some x → Says E W (E 1) cs) := by
  intro m
  induction m using Nat.strongRecOn with
  | ind m ih =>
  refine ⟨?_, ?_, ?_, ?_, ?_⟩
  · intro cs x h
    obtain ⟨xs, n, rfl, -, hl, hlen, hf⟩ := DataW.trod_struct Try.underlying24 h
    rw [Try.cells24] at hl
    match cs, hl with
    | [c0, c1], _ =>
      have f0 : DataW.trod enc Try.prog W 0 (fun _ => true) true n 4 [c0] = xs[0]? := by
        have := hf 0 _ rfl
        simpa [Try.cells4] using this
      have f1 : DataW.trod enc Try.prog W 0 (fun _ => true) true n 22 [c1] = xs[1]? := by
        have := hf 1 _ rfl
        simpa [Try.cells22] using this
      match xs, hlen with
      | [y0, y1], _ =>
        simp only [List.getElem?_cons_zero, List.getElem?_cons_succ] at f0 f1
        exact Says.cat (says_bool Try.underlying4 f0) (Says.cat (says_slice (E := E) (k := 0) Try.underlying22 Try.cells61 (by decide) (fun m2 hm2 => (ih m2 (by omega)).2.2.2.1) f1) (Says.none))
  · intro cs x h
    obtain ⟨xs, n, rfl, -, hl, hlen, hf⟩ := DataW.trod_struct Try.underlying93 h
    rw [Try.cells93] at hl
    match cs, hl with
    | [c0, c1, c2, c3, c4, c5, c6, c7, c8], _ =>
      have f0 : DataW.trod enc Try.prog W 0 (fun _ => true) true n 9 [c0] = xs[0]? := by
        have := hf 0 _ rfl
        simpa [Try.cells9] using this
      have f1 : DataW.trod enc Try.prog W 0 (fun _ => true) true n 25 [c1] = xs[1]? := by
        have := hf 1 _ rfl
        simpa [Try.cells25] using this
      have f2 : DataW.trod enc Try.prog W 0 (fun _ => true) true n 29 [c2, c3, c4, c5, c6, c7, c8] = xs[2]? := by
        have := hf 2 _ rfl
        simpa [Try.cells29] using this
      match xs, hlen with
      | [y0, y1, y2], _ =>
        simp only [List.getElem?_cons_zero, List.getElem?_cons_succ] at f0 f1 f2
        exact Says.cat (says_text Try.underlying9 f0) (Says.cat (says_slice (E := E) (k := 1) Try.underlying25 Try.cells9 (by decide) (fun m2 hm2 => (ih m2 (by omega)).2.2.2.2) f1) (Says.cat ((ih n (by omega)).2.2.1 _ _ f2) (Says.none)))
  · intro cs x h
    obtain ⟨xs, n, rfl, -, hl, hlen, hf⟩ := DataW.trod_struct Try.underlying29 h
    rw [Try.cells29] at hl
    match cs, hl with
    | [c0, c1, c2, c3, c4, c5, c6], _ =>
      have f0 : DataW.trod enc Try.prog W 0 (fun _ => true) true n 2 [c0] = xs[0]? := by
        have := hf 0 _ rfl
        simpa [Try.cells2] using this
      have f1 : DataW.trod enc Try.prog W 0 (fun _ => true) true n 9 [c1] = xs[1]? := by
        have := hf 1 _ rfl
        simpa [Try.cells9] using this
      have f2 : DataW.trod enc Try.prog W 0 (fun _ => true) true n 24 [c2, c3] = xs[2]? := by
        have := hf 2 _ rfl
        simpa [Try.cells24] using this
      have f3 : DataW.trod enc Try.prog W 0 (fun _ => true) true n 25 [c4] = xs[3]? := by
        have := hf 3 _ rfl
        simpa [Try.cells25] using this
      have f4 : DataW.trod enc Try.prog W 0 (fun _ => true) true n 26 [c5] = xs[4]? := by
        have := hf 4 _ rfl
        simpa [Try.cells26] using this
      have f5 : DataW.trod enc Try.prog W 0 (fun _ => true) true n 27 [c6] = xs[5]? := by
        have := hf 5 _ rfl
        simpa [Try.cells27] using this
      match xs, hlen with
      | [y0, y1, y2, y3, y4, y5], _ =>
        simp only [List.getElem?_cons_zero, List.getElem?_cons_succ] at f0 f1 f2 f3 f4 f5
        exact Says.cat (says_int Try.underlying2 f0) (Says.cat (says_text Try.underlying9 f1) (Says.cat ((ih n (by omega)).1 _ _ f2) (Says.cat (says_slice (E := E) (k := 1) Try.underlying25 Try.cells9 (by decide) (fun m2 hm2 => (ih m2 (by omega)).2.2.2.2) f3) (Says.cat (says_slice (E := E) (k := 3) Try.underlying26 Try.cells29 (by decide) (fun m2 hm2 => (ih m2 (by omega)).2.2.1) f4) (Says.cat (says_slice (E := E) (k := 2) Try.underlying27 Try.cells93 (by decide) (fun m2 hm2 => (ih m2 (by omega)).2.1) f5) (Says.none))))))
  · intro cs x h
    exact says_limb Try.underlying61 h
  · intro cs x h
    exact says_text Try.underlying9 h

set_option maxRecDepth 100000 in
theorem open_Big {H : Type} {enc : TypeId × Value → H} {W : World} {r : Reach} {base : Nat} {v : Value} {d : DataW H} {p : List MemPlace} (hv : Value.okWide Try.prog W r base 24 v) (h : DataW.Trod enc Try.prog W 0 (fun _ => true) true 24 v d p) :
    ∃ F : Fo, v = .agg F.vals.toArray ∧ Fit E F [.b, .s 0] ∧ F.Subs W (fun c => c < W.heap.size) := by
  obtain ⟨cs, rfl, hsz⟩ := okWide_struct Try.underlying24 hv
  obtain ⟨fuel, hf⟩ := h
  obtain ⟨F, e, h1, h2⟩ := (all_say fuel).1 _ _ hf
  refine ⟨F, ?_, h1, h2⟩
  simp only [Value.cells] at e
  congr 1
  apply Array.ext'
  exact e
set_option maxRecDepth 100000 in
theorem open_CoreAlt {H : Type} {enc : TypeId × Value → H} {W : World} {r : Reach} {base : Nat} {v : Value} {d : DataW H} {p : List MemPlace} (hv : Value.okWide Try.prog W r base 93 v) (h : DataW.Trod enc Try.prog W 0 (fun _ => true) true 93 v d p) :
    ∃ F : Fo, v = .agg F.vals.toArray ∧ Fit E F (E 2) ∧ F.Subs W (fun c => c < W.heap.size) := by
  obtain ⟨cs, rfl, hsz⟩ := okWide_struct Try.underlying93 hv
  obtain ⟨fuel, hf⟩ := h
  obtain ⟨F, e, h1, h2⟩ := (all_say fuel).2.1 _ _ hf
  refine ⟨F, ?_, h1, h2⟩
  simp only [Value.cells] at e
  congr 1
  apply Array.ext'
  exact e
set_option maxRecDepth 100000 in
theorem open_Core {H : Type} {enc : TypeId × Value → H} {W : World} {r : Reach} {base : Nat} {v : Value} {d : DataW H} {p : List MemPlace} (hv : Value.okWide Try.prog W r base 29 v) (h : DataW.Trod enc Try.prog W 0 (fun _ => true) true 29 v d p) :
    ∃ F : Fo, v = .agg F.vals.toArray ∧ Fit E F (E 3) ∧ F.Subs W (fun c => c < W.heap.size) := by
  obtain ⟨cs, rfl, hsz⟩ := okWide_struct Try.underlying29 hv
  obtain ⟨fuel, hf⟩ := h
  obtain ⟨F, e, h1, h2⟩ := (all_say fuel).2.2.1 _ _ hf
  refine ⟨F, ?_, h1, h2⟩
  simp only [Value.cells] at e
  congr 1
  apply Array.ext'
  exact e
end Go.Proofs.Ytfgmgbkiebeeoaa
