import Derived.Deep.RegionHeld3
import Derived.Test.YtjlefdalobgdfaaKa
import Derived.Test.YtjlefdalobgdfaaUs
namespace Go.Proofs.Ytjlefdalobgdfaa.U
open Go.ChangeShapes Go.WideShapes Go.ChangeAt Go.RowKit Go.Joins

theorem Try.own : ownKnob Try.prog.godebug = none := by kernel_rfl
theorem Try.laidOut : laidOutB Try.prog = true := by kernel_rfl
theorem Try.cells2 : Try.prog.cellsOf 2 = 1 := by kernel_rfl
theorem Try.cells9 : Try.prog.cellsOf 9 = 1 := by kernel_rfl
theorem Try.cells22 : Try.prog.cellsOf 22 = 1 := by kernel_rfl
theorem Try.cells24 : Try.prog.cellsOf 24 = 4 := by kernel_rfl
theorem Try.cells47 : Try.prog.cellsOf 47 = 1 := by kernel_rfl
theorem Try.cells61 : Try.prog.cellsOf 61 = 6 := by kernel_rfl
theorem Try.cells88 : Try.prog.cellsOf 88 = 5 := by kernel_rfl
theorem Try.cells112 : Try.prog.cellsOf 112 = 2 := by kernel_rfl

set_option maxRecDepth 100000 in
theorem all_say {H : Type} {enc : TypeId × Value → H} {W : World} : ∀ (m : Nat), (∀ cs x, DataW.trod enc Try.prog W 0 (fun _ => true) true m 24 cs = some x → Says E W (E 0) cs) ∧ (∀ cs x, DataW.trod enc Try.prog W 0 (fun _ => true) true m 88 cs = some x → Says E W (E 1) cs) ∧ (∀ cs x, DataW.trod enc Try.prog W 0 (fun _ => true) true m 112 cs = some x → Says E W (E 2) cs) ∧ (∀ cs x, DataW.trod enc Try.prog W 0 (fun _ => true) true m 61 cs = some x → Says E W [.i, .s 2, .i, .i, .t, .s 0] cs) := by
  intro m
  induction m using Nat.strongRecOn with
  | ind m ih =>
  refine ⟨?_, ?_, ?_, ?_⟩
  · intro cs x h
    obtain ⟨xs, n, rfl, -, hl, hlen, hf⟩ := DataW.trod_struct Try.underlying24 h
    rw [Try.cells24] at hl
    match cs, hl with
    | [c0, c1, c2, c3], _ =>
      have f0 : DataW.trod enc Try.prog W 0 (fun _ => true) true n 2 [c0] = xs[0]? := by
        have := hf 0 _ rfl
        simpa [Try.cells2] using this
      have f1 : DataW.trod enc Try.prog W 0 (fun _ => true) true n 2 [c1] = xs[1]? := by
        have := hf 1 _ rfl
        simpa [Try.cells2] using this
      have f2 : DataW.trod enc Try.prog W 0 (fun _ => true) true n 9 [c2] = xs[2]? := by
        have := hf 2 _ rfl
        simpa [Try.cells9] using this
      have f3 : DataW.trod enc Try.prog W 0 (fun _ => true) true n 22 [c3] = xs[3]? := by
        have := hf 3 _ rfl
        simpa [Try.cells22] using this
      match xs, hlen with
      | [y0, y1, y2, y3], _ =>
        simp only [List.getElem?_cons_zero, List.getElem?_cons_succ] at f0 f1 f2 f3
        exact Says.cat (says_int Try.underlying2 f0) (Says.cat (says_int Try.underlying2 f1) (Says.cat (says_text Try.underlying9 f2) (Says.cat (says_slice (E := E) (k := 0) Try.underlying22 Try.cells24 (by decide) (fun m2 hm2 => (ih m2 (by omega)).1) f3) (Says.none))))
  · intro cs x h
    obtain ⟨xs, n, rfl, -, hl, hlen, hf⟩ := DataW.trod_struct Try.underlying88 h
    rw [Try.cells88] at hl
    match cs, hl with
    | [c0, c1, c2, c3, c4], _ =>
      have f0 : DataW.trod enc Try.prog W 0 (fun _ => true) true n 2 [c0] = xs[0]? := by
        have := hf 0 _ rfl
        simpa [Try.cells2] using this
      have f1 : DataW.trod enc Try.prog W 0 (fun _ => true) true n 24 [c1, c2, c3, c4] = xs[1]? := by
        have := hf 1 _ rfl
        simpa [Try.cells24] using this
      match xs, hlen with
      | [y0, y1], _ =>
        simp only [List.getElem?_cons_zero, List.getElem?_cons_succ] at f0 f1
        exact Says.cat (says_int Try.underlying2 f0) (Says.cat ((ih n (by omega)).1 _ _ f1) (Says.none))
  · intro cs x h
    obtain ⟨xs, n, rfl, -, hl, hlen, hf⟩ := DataW.trod_struct Try.underlying112 h
    rw [Try.cells112] at hl
    match cs, hl with
    | [c0, c1], _ =>
      have f0 : DataW.trod enc Try.prog W 0 (fun _ => true) true n 9 [c0] = xs[0]? := by
        have := hf 0 _ rfl
        simpa [Try.cells9] using this
      have f1 : DataW.trod enc Try.prog W 0 (fun _ => true) true n 2 [c1] = xs[1]? := by
        have := hf 1 _ rfl
        simpa [Try.cells2] using this
      match xs, hlen with
      | [y0, y1], _ =>
        simp only [List.getElem?_cons_zero, List.getElem?_cons_succ] at f0 f1
        exact Says.cat (says_text Try.underlying9 f0) (Says.cat (says_int Try.underlying2 f1) (Says.none))
  · intro cs x h
    obtain ⟨xs, n, rfl, -, hl, hlen, hf⟩ := DataW.trod_struct Try.underlying61 h
    rw [Try.cells61] at hl
    match cs, hl with
    | [c0, c1, c2, c3, c4, c5], _ =>
      have f0 : DataW.trod enc Try.prog W 0 (fun _ => true) true n 2 [c0] = xs[0]? := by
        have := hf 0 _ rfl
        simpa [Try.cells2] using this
      have f1 : DataW.trod enc Try.prog W 0 (fun _ => true) true n 47 [c1] = xs[1]? := by
        have := hf 1 _ rfl
        simpa [Try.cells47] using this
      have f2 : DataW.trod enc Try.prog W 0 (fun _ => true) true n 24 [c2, c3, c4, c5] = xs[2]? := by
        have := hf 2 _ rfl
        simpa [Try.cells24] using this
      match xs, hlen with
      | [y0, y1, y2], _ =>
        simp only [List.getElem?_cons_zero, List.getElem?_cons_succ] at f0 f1 f2
        exact Says.cat (says_int Try.underlying2 f0) (Says.cat (says_slice (E := E) (k := 2) Try.underlying47 Try.cells112 (by decide) (fun m2 hm2 => (ih m2 (by omega)).2.2.1) f1) (Says.cat ((ih n (by omega)).1 _ _ f2) (Says.none)))

set_option maxRecDepth 100000 in
theorem open_Type {H : Type} {enc : TypeId × Value → H} {W : World} {r : Reach} {base : Nat} {v : Value} {d : DataW H} {p : List MemPlace} (hv : Value.okWide Try.prog W r base 24 v) (h : DataW.Trod enc Try.prog W 0 (fun _ => true) true 24 v d p) :
    ∃ F : Fo, v = .agg F.vals.toArray ∧ Fit E F (E 0) ∧ F.Subs W (fun c => c < W.heap.size) := by
  obtain ⟨cs, rfl, hsz⟩ := okWide_struct Try.underlying24 hv
  obtain ⟨fuel, hf⟩ := h
  obtain ⟨F, e, h1, h2⟩ := (all_say fuel).1 _ _ hf
  refine ⟨F, ?_, h1, h2⟩
  simp only [Value.cells] at e
  congr 1
  apply Array.ext'
  exact e
set_option maxRecDepth 100000 in
theorem open_Bind {H : Type} {enc : TypeId × Value → H} {W : World} {r : Reach} {base : Nat} {v : Value} {d : DataW H} {p : List MemPlace} (hv : Value.okWide Try.prog W r base 88 v) (h : DataW.Trod enc Try.prog W 0 (fun _ => true) true 88 v d p) :
    ∃ F : Fo, v = .agg F.vals.toArray ∧ Fit E F (E 1) ∧ F.Subs W (fun c => c < W.heap.size) := by
  obtain ⟨cs, rfl, hsz⟩ := okWide_struct Try.underlying88 hv
  obtain ⟨fuel, hf⟩ := h
  obtain ⟨F, e, h1, h2⟩ := (all_say fuel).2.1 _ _ hf
  refine ⟨F, ?_, h1, h2⟩
  simp only [Value.cells] at e
  congr 1
  apply Array.ext'
  exact e
set_option maxRecDepth 100000 in
theorem open_Pred {H : Type} {enc : TypeId × Value → H} {W : World} {r : Reach} {base : Nat} {v : Value} {d : DataW H} {p : List MemPlace} (hv : Value.okWide Try.prog W r base 112 v) (h : DataW.Trod enc Try.prog W 0 (fun _ => true) true 112 v d p) :
    ∃ F : Fo, v = .agg F.vals.toArray ∧ Fit E F (E 2) ∧ F.Subs W (fun c => c < W.heap.size) := by
  obtain ⟨cs, rfl, hsz⟩ := okWide_struct Try.underlying112 hv
  obtain ⟨fuel, hf⟩ := h
  obtain ⟨F, e, h1, h2⟩ := (all_say fuel).2.2.1 _ _ hf
  refine ⟨F, ?_, h1, h2⟩
  simp only [Value.cells] at e
  congr 1
  apply Array.ext'
  exact e
set_option maxRecDepth 100000 in
theorem open_Scheme {H : Type} {enc : TypeId × Value → H} {W : World} {r : Reach} {base : Nat} {v : Value} {d : DataW H} {p : List MemPlace} (hv : Value.okWide Try.prog W r base 61 v) (h : DataW.Trod enc Try.prog W 0 (fun _ => true) true 61 v d p) :
    ∃ F : Fo, v = .agg F.vals.toArray ∧ Fit E F [.i, .s 2, .i, .i, .t, .s 0] ∧ F.Subs W (fun c => c < W.heap.size) := by
  obtain ⟨cs, rfl, hsz⟩ := okWide_struct Try.underlying61 hv
  obtain ⟨fuel, hf⟩ := h
  obtain ⟨F, e, h1, h2⟩ := (all_say fuel).2.2.2 _ _ hf
  refine ⟨F, ?_, h1, h2⟩
  simp only [Value.cells] at e
  congr 1
  apply Array.ext'
  exact e
end Go.Proofs.Ytjlefdalobgdfaa.U
