import Derived.Deep.RegionHeld3
import Derived.Test.YtcflciblcdabpaaKa
import Derived.Test.YtcflciblcdabpaaUs
namespace Go.Proofs.Ytcflciblcdabpaa
open Go.ChangeShapes Go.WideShapes Go.ChangeAt Go.RowKit Go.Joins

theorem Try.own : ownKnob Try.prog.godebug = none := by kernel_rfl
theorem Try.laidOut : laidOutB Try.prog = true := by kernel_rfl
theorem Try.cells2 : Try.prog.cellsOf 2 = 1 := by kernel_rfl
theorem Try.cells9 : Try.prog.cellsOf 9 = 1 := by kernel_rfl
theorem Try.cells22 : Try.prog.cellsOf 22 = 1 := by kernel_rfl
theorem Try.cells23 : Try.prog.cellsOf 23 = 1 := by kernel_rfl
theorem Try.cells24 : Try.prog.cellsOf 24 = 1 := by kernel_rfl
theorem Try.cells25 : Try.prog.cellsOf 25 = 1 := by kernel_rfl
theorem Try.cells26 : Try.prog.cellsOf 26 = 1 := by kernel_rfl
theorem Try.cells28 : Try.prog.cellsOf 28 = 5 := by kernel_rfl
theorem Try.cells77 : Try.prog.cellsOf 77 = 1 := by kernel_rfl
theorem Try.cells79 : Try.prog.cellsOf 79 = 5 := by kernel_rfl
theorem Try.cells81 : Try.prog.cellsOf 81 = 1 := by kernel_rfl
theorem Try.cells83 : Try.prog.cellsOf 83 = 3 := by kernel_rfl
theorem Try.cells85 : Try.prog.cellsOf 85 = 1 := by kernel_rfl
theorem Try.cells87 : Try.prog.cellsOf 87 = 4 := by kernel_rfl
theorem Try.cells89 : Try.prog.cellsOf 89 = 6 := by kernel_rfl
theorem Try.cells91 : Try.prog.cellsOf 91 = 8 := by kernel_rfl
theorem Try.cells94 : Try.prog.cellsOf 94 = 3 := by kernel_rfl
theorem Try.cells97 : Try.prog.cellsOf 97 = 4 := by kernel_rfl
theorem Try.cells157 : Try.prog.cellsOf 157 = 2 := by kernel_rfl

set_option maxRecDepth 100000 in
theorem all_say {H : Type} {enc : TypeId × Value → H} {W : World} : ∀ (m : Nat), (∀ cs x, DataW.trod enc Try.prog W 0 (fun _ => true) true m 94 cs = some x → Says E W (E 1) cs) ∧ (∀ cs x, DataW.trod enc Try.prog W 0 (fun _ => true) true m 87 cs = some x → Says E W (E 2) cs) ∧ (∀ cs x, DataW.trod enc Try.prog W 0 (fun _ => true) true m 79 cs = some x → Says E W (E 3) cs) ∧ (∀ cs x, DataW.trod enc Try.prog W 0 (fun _ => true) true m 83 cs = some x → Says E W (E 4) cs) ∧ (∀ cs x, DataW.trod enc Try.prog W 0 (fun _ => true) true m 157 cs = some x → Says E W (E 5) cs) ∧ (∀ cs x, DataW.trod enc Try.prog W 0 (fun _ => true) true m 97 cs = some x → Says E W (E 6) cs) ∧ (∀ cs x, DataW.trod enc Try.prog W 0 (fun _ => true) true m 89 cs = some x → Says E W [.i, .s 5, .i, .i, .t, .s 2] cs) ∧ (∀ cs x, DataW.trod enc Try.prog W 0 (fun _ => true) true m 91 cs = some x → Says E W (E 7) cs) ∧ (∀ cs x, DataW.trod enc Try.prog W 0 (fun _ => true) true m 28 cs = some x → Says E W [.s 3, .s 4, .s 7, .s 1, .s 6] cs) ∧ (∀ cs x, DataW.trod enc Try.prog W 0 (fun _ => true) true m 9 cs = some x → Says E W (E 0) cs) := by
  intro m
  induction m using Nat.strongRecOn with
  | ind m ih =>
  refine ⟨?_, ?_, ?_, ?_, ?_, ?_, ?_, ?_, ?_, ?_⟩
  · intro cs x h
    obtain ⟨xs, n, rfl, -, hl, hlen, hf⟩ := DataW.trod_struct Try.underlying94 h
    rw [Try.cells94] at hl
    match cs, hl with
    | [c0, c1, c2], _ =>
      have f0 : DataW.trod enc Try.prog W 0 (fun _ => true) true n 9 [c0] = xs[0]? := by
        have := hf 0 _ rfl
        simpa [Try.cells9] using this
      have f1 : DataW.trod enc Try.prog W 0 (fun _ => true) true n 81 [c1] = xs[1]? := by
        have := hf 1 _ rfl
        simpa [Try.cells81] using this
      have f2 : DataW.trod enc Try.prog W 0 (fun _ => true) true n 81 [c2] = xs[2]? := by
        have := hf 2 _ rfl
        simpa [Try.cells81] using this
      match xs, hlen with
      | [y0, y1, y2], _ =>
        simp only [List.getElem?_cons_zero, List.getElem?_cons_succ] at f0 f1 f2
        exact Says.cat (says_text Try.underlying9 f0) (Says.cat (says_slice (E := E) (k := 0) Try.underlying81 Try.cells9 (by decide) (fun m2 hm2 => (ih m2 (by omega)).2.2.2.2.2.2.2.2.2) f1) (Says.cat (says_slice (E := E) (k := 0) Try.underlying81 Try.cells9 (by decide) (fun m2 hm2 => (ih m2 (by omega)).2.2.2.2.2.2.2.2.2) f2) (Says.none)))
  · intro cs x h
    obtain ⟨xs, n, rfl, -, hl, hlen, hf⟩ := DataW.trod_struct Try.underlying87 h
    rw [Try.cells87] at hl
    match cs, hl with
    | [c0, c1, c2, c3], _ =>
      have f0 : DataW.trod enc Try.prog W 0 (fun _ => true) true n 2 [c0] = xs[0]? := by
        have := hf 0 _ rfl
        simpa [Try.cells2] using this
      have f1 : DataW.trod enc Try.prog W 0 (fun _ => true) true n 2 [c1] = xs[1]? := by
        have := hf 1 _ rfl
        simpa [Try.cells2] using this
      have f2 : DataW.trod enc Try.prog W 0 (fun _ => true) true n 9 [c2] = xs[2]? := by
        have := hf 2 _ rfl
        simpa [Try.cells9] using this
      have f3 : DataW.trod enc Try.prog W 0 (fun _ => true) true n 77 [c3] = xs[3]? := by
        have := hf 3 _ rfl
        simpa [Try.cells77] using this
      match xs, hlen with
      | [y0, y1, y2, y3], _ =>
        simp only [List.getElem?_cons_zero, List.getElem?_cons_succ] at f0 f1 f2 f3
        exact Says.cat (says_int Try.underlying2 f0) (Says.cat (says_int Try.underlying2 f1) (Says.cat (says_text Try.underlying9 f2) (Says.cat (says_slice (E := E) (k := 2) Try.underlying77 Try.cells87 (by decide) (fun m2 hm2 => (ih m2 (by omega)).2.1) f3) (Says.none))))
  · intro cs x h
    obtain ⟨xs, n, rfl, -, hl, hlen, hf⟩ := DataW.trod_struct Try.underlying79 h
    rw [Try.cells79] at hl
    match cs, hl with
    | [c0, c1, c2, c3, c4], _ =>
      have f0 : DataW.trod enc Try.prog W 0 (fun _ => true) true n 9 [c0] = xs[0]? := by
        have := hf 0 _ rfl
        simpa [Try.cells9] using this
      have f1 : DataW.trod enc Try.prog W 0 (fun _ => true) true n 9 [c1] = xs[1]? := by
        have := hf 1 _ rfl
        simpa [Try.cells9] using this
      have f2 : DataW.trod enc Try.prog W 0 (fun _ => true) true n 2 [c2] = xs[2]? := by
        have := hf 2 _ rfl
        simpa [Try.cells2] using this
      have f3 : DataW.trod enc Try.prog W 0 (fun _ => true) true n 2 [c3] = xs[3]? := by
        have := hf 3 _ rfl
        simpa [Try.cells2] using this
      have f4 : DataW.trod enc Try.prog W 0 (fun _ => true) true n 77 [c4] = xs[4]? := by
        have := hf 4 _ rfl
        simpa [Try.cells77] using this
      match xs, hlen with
      | [y0, y1, y2, y3, y4], _ =>
        simp only [List.getElem?_cons_zero, List.getElem?_cons_succ] at f0 f1 f2 f3 f4
        exact Says.cat (says_text Try.underlying9 f0) (Says.cat (says_text Try.underlying9 f1) (Says.cat (says_int Try.underlying2 f2) (Says.cat (says_int Try.underlying2 f3) (Says.cat (says_slice (E := E) (k := 2) Try.underlying77 Try.cells87 (by decide) (fun m2 hm2 => (ih m2 (by omega)).2.1) f4) (Says.none)))))
  · intro cs x h
    obtain ⟨xs, n, rfl, -, hl, hlen, hf⟩ := DataW.trod_struct Try.underlying83 h
    rw [Try.cells83] at hl
    match cs, hl with
    | [c0, c1, c2], _ =>
      have f0 : DataW.trod enc Try.prog W 0 (fun _ => true) true n 9 [c0] = xs[0]? := by
        have := hf 0 _ rfl
        simpa [Try.cells9] using this
      have f1 : DataW.trod enc Try.prog W 0 (fun _ => true) true n 2 [c1] = xs[1]? := by
        have := hf 1 _ rfl
        simpa [Try.cells2] using this
      have f2 : DataW.trod enc Try.prog W 0 (fun _ => true) true n 81 [c2] = xs[2]? := by
        have := hf 2 _ rfl
        simpa [Try.cells81] using this
      match xs, hlen with
      | [y0, y1, y2], _ =>
        simp only [List.getElem?_cons_zero, List.getElem?_cons_succ] at f0 f1 f2
        exact Says.cat (says_text Try.underlying9 f0) (Says.cat (says_int Try.underlying2 f1) (Says.cat (says_slice (E := E) (k := 0) Try.underlying81 Try.cells9 (by decide) (fun m2 hm2 => (ih m2 (by omega)).2.2.2.2.2.2.2.2.2) f2) (Says.none)))
  · intro cs x h
    obtain ⟨xs, n, rfl, -, hl, hlen, hf⟩ := DataW.trod_struct Try.underlying157 h
    rw [Try.cells157] at hl
    match cs, hl with
    | [c0, c1], _ =>
      have f0 : DataW.trod enc Try.prog W 0 (fun _ => true) true n 9 [c0] = xs[0]? := by
        have := hf 0 _ rfl
        simpa [Try.cells9] using this
      have f1 : DataW.trod enc Try.prog W 0 (fun _ => true) true n 2 [c1] = xs[1]? := by
        have := hf 1 _ rfl
        simpa [Try.cells2] using this
      match xs, hlen with
      | [y0, y1], _ =>
        simp only [List.getElem?_cons_zero, List.getElem?_cons_succ] at f0 f1
        exact Says.cat (says_text Try.underlying9 f0) (Says.cat (says_int Try.underlying2 f1) (Says.none))
  · intro cs x h
    obtain ⟨xs, n, rfl, -, hl, hlen, hf⟩ := DataW.trod_struct Try.underlying97 h
    rw [Try.cells97] at hl
    match cs, hl with
    | [c0, c1, c2, c3], _ =>
      have f0 : DataW.trod enc Try.prog W 0 (fun _ => true) true n 9 [c0] = xs[0]? := by
        have := hf 0 _ rfl
        simpa [Try.cells9] using this
      have f1 : DataW.trod enc Try.prog W 0 (fun _ => true) true n 9 [c1] = xs[1]? := by
        have := hf 1 _ rfl
        simpa [Try.cells9] using this
      have f2 : DataW.trod enc Try.prog W 0 (fun _ => true) true n 2 [c2] = xs[2]? := by
        have := hf 2 _ rfl
        simpa [Try.cells2] using this
      have f3 : DataW.trod enc Try.prog W 0 (fun _ => true) true n 85 [c3] = xs[3]? := by
        have := hf 3 _ rfl
        simpa [Try.cells85] using this
      match xs, hlen with
      | [y0, y1, y2, y3], _ =>
        simp only [List.getElem?_cons_zero, List.getElem?_cons_succ] at f0 f1 f2 f3
        exact Says.cat (says_text Try.underlying9 f0) (Says.cat (says_text Try.underlying9 f1) (Says.cat (says_int Try.underlying2 f2) (Says.cat (says_slice (E := E) (k := 5) Try.underlying85 Try.cells157 (by decide) (fun m2 hm2 => (ih m2 (by omega)).2.2.2.2.1) f3) (Says.none))))
  · intro cs x h
    obtain ⟨xs, n, rfl, -, hl, hlen, hf⟩ := DataW.trod_struct Try.underlying89 h
    rw [Try.cells89] at hl
    match cs, hl with
    | [c0, c1, c2, c3, c4, c5], _ =>
      have f0 : DataW.trod enc Try.prog W 0 (fun _ => true) true n 2 [c0] = xs[0]? := by
        have := hf 0 _ rfl
        simpa [Try.cells2] using this
      have f1 : DataW.trod enc Try.prog W 0 (fun _ => true) true n 85 [c1] = xs[1]? := by
        have := hf 1 _ rfl
        simpa [Try.cells85] using this
      have f2 : DataW.trod enc Try.prog W 0 (fun _ => true) true n 87 [c2, c3, c4, c5] = xs[2]? := by
        have := hf 2 _ rfl
        simpa [Try.cells87] using this
      match xs, hlen with
      | [y0, y1, y2], _ =>
        simp only [List.getElem?_cons_zero, List.getElem?_cons_succ] at f0 f1 f2
        exact Says.cat (says_int Try.underlying2 f0) (Says.cat (says_slice (E := E) (k := 5) Try.underlying85 Try.cells157 (by decide) (fun m2 hm2 => (ih m2 (by omega)).2.2.2.2.1) f1) (Says.cat ((ih n (by omega)).2.1 _ _ f2) (Says.none)))
  · intro cs x h
    obtain ⟨xs, n, rfl, -, hl, hlen, hf⟩ := DataW.trod_struct Try.underlying91 h
    rw [Try.cells91] at hl
    match cs, hl with
    | [c0, c1, c2, c3, c4, c5, c6, c7], _ =>
      have f0 : DataW.trod enc Try.prog W 0 (fun _ => true) true n 9 [c0] = xs[0]? := by
        have := hf 0 _ rfl
        simpa [Try.cells9] using this
      have f1 : DataW.trod enc Try.prog W 0 (fun _ => true) true n 9 [c1] = xs[1]? := by
        have := hf 1 _ rfl
        simpa [Try.cells9] using this
      have f2 : DataW.trod enc Try.prog W 0 (fun _ => true) true n 89 [c2, c3, c4, c5, c6, c7] = xs[2]? := by
        have := hf 2 _ rfl
        simpa [Try.cells89] using this
      match xs, hlen with
      | [y0, y1, y2], _ =>
        simp only [List.getElem?_cons_zero, List.getElem?_cons_succ] at f0 f1 f2
        exact Says.cat (says_text Try.underlying9 f0) (Says.cat (says_text Try.underlying9 f1) (Says.cat ((ih n (by omega)).2.2.2.2.2.2.1 _ _ f2) (Says.none)))
  · intro cs x h
    obtain ⟨xs, n, rfl, -, hl, hlen, hf⟩ := DataW.trod_struct Try.underlying28 h
    rw [Try.cells28] at hl
    match cs, hl with
    | [c0, c1, c2, c3, c4], _ =>
      have f0 : DataW.trod enc Try.prog W 0 (fun _ => true) true n 22 [c0] = xs[0]? := by
        have := hf 0 _ rfl
        simpa [Try.cells22] using this
      have f1 : DataW.trod enc Try.prog W 0 (fun _ => true) true n 23 [c1] = xs[1]? := by
        have := hf 1 _ rfl
        simpa [Try.cells23] using this
      have f2 : DataW.trod enc Try.prog W 0 (fun _ => true) true n 24 [c2] = xs[2]? := by
        have := hf 2 _ rfl
        simpa [Try.cells24] using this
      have f3 : DataW.trod enc Try.prog W 0 (fun _ => true) true n 25 [c3] = xs[3]? := by
        have := hf 3 _ rfl
        simpa [Try.cells25] using this
      have f4 : DataW.trod enc Try.prog W 0 (fun _ => true) true n 26 [c4] = xs[4]? := by
        have := hf 4 _ rfl
        simpa [Try.cells26] using this
      match xs, hlen with
      | [y0, y1, y2, y3, y4], _ =>
        simp only [List.getElem?_cons_zero, List.getElem?_cons_succ] at f0 f1 f2 f3 f4
        exact Says.cat (says_slice (E := E) (k := 3) Try.underlying22 Try.cells79 (by decide) (fun m2 hm2 => (ih m2 (by omega)).2.2.1) f0) (Says.cat (says_slice (E := E) (k := 4) Try.underlying23 Try.cells83 (by decide) (fun m2 hm2 => (ih m2 (by omega)).2.2.2.1) f1) (Says.cat (says_slice (E := E) (k := 7) Try.underlying24 Try.cells91 (by decide) (fun m2 hm2 => (ih m2 (by omega)).2.2.2.2.2.2.2.1) f2) (Says.cat (says_slice (E := E) (k := 1) Try.underlying25 Try.cells94 (by decide) (fun m2 hm2 => (ih m2 (by omega)).1) f3) (Says.cat (says_slice (E := E) (k := 6) Try.underlying26 Try.cells97 (by decide) (fun m2 hm2 => (ih m2 (by omega)).2.2.2.2.2.1) f4) (Says.none)))))
  · intro cs x h
    exact says_text Try.underlying9 h

set_option maxRecDepth 100000 in
theorem open_ClassInfo {H : Type} {enc : TypeId × Value → H} {W : World} {r : Reach} {base : Nat} {v : Value} {d : DataW H} {p : List MemPlace} (hv : Value.okWide Try.prog W r base 94 v) (h : DataW.Trod enc Try.prog W 0 (fun _ => true) true 94 v d p) :
    ∃ F : Fo, v = .agg F.vals.toArray ∧ Fit E F (E 1) ∧ F.Subs W (fun c => c < W.heap.size) := by
  obtain ⟨cs, rfl, hsz⟩ := okWide_struct Try.underlying94 hv
  obtain ⟨fuel, hf⟩ := h
  obtain ⟨F, e, h1, h2⟩ := (all_say fuel).1 _ _ hf
  refine ⟨F, ?_, h1, h2⟩
  simp only [Value.cells] at e
  congr 1
  apply Array.ext'
  exact e
set_option maxRecDepth 100000 in
theorem open_Type {H : Type} {enc : TypeId × Value → H} {W : World} {r : Reach} {base : Nat} {v : Value} {d : DataW H} {p : List MemPlace} (hv : Value.okWide Try.prog W r base 87 v) (h : DataW.Trod enc Try.prog W 0 (fun _ => true) true 87 v d p) :
    ∃ F : Fo, v = .agg F.vals.toArray ∧ Fit E F (E 2) ∧ F.Subs W (fun c => c < W.heap.size) := by
  obtain ⟨cs, rfl, hsz⟩ := okWide_struct Try.underlying87 hv
  obtain ⟨fuel, hf⟩ := h
  obtain ⟨F, e, h1, h2⟩ := (all_say fuel).2.1 _ _ hf
  refine ⟨F, ?_, h1, h2⟩
  simp only [Value.cells] at e
  congr 1
  apply Array.ext'
  exact e
set_option maxRecDepth 100000 in
theorem open_ConInfo {H : Type} {enc : TypeId × Value → H} {W : World} {r : Reach} {base : Nat} {v : Value} {d : DataW H} {p : List MemPlace} (hv : Value.okWide Try.prog W r base 79 v) (h : DataW.Trod enc Try.prog W 0 (fun _ => true) true 79 v d p) :
    ∃ F : Fo, v = .agg F.vals.toArray ∧ Fit E F (E 3) ∧ F.Subs W (fun c => c < W.heap.size) := by
  obtain ⟨cs, rfl, hsz⟩ := okWide_struct Try.underlying79 hv
  obtain ⟨fuel, hf⟩ := h
  obtain ⟨F, e, h1, h2⟩ := (all_say fuel).2.2.1 _ _ hf
  refine ⟨F, ?_, h1, h2⟩
  simp only [Value.cells] at e
  congr 1
  apply Array.ext'
  exact e
set_option maxRecDepth 100000 in
theorem open_DataInfo {H : Type} {enc : TypeId × Value → H} {W : World} {r : Reach} {base : Nat} {v : Value} {d : DataW H} {p : List MemPlace} (hv : Value.okWide Try.prog W r base 83 v) (h : DataW.Trod enc Try.prog W 0 (fun _ => true) true 83 v d p) :
    ∃ F : Fo, v = .agg F.vals.toArray ∧ Fit E F (E 4) ∧ F.Subs W (fun c => c < W.heap.size) := by
  obtain ⟨cs, rfl, hsz⟩ := okWide_struct Try.underlying83 hv
  obtain ⟨fuel, hf⟩ := h
  obtain ⟨F, e, h1, h2⟩ := (all_say fuel).2.2.2.1 _ _ hf
  refine ⟨F, ?_, h1, h2⟩
  simp only [Value.cells] at e
  congr 1
  apply Array.ext'
  exact e
set_option maxRecDepth 100000 in
theorem open_Pred {H : Type} {enc : TypeId × Value → H} {W : World} {r : Reach} {base : Nat} {v : Value} {d : DataW H} {p : List MemPlace} (hv : Value.okWide Try.prog W r base 157 v) (h : DataW.Trod enc Try.prog W 0 (fun _ => true) true 157 v d p) :
    ∃ F : Fo, v = .agg F.vals.toArray ∧ Fit E F (E 5) ∧ F.Subs W (fun c => c < W.heap.size) := by
  obtain ⟨cs, rfl, hsz⟩ := okWide_struct Try.underlying157 hv
  obtain ⟨fuel, hf⟩ := h
  obtain ⟨F, e, h1, h2⟩ := (all_say fuel).2.2.2.2.1 _ _ hf
  refine ⟨F, ?_, h1, h2⟩
  simp only [Value.cells] at e
  congr 1
  apply Array.ext'
  exact e
set_option maxRecDepth 100000 in
theorem open_InstInfo {H : Type} {enc : TypeId × Value → H} {W : World} {r : Reach} {base : Nat} {v : Value} {d : DataW H} {p : List MemPlace} (hv : Value.okWide Try.prog W r base 97 v) (h : DataW.Trod enc Try.prog W 0 (fun _ => true) true 97 v d p) :
    ∃ F : Fo, v = .agg F.vals.toArray ∧ Fit E F (E 6) ∧ F.Subs W (fun c => c < W.heap.size) := by
  obtain ⟨cs, rfl, hsz⟩ := okWide_struct Try.underlying97 hv
  obtain ⟨fuel, hf⟩ := h
  obtain ⟨F, e, h1, h2⟩ := (all_say fuel).2.2.2.2.2.1 _ _ hf
  refine ⟨F, ?_, h1, h2⟩
  simp only [Value.cells] at e
  congr 1
  apply Array.ext'
  exact e
set_option maxRecDepth 100000 in
theorem open_Scheme {H : Type} {enc : TypeId × Value → H} {W : World} {r : Reach} {base : Nat} {v : Value} {d : DataW H} {p : List MemPlace} (hv : Value.okWide Try.prog W r base 89 v) (h : DataW.Trod enc Try.prog W 0 (fun _ => true) true 89 v d p) :
    ∃ F : Fo, v = .agg F.vals.toArray ∧ Fit E F [.i, .s 5, .i, .i, .t, .s 2] ∧ F.Subs W (fun c => c < W.heap.size) := by
  obtain ⟨cs, rfl, hsz⟩ := okWide_struct Try.underlying89 hv
  obtain ⟨fuel, hf⟩ := h
  obtain ⟨F, e, h1, h2⟩ := (all_say fuel).2.2.2.2.2.2.1 _ _ hf
  refine ⟨F, ?_, h1, h2⟩
  simp only [Value.cells] at e
  congr 1
  apply Array.ext'
  exact e
set_option maxRecDepth 100000 in
theorem open_MethodInfo {H : Type} {enc : TypeId × Value → H} {W : World} {r : Reach} {base : Nat} {v : Value} {d : DataW H} {p : List MemPlace} (hv : Value.okWide Try.prog W r base 91 v) (h : DataW.Trod enc Try.prog W 0 (fun _ => true) true 91 v d p) :
    ∃ F : Fo, v = .agg F.vals.toArray ∧ Fit E F (E 7) ∧ F.Subs W (fun c => c < W.heap.size) := by
  obtain ⟨cs, rfl, hsz⟩ := okWide_struct Try.underlying91 hv
  obtain ⟨fuel, hf⟩ := h
  obtain ⟨F, e, h1, h2⟩ := (all_say fuel).2.2.2.2.2.2.2.1 _ _ hf
  refine ⟨F, ?_, h1, h2⟩
  simp only [Value.cells] at e
  congr 1
  apply Array.ext'
  exact e
set_option maxRecDepth 100000 in
theorem open_Tables {H : Type} {enc : TypeId × Value → H} {W : World} {r : Reach} {base : Nat} {v : Value} {d : DataW H} {p : List MemPlace} (hv : Value.okWide Try.prog W r base 28 v) (h : DataW.Trod enc Try.prog W 0 (fun _ => true) true 28 v d p) :
    ∃ F : Fo, v = .agg F.vals.toArray ∧ Fit E F [.s 3, .s 4, .s 7, .s 1, .s 6] ∧ F.Subs W (fun c => c < W.heap.size) := by
  obtain ⟨cs, rfl, hsz⟩ := okWide_struct Try.underlying28 hv
  obtain ⟨fuel, hf⟩ := h
  obtain ⟨F, e, h1, h2⟩ := (all_say fuel).2.2.2.2.2.2.2.2.1 _ _ hf
  refine ⟨F, ?_, h1, h2⟩
  simp only [Value.cells] at e
  congr 1
  apply Array.ext'
  exact e
end Go.Proofs.Ytcflciblcdabpaa
