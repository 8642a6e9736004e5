import Derived.Deep.RegionHeld3
import Derived.Test.YtanjgmmkodlffaaKa
import Derived.Test.YtanjgmmkodlffaaUs
namespace Go.Proofs.Ytanjgmmkodlffaa.U
open Go.ChangeShapes Go.WideShapes Go.ChangeAt Go.RowKit Go.Joins

theorem Try.own : ownKnob Try.prog.godebug = none := by kernel_rfl
theorem Try.laidOut : laidOutB Try.prog = true := by kernel_rfl
theorem Try.cells2 : Try.prog.cellsOf 2 = 1 := by kernel_rfl
theorem Try.cells9 : Try.prog.cellsOf 9 = 1 := by kernel_rfl
theorem Try.cells32 : Try.prog.cellsOf 32 = 1 := by kernel_rfl
theorem Try.cells33 : Try.prog.cellsOf 33 = 1 := by kernel_rfl
theorem Try.cells35 : Try.prog.cellsOf 35 = 4 := by kernel_rfl
theorem Try.cells45 : Try.prog.cellsOf 45 = 1 := by kernel_rfl
theorem Try.cells47 : Try.prog.cellsOf 47 = 4 := by kernel_rfl
theorem Try.cells84 : Try.prog.cellsOf 84 = 1 := by kernel_rfl
theorem Try.cells86 : Try.prog.cellsOf 86 = 6 := by kernel_rfl
theorem Try.cells88 : Try.prog.cellsOf 88 = 7 := by kernel_rfl
theorem Try.cells91 : Try.prog.cellsOf 91 = 3 := by kernel_rfl
theorem Try.cells107 : Try.prog.cellsOf 107 = 2 := by kernel_rfl

set_option maxRecDepth 100000 in
theorem all_say {H : Type} {enc : TypeId × Value → H} {W : World} : ∀ (m : Nat), (∀ cs x, DataW.trod enc Try.prog W 0 (fun _ => true) true m 107 cs = some x → Says E W (E 0) cs) ∧ (∀ cs x, DataW.trod enc Try.prog W 0 (fun _ => true) true m 47 cs = some x → Says E W (E 1) cs) ∧ (∀ cs x, DataW.trod enc Try.prog W 0 (fun _ => true) true m 86 cs = some x → Says E W [.i, .s 0, .i, .i, .t, .s 1] cs) ∧ (∀ cs x, DataW.trod enc Try.prog W 0 (fun _ => true) true m 88 cs = some x → Says E W (E 2) cs) ∧ (∀ cs x, DataW.trod enc Try.prog W 0 (fun _ => true) true m 91 cs = some x → Says E W (E 3) cs) ∧ (∀ cs x, DataW.trod enc Try.prog W 0 (fun _ => true) true m 35 cs = some x → Says E W [.i, .t, .s 2, .s 3] cs) := by
  intro m
  induction m using Nat.strongRecOn with
  | ind m ih =>
  refine ⟨?_, ?_, ?_, ?_, ?_, ?_⟩
  · intro cs x h
    obtain ⟨xs, n, rfl, -, hl, hlen, hf⟩ := DataW.trod_struct Try.underlying107 h
    rw [Try.cells107] at hl
    match cs, hl with
    | [c0, c1], _ =>
      have f0 : DataW.trod enc Try.prog W 0 (fun _ => true) true n 9 [c0] = xs[0]? := by
        have := hf 0 _ rfl
        simpa [Try.cells9] using this
      have f1 : DataW.trod enc Try.prog W 0 (fun _ => true) true n 2 [c1] = xs[1]? := by
        have := hf 1 _ rfl
        simpa [Try.cells2] using this
      match xs, hlen with
      | [y0, y1], _ =>
        simp only [List.getElem?_cons_zero, List.getElem?_cons_succ] at f0 f1
        exact Says.cat (says_text Try.underlying9 f0) (Says.cat (says_int Try.underlying2 f1) (Says.none))
  · intro cs x h
    obtain ⟨xs, n, rfl, -, hl, hlen, hf⟩ := DataW.trod_struct Try.underlying47 h
    rw [Try.cells47] at hl
    match cs, hl with
    | [c0, c1, c2, c3], _ =>
      have f0 : DataW.trod enc Try.prog W 0 (fun _ => true) true n 2 [c0] = xs[0]? := by
        have := hf 0 _ rfl
        simpa [Try.cells2] using this
      have f1 : DataW.trod enc Try.prog W 0 (fun _ => true) true n 2 [c1] = xs[1]? := by
        have := hf 1 _ rfl
        simpa [Try.cells2] using this
      have f2 : DataW.trod enc Try.prog W 0 (fun _ => true) true n 9 [c2] = xs[2]? := by
        have := hf 2 _ rfl
        simpa [Try.cells9] using this
      have f3 : DataW.trod enc Try.prog W 0 (fun _ => true) true n 45 [c3] = xs[3]? := by
        have := hf 3 _ rfl
        simpa [Try.cells45] using this
      match xs, hlen with
      | [y0, y1, y2, y3], _ =>
        simp only [List.getElem?_cons_zero, List.getElem?_cons_succ] at f0 f1 f2 f3
        exact Says.cat (says_int Try.underlying2 f0) (Says.cat (says_int Try.underlying2 f1) (Says.cat (says_text Try.underlying9 f2) (Says.cat (says_slice (E := E) (k := 1) Try.underlying45 Try.cells47 (by decide) (fun m2 hm2 => (ih m2 (by omega)).2.1) f3) (Says.none))))
  · intro cs x h
    obtain ⟨xs, n, rfl, -, hl, hlen, hf⟩ := DataW.trod_struct Try.underlying86 h
    rw [Try.cells86] at hl
    match cs, hl with
    | [c0, c1, c2, c3, c4, c5], _ =>
      have f0 : DataW.trod enc Try.prog W 0 (fun _ => true) true n 2 [c0] = xs[0]? := by
        have := hf 0 _ rfl
        simpa [Try.cells2] using this
      have f1 : DataW.trod enc Try.prog W 0 (fun _ => true) true n 84 [c1] = xs[1]? := by
        have := hf 1 _ rfl
        simpa [Try.cells84] using this
      have f2 : DataW.trod enc Try.prog W 0 (fun _ => true) true n 47 [c2, c3, c4, c5] = xs[2]? := by
        have := hf 2 _ rfl
        simpa [Try.cells47] using this
      match xs, hlen with
      | [y0, y1, y2], _ =>
        simp only [List.getElem?_cons_zero, List.getElem?_cons_succ] at f0 f1 f2
        exact Says.cat (says_int Try.underlying2 f0) (Says.cat (says_slice (E := E) (k := 0) Try.underlying84 Try.cells107 (by decide) (fun m2 hm2 => (ih m2 (by omega)).1) f1) (Says.cat ((ih n (by omega)).2.1 _ _ f2) (Says.none)))
  · intro cs x h
    obtain ⟨xs, n, rfl, -, hl, hlen, hf⟩ := DataW.trod_struct Try.underlying88 h
    rw [Try.cells88] at hl
    match cs, hl with
    | [c0, c1, c2, c3, c4, c5, c6], _ =>
      have f0 : DataW.trod enc Try.prog W 0 (fun _ => true) true n 9 [c0] = xs[0]? := by
        have := hf 0 _ rfl
        simpa [Try.cells9] using this
      have f1 : DataW.trod enc Try.prog W 0 (fun _ => true) true n 86 [c1, c2, c3, c4, c5, c6] = xs[1]? := by
        have := hf 1 _ rfl
        simpa [Try.cells86] using this
      match xs, hlen with
      | [y0, y1], _ =>
        simp only [List.getElem?_cons_zero, List.getElem?_cons_succ] at f0 f1
        exact Says.cat (says_text Try.underlying9 f0) (Says.cat ((ih n (by omega)).2.2.1 _ _ f1) (Says.none))
  · intro cs x h
    obtain ⟨xs, n, rfl, -, hl, hlen, hf⟩ := DataW.trod_struct Try.underlying91 h
    rw [Try.cells91] at hl
    match cs, hl with
    | [c0, c1, c2], _ =>
      have f0 : DataW.trod enc Try.prog W 0 (fun _ => true) true n 2 [c0] = xs[0]? := by
        have := hf 0 _ rfl
        simpa [Try.cells2] using this
      have f1 : DataW.trod enc Try.prog W 0 (fun _ => true) true n 9 [c1] = xs[1]? := by
        have := hf 1 _ rfl
        simpa [Try.cells9] using this
      have f2 : DataW.trod enc Try.prog W 0 (fun _ => true) true n 33 [c2] = xs[2]? := by
        have := hf 2 _ rfl
        simpa [Try.cells33] using this
      match xs, hlen with
      | [y0, y1, y2], _ =>
        simp only [List.getElem?_cons_zero, List.getElem?_cons_succ] at f0 f1 f2
        exact Says.cat (says_int Try.underlying2 f0) (Says.cat (says_text Try.underlying9 f1) (Says.cat (says_slice (E := E) (k := 3) Try.underlying33 Try.cells91 (by decide) (fun m2 hm2 => (ih m2 (by omega)).2.2.2.2.1) f2) (Says.none)))
  · intro cs x h
    obtain ⟨xs, n, rfl, -, hl, hlen, hf⟩ := DataW.trod_struct Try.underlying35 h
    rw [Try.cells35] at hl
    match cs, hl with
    | [c0, c1, c2, c3], _ =>
      have f0 : DataW.trod enc Try.prog W 0 (fun _ => true) true n 2 [c0] = xs[0]? := by
        have := hf 0 _ rfl
        simpa [Try.cells2] using this
      have f1 : DataW.trod enc Try.prog W 0 (fun _ => true) true n 9 [c1] = xs[1]? := by
        have := hf 1 _ rfl
        simpa [Try.cells9] using this
      have f2 : DataW.trod enc Try.prog W 0 (fun _ => true) true n 32 [c2] = xs[2]? := by
        have := hf 2 _ rfl
        simpa [Try.cells32] using this
      have f3 : DataW.trod enc Try.prog W 0 (fun _ => true) true n 33 [c3] = xs[3]? := by
        have := hf 3 _ rfl
        simpa [Try.cells33] using this
      match xs, hlen with
      | [y0, y1, y2, y3], _ =>
        simp only [List.getElem?_cons_zero, List.getElem?_cons_succ] at f0 f1 f2 f3
        exact Says.cat (says_int Try.underlying2 f0) (Says.cat (says_text Try.underlying9 f1) (Says.cat (says_slice (E := E) (k := 2) Try.underlying32 Try.cells88 (by decide) (fun m2 hm2 => (ih m2 (by omega)).2.2.2.1) f2) (Says.cat (says_slice (E := E) (k := 3) Try.underlying33 Try.cells91 (by decide) (fun m2 hm2 => (ih m2 (by omega)).2.2.2.2.1) f3) (Says.none))))

set_option maxRecDepth 100000 in
theorem open_Pred {H : Type} {enc : TypeId × Value → H} {W : World} {r : Reach} {base : Nat} {v : Value} {d : DataW H} {p : List MemPlace} (hv : Value.okWide Try.prog W r base 107 v) (h : DataW.Trod enc Try.prog W 0 (fun _ => true) true 107 v d p) :
    ∃ F : Fo, v = .agg F.vals.toArray ∧ Fit E F (E 0) ∧ F.Subs W (fun c => c < W.heap.size) := by
  obtain ⟨cs, rfl, hsz⟩ := okWide_struct Try.underlying107 hv
  obtain ⟨fuel, hf⟩ := h
  obtain ⟨F, e, h1, h2⟩ := (all_say fuel).1 _ _ hf
  refine ⟨F, ?_, h1, h2⟩
  simp only [Value.cells] at e
  congr 1
  apply Array.ext'
  exact e
set_option maxRecDepth 100000 in
theorem open_Type {H : Type} {enc : TypeId × Value → H} {W : World} {r : Reach} {base : Nat} {v : Value} {d : DataW H} {p : List MemPlace} (hv : Value.okWide Try.prog W r base 47 v) (h : DataW.Trod enc Try.prog W 0 (fun _ => true) true 47 v d p) :
    ∃ F : Fo, v = .agg F.vals.toArray ∧ Fit E F (E 1) ∧ F.Subs W (fun c => c < W.heap.size) := by
  obtain ⟨cs, rfl, hsz⟩ := okWide_struct Try.underlying47 hv
  obtain ⟨fuel, hf⟩ := h
  obtain ⟨F, e, h1, h2⟩ := (all_say fuel).2.1 _ _ hf
  refine ⟨F, ?_, h1, h2⟩
  simp only [Value.cells] at e
  congr 1
  apply Array.ext'
  exact e
set_option maxRecDepth 100000 in
theorem open_Scheme {H : Type} {enc : TypeId × Value → H} {W : World} {r : Reach} {base : Nat} {v : Value} {d : DataW H} {p : List MemPlace} (hv : Value.okWide Try.prog W r base 86 v) (h : DataW.Trod enc Try.prog W 0 (fun _ => true) true 86 v d p) :
    ∃ F : Fo, v = .agg F.vals.toArray ∧ Fit E F [.i, .s 0, .i, .i, .t, .s 1] ∧ F.Subs W (fun c => c < W.heap.size) := by
  obtain ⟨cs, rfl, hsz⟩ := okWide_struct Try.underlying86 hv
  obtain ⟨fuel, hf⟩ := h
  obtain ⟨F, e, h1, h2⟩ := (all_say fuel).2.2.1 _ _ hf
  refine ⟨F, ?_, h1, h2⟩
  simp only [Value.cells] at e
  congr 1
  apply Array.ext'
  exact e
set_option maxRecDepth 100000 in
theorem open_Typed {H : Type} {enc : TypeId × Value → H} {W : World} {r : Reach} {base : Nat} {v : Value} {d : DataW H} {p : List MemPlace} (hv : Value.okWide Try.prog W r base 88 v) (h : DataW.Trod enc Try.prog W 0 (fun _ => true) true 88 v d p) :
    ∃ F : Fo, v = .agg F.vals.toArray ∧ Fit E F (E 2) ∧ F.Subs W (fun c => c < W.heap.size) := by
  obtain ⟨cs, rfl, hsz⟩ := okWide_struct Try.underlying88 hv
  obtain ⟨fuel, hf⟩ := h
  obtain ⟨F, e, h1, h2⟩ := (all_say fuel).2.2.2.1 _ _ hf
  refine ⟨F, ?_, h1, h2⟩
  simp only [Value.cells] at e
  congr 1
  apply Array.ext'
  exact e
set_option maxRecDepth 100000 in
theorem open_Node {H : Type} {enc : TypeId × Value → H} {W : World} {r : Reach} {base : Nat} {v : Value} {d : DataW H} {p : List MemPlace} (hv : Value.okWide Try.prog W r base 91 v) (h : DataW.Trod enc Try.prog W 0 (fun _ => true) true 91 v d p) :
    ∃ F : Fo, v = .agg F.vals.toArray ∧ Fit E F (E 3) ∧ F.Subs W (fun c => c < W.heap.size) := by
  obtain ⟨cs, rfl, hsz⟩ := okWide_struct Try.underlying91 hv
  obtain ⟨fuel, hf⟩ := h
  obtain ⟨F, e, h1, h2⟩ := (all_say fuel).2.2.2.2.1 _ _ hf
  refine ⟨F, ?_, h1, h2⟩
  simp only [Value.cells] at e
  congr 1
  apply Array.ext'
  exact e
set_option maxRecDepth 100000 in
theorem open_InferResult {H : Type} {enc : TypeId × Value → H} {W : World} {r : Reach} {base : Nat} {v : Value} {d : DataW H} {p : List MemPlace} (hv : Value.okWide Try.prog W r base 35 v) (h : DataW.Trod enc Try.prog W 0 (fun _ => true) true 35 v d p) :
    ∃ F : Fo, v = .agg F.vals.toArray ∧ Fit E F [.i, .t, .s 2, .s 3] ∧ F.Subs W (fun c => c < W.heap.size) := by
  obtain ⟨cs, rfl, hsz⟩ := okWide_struct Try.underlying35 hv
  obtain ⟨fuel, hf⟩ := h
  obtain ⟨F, e, h1, h2⟩ := (all_say fuel).2.2.2.2.2 _ _ hf
  refine ⟨F, ?_, h1, h2⟩
  simp only [Value.cells] at e
  congr 1
  apply Array.ext'
  exact e
end Go.Proofs.Ytanjgmmkodlffaa.U
