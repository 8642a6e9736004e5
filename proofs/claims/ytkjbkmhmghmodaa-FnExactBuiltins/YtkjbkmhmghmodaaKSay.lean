import Derived.Deep.RegionHeld3
import Derived.Test.YtkjbkmhmghmodaaKa
import Derived.Test.YtkjbkmhmghmodaaUs
namespace Go.Proofs.Ytkjbkmhmghmodaa
open Go.ChangeShapes Go.WideShapes Go.ChangeAt Go.RowKit Go.Joins

theorem Try.own : ownKnob Try.prog.godebug = none := by kernel_rfl
theorem Try.laidOut : laidOutB Try.prog = true := by kernel_rfl
theorem Try.cells2 : Try.prog.cellsOf 2 = 1 := by kernel_rfl
theorem Try.cells9 : Try.prog.cellsOf 9 = 1 := by kernel_rfl
theorem Try.cells33 : Try.prog.cellsOf 33 = 1 := by kernel_rfl
theorem Try.cells34 : Try.prog.cellsOf 34 = 1 := by kernel_rfl
theorem Try.cells35 : Try.prog.cellsOf 35 = 1 := by kernel_rfl
theorem Try.cells36 : Try.prog.cellsOf 36 = 1 := by kernel_rfl
theorem Try.cells37 : Try.prog.cellsOf 37 = 1 := by kernel_rfl
theorem Try.cells39 : Try.prog.cellsOf 39 = 5 := by kernel_rfl
theorem Try.cells56 : Try.prog.cellsOf 56 = 1 := by kernel_rfl
theorem Try.cells138 : Try.prog.cellsOf 138 = 1 := by kernel_rfl
theorem Try.cells140 : Try.prog.cellsOf 140 = 5 := by kernel_rfl
theorem Try.cells142 : Try.prog.cellsOf 142 = 3 := by kernel_rfl
theorem Try.cells144 : Try.prog.cellsOf 144 = 1 := by kernel_rfl
theorem Try.cells146 : Try.prog.cellsOf 146 = 4 := by kernel_rfl
theorem Try.cells148 : Try.prog.cellsOf 148 = 6 := by kernel_rfl
theorem Try.cells150 : Try.prog.cellsOf 150 = 8 := by kernel_rfl
theorem Try.cells152 : Try.prog.cellsOf 152 = 3 := by kernel_rfl
theorem Try.cells155 : Try.prog.cellsOf 155 = 4 := by kernel_rfl
theorem Try.cells197 : Try.prog.cellsOf 197 = 2 := by kernel_rfl

set_option maxRecDepth 100000 in
theorem all_say {H : Type} {enc : TypeId × Value → H} {W : World} : ∀ (m : Nat), (∀ cs x, DataW.trod enc Try.prog W 0 (fun _ => true) true m 152 cs = some x → Says E W (E 1) cs) ∧ (∀ cs x, DataW.trod enc Try.prog W 0 (fun _ => true) true m 146 cs = some x → Says E W (E 2) cs) ∧ (∀ cs x, DataW.trod enc Try.prog W 0 (fun _ => true) true m 140 cs = some x → Says E W (E 3) cs) ∧ (∀ cs x, DataW.trod enc Try.prog W 0 (fun _ => true) true m 142 cs = some x → Says E W (E 4) cs) ∧ (∀ cs x, DataW.trod enc Try.prog W 0 (fun _ => true) true m 197 cs = some x → Says E W (E 5) cs) ∧ (∀ cs x, DataW.trod enc Try.prog W 0 (fun _ => true) true m 155 cs = some x → Says E W (E 6) cs) ∧ (∀ cs x, DataW.trod enc Try.prog W 0 (fun _ => true) true m 148 cs = some x → Says E W [.i, .s 5, .i, .i, .t, .s 2] cs) ∧ (∀ cs x, DataW.trod enc Try.prog W 0 (fun _ => true) true m 150 cs = some x → Says E W (E 7) cs) ∧ (∀ cs x, DataW.trod enc Try.prog W 0 (fun _ => true) true m 39 cs = some x → Says E W [.s 3, .s 4, .s 7, .s 1, .s 6] cs) ∧ (∀ cs x, DataW.trod enc Try.prog W 0 (fun _ => true) true m 9 cs = some x → Says E W (E 0) cs) := by
  intro m
  induction m using Nat.strongRecOn with
  | ind m ih =>
  refine ⟨?_, ?_, ?_, ?_, ?_, ?_, ?_, ?_, ?_, ?_⟩
  · intro cs x h
    obtain ⟨xs, n, rfl, -, hl, hlen, hf⟩ := DataW.trod_struct Try.underlying152 h
    rw [Try.cells152] at hl
    match cs, hl with
    | [c0, c1, c2], _ =>
      have f0 : DataW.trod enc Try.prog W 0 (fun _ => true) true n 9 [c0] = xs[0]? := by
        have := hf 0 _ rfl
        simpa [Try.cells9] using this
      have f1 : DataW.trod enc Try.prog W 0 (fun _ => true) true n 56 [c1] = xs[1]? := by
        have := hf 1 _ rfl
        simpa [Try.cells56] using this
      have f2 : DataW.trod enc Try.prog W 0 (fun _ => true) true n 56 [c2] = xs[2]? := by
        have := hf 2 _ rfl
        simpa [Try.cells56] using this
      match xs, hlen with
      | [y0, y1, y2], _ =>
        simp only [List.getElem?_cons_zero, List.getElem?_cons_succ] at f0 f1 f2
        exact Says.cat (says_text Try.underlying9 f0) (Says.cat (says_slice (E := E) (k := 0) Try.underlying56 Try.cells9 (by decide) (fun m2 hm2 => (ih m2 (by omega)).2.2.2.2.2.2.2.2.2) f1) (Says.cat (says_slice (E := E) (k := 0) Try.underlying56 Try.cells9 (by decide) (fun m2 hm2 => (ih m2 (by omega)).2.2.2.2.2.2.2.2.2) f2) (Says.none)))
  · intro cs x h
    obtain ⟨xs, n, rfl, -, hl, hlen, hf⟩ := DataW.trod_struct Try.underlying146 h
    rw [Try.cells146] at hl
    match cs, hl with
    | [c0, c1, c2, c3], _ =>
      have f0 : DataW.trod enc Try.prog W 0 (fun _ => true) true n 2 [c0] = xs[0]? := by
        have := hf 0 _ rfl
        simpa [Try.cells2] using this
      have f1 : DataW.trod enc Try.prog W 0 (fun _ => true) true n 2 [c1] = xs[1]? := by
        have := hf 1 _ rfl
        simpa [Try.cells2] using this
      have f2 : DataW.trod enc Try.prog W 0 (fun _ => true) true n 9 [c2] = xs[2]? := by
        have := hf 2 _ rfl
        simpa [Try.cells9] using this
      have f3 : DataW.trod enc Try.prog W 0 (fun _ => true) true n 138 [c3] = xs[3]? := by
        have := hf 3 _ rfl
        simpa [Try.cells138] using this
      match xs, hlen with
      | [y0, y1, y2, y3], _ =>
        simp only [List.getElem?_cons_zero, List.getElem?_cons_succ] at f0 f1 f2 f3
        exact Says.cat (says_int Try.underlying2 f0) (Says.cat (says_int Try.underlying2 f1) (Says.cat (says_text Try.underlying9 f2) (Says.cat (says_slice (E := E) (k := 2) Try.underlying138 Try.cells146 (by decide) (fun m2 hm2 => (ih m2 (by omega)).2.1) f3) (Says.none))))
  · intro cs x h
    obtain ⟨xs, n, rfl, -, hl, hlen, hf⟩ := DataW.trod_struct Try.underlying140 h
    rw [Try.cells140] at hl
    match cs, hl with
    | [c0, c1, c2, c3, c4], _ =>
      have f0 : DataW.trod enc Try.prog W 0 (fun _ => true) true n 9 [c0] = xs[0]? := by
        have := hf 0 _ rfl
        simpa [Try.cells9] using this
      have f1 : DataW.trod enc Try.prog W 0 (fun _ => true) true n 9 [c1] = xs[1]? := by
        have := hf 1 _ rfl
        simpa [Try.cells9] using this
      have f2 : DataW.trod enc Try.prog W 0 (fun _ => true) true n 2 [c2] = xs[2]? := by
        have := hf 2 _ rfl
        simpa [Try.cells2] using this
      have f3 : DataW.trod enc Try.prog W 0 (fun _ => true) true n 2 [c3] = xs[3]? := by
        have := hf 3 _ rfl
        simpa [Try.cells2] using this
      have f4 : DataW.trod enc Try.prog W 0 (fun _ => true) true n 138 [c4] = xs[4]? := by
        have := hf 4 _ rfl
        simpa [Try.cells138] using this
      match xs, hlen with
      | [y0, y1, y2, y3, y4], _ =>
        simp only [List.getElem?_cons_zero, List.getElem?_cons_succ] at f0 f1 f2 f3 f4
        exact Says.cat (says_text Try.underlying9 f0) (Says.cat (says_text Try.underlying9 f1) (Says.cat (says_int Try.underlying2 f2) (Says.cat (says_int Try.underlying2 f3) (Says.cat (says_slice (E := E) (k := 2) Try.underlying138 Try.cells146 (by decide) (fun m2 hm2 => (ih m2 (by omega)).2.1) f4) (Says.none)))))
  · intro cs x h
    obtain ⟨xs, n, rfl, -, hl, hlen, hf⟩ := DataW.trod_struct Try.underlying142 h
    rw [Try.cells142] at hl
    match cs, hl with
    | [c0, c1, c2], _ =>
      have f0 : DataW.trod enc Try.prog W 0 (fun _ => true) true n 9 [c0] = xs[0]? := by
        have := hf 0 _ rfl
        simpa [Try.cells9] using this
      have f1 : DataW.trod enc Try.prog W 0 (fun _ => true) true n 2 [c1] = xs[1]? := by
        have := hf 1 _ rfl
        simpa [Try.cells2] using this
      have f2 : DataW.trod enc Try.prog W 0 (fun _ => true) true n 56 [c2] = xs[2]? := by
        have := hf 2 _ rfl
        simpa [Try.cells56] using this
      match xs, hlen with
      | [y0, y1, y2], _ =>
        simp only [List.getElem?_cons_zero, List.getElem?_cons_succ] at f0 f1 f2
        exact Says.cat (says_text Try.underlying9 f0) (Says.cat (says_int Try.underlying2 f1) (Says.cat (says_slice (E := E) (k := 0) Try.underlying56 Try.cells9 (by decide) (fun m2 hm2 => (ih m2 (by omega)).2.2.2.2.2.2.2.2.2) f2) (Says.none)))
  · intro cs x h
    obtain ⟨xs, n, rfl, -, hl, hlen, hf⟩ := DataW.trod_struct Try.underlying197 h
    rw [Try.cells197] at hl
    match cs, hl with
    | [c0, c1], _ =>
      have f0 : DataW.trod enc Try.prog W 0 (fun _ => true) true n 9 [c0] = xs[0]? := by
        have := hf 0 _ rfl
        simpa [Try.cells9] using this
      have f1 : DataW.trod enc Try.prog W 0 (fun _ => true) true n 2 [c1] = xs[1]? := by
        have := hf 1 _ rfl
        simpa [Try.cells2] using this
      match xs, hlen with
      | [y0, y1], _ =>
        simp only [List.getElem?_cons_zero, List.getElem?_cons_succ] at f0 f1
        exact Says.cat (says_text Try.underlying9 f0) (Says.cat (says_int Try.underlying2 f1) (Says.none))
  · intro cs x h
    obtain ⟨xs, n, rfl, -, hl, hlen, hf⟩ := DataW.trod_struct Try.underlying155 h
    rw [Try.cells155] at hl
    match cs, hl with
    | [c0, c1, c2, c3], _ =>
      have f0 : DataW.trod enc Try.prog W 0 (fun _ => true) true n 9 [c0] = xs[0]? := by
        have := hf 0 _ rfl
        simpa [Try.cells9] using this
      have f1 : DataW.trod enc Try.prog W 0 (fun _ => true) true n 9 [c1] = xs[1]? := by
        have := hf 1 _ rfl
        simpa [Try.cells9] using this
      have f2 : DataW.trod enc Try.prog W 0 (fun _ => true) true n 2 [c2] = xs[2]? := by
        have := hf 2 _ rfl
        simpa [Try.cells2] using this
      have f3 : DataW.trod enc Try.prog W 0 (fun _ => true) true n 144 [c3] = xs[3]? := by
        have := hf 3 _ rfl
        simpa [Try.cells144] using this
      match xs, hlen with
      | [y0, y1, y2, y3], _ =>
        simp only [List.getElem?_cons_zero, List.getElem?_cons_succ] at f0 f1 f2 f3
        exact Says.cat (says_text Try.underlying9 f0) (Says.cat (says_text Try.underlying9 f1) (Says.cat (says_int Try.underlying2 f2) (Says.cat (says_slice (E := E) (k := 5) Try.underlying144 Try.cells197 (by decide) (fun m2 hm2 => (ih m2 (by omega)).2.2.2.2.1) f3) (Says.none))))
  · intro cs x h
    obtain ⟨xs, n, rfl, -, hl, hlen, hf⟩ := DataW.trod_struct Try.underlying148 h
    rw [Try.cells148] at hl
    match cs, hl with
    | [c0, c1, c2, c3, c4, c5], _ =>
      have f0 : DataW.trod enc Try.prog W 0 (fun _ => true) true n 2 [c0] = xs[0]? := by
        have := hf 0 _ rfl
        simpa [Try.cells2] using this
      have f1 : DataW.trod enc Try.prog W 0 (fun _ => true) true n 144 [c1] = xs[1]? := by
        have := hf 1 _ rfl
        simpa [Try.cells144] using this
      have f2 : DataW.trod enc Try.prog W 0 (fun _ => true) true n 146 [c2, c3, c4, c5] = xs[2]? := by
        have := hf 2 _ rfl
        simpa [Try.cells146] using this
      match xs, hlen with
      | [y0, y1, y2], _ =>
        simp only [List.getElem?_cons_zero, List.getElem?_cons_succ] at f0 f1 f2
        exact Says.cat (says_int Try.underlying2 f0) (Says.cat (says_slice (E := E) (k := 5) Try.underlying144 Try.cells197 (by decide) (fun m2 hm2 => (ih m2 (by omega)).2.2.2.2.1) f1) (Says.cat ((ih n (by omega)).2.1 _ _ f2) (Says.none)))
  · intro cs x h
    obtain ⟨xs, n, rfl, -, hl, hlen, hf⟩ := DataW.trod_struct Try.underlying150 h
    rw [Try.cells150] at hl
    match cs, hl with
    | [c0, c1, c2, c3, c4, c5, c6, c7], _ =>
      have f0 : DataW.trod enc Try.prog W 0 (fun _ => true) true n 9 [c0] = xs[0]? := by
        have := hf 0 _ rfl
        simpa [Try.cells9] using this
      have f1 : DataW.trod enc Try.prog W 0 (fun _ => true) true n 9 [c1] = xs[1]? := by
        have := hf 1 _ rfl
        simpa [Try.cells9] using this
      have f2 : DataW.trod enc Try.prog W 0 (fun _ => true) true n 148 [c2, c3, c4, c5, c6, c7] = xs[2]? := by
        have := hf 2 _ rfl
        simpa [Try.cells148] using this
      match xs, hlen with
      | [y0, y1, y2], _ =>
        simp only [List.getElem?_cons_zero, List.getElem?_cons_succ] at f0 f1 f2
        exact Says.cat (says_text Try.underlying9 f0) (Says.cat (says_text Try.underlying9 f1) (Says.cat ((ih n (by omega)).2.2.2.2.2.2.1 _ _ f2) (Says.none)))
  · intro cs x h
    obtain ⟨xs, n, rfl, -, hl, hlen, hf⟩ := DataW.trod_struct Try.underlying39 h
    rw [Try.cells39] at hl
    match cs, hl with
    | [c0, c1, c2, c3, c4], _ =>
      have f0 : DataW.trod enc Try.prog W 0 (fun _ => true) true n 33 [c0] = xs[0]? := by
        have := hf 0 _ rfl
        simpa [Try.cells33] using this
      have f1 : DataW.trod enc Try.prog W 0 (fun _ => true) true n 34 [c1] = xs[1]? := by
        have := hf 1 _ rfl
        simpa [Try.cells34] using this
      have f2 : DataW.trod enc Try.prog W 0 (fun _ => true) true n 35 [c2] = xs[2]? := by
        have := hf 2 _ rfl
        simpa [Try.cells35] using this
      have f3 : DataW.trod enc Try.prog W 0 (fun _ => true) true n 36 [c3] = xs[3]? := by
        have := hf 3 _ rfl
        simpa [Try.cells36] using this
      have f4 : DataW.trod enc Try.prog W 0 (fun _ => true) true n 37 [c4] = xs[4]? := by
        have := hf 4 _ rfl
        simpa [Try.cells37] using this
      match xs, hlen with
      | [y0, y1, y2, y3, y4], _ =>
        simp only [List.getElem?_cons_zero, List.getElem?_cons_succ] at f0 f1 f2 f3 f4
        exact Says.cat (says_slice (E := E) (k := 3) Try.underlying33 Try.cells140 (by decide) (fun m2 hm2 => (ih m2 (by omega)).2.2.1) f0) (Says.cat (says_slice (E := E) (k := 4) Try.underlying34 Try.cells142 (by decide) (fun m2 hm2 => (ih m2 (by omega)).2.2.2.1) f1) (Says.cat (says_slice (E := E) (k := 7) Try.underlying35 Try.cells150 (by decide) (fun m2 hm2 => (ih m2 (by omega)).2.2.2.2.2.2.2.1) f2) (Says.cat (says_slice (E := E) (k := 1) Try.underlying36 Try.cells152 (by decide) (fun m2 hm2 => (ih m2 (by omega)).1) f3) (Says.cat (says_slice (E := E) (k := 6) Try.underlying37 Try.cells155 (by decide) (fun m2 hm2 => (ih m2 (by omega)).2.2.2.2.2.1) f4) (Says.none)))))
  · intro cs x h
    exact says_text Try.underlying9 h

set_option maxRecDepth 100000 in
theorem open_ClassInfo {H : Type} {enc : TypeId × Value → H} {W : World} {r : Reach} {base : Nat} {v : Value} {d : DataW H} {p : List MemPlace} (hv : Value.okWide Try.prog W r base 152 v) (h : DataW.Trod enc Try.prog W 0 (fun _ => true) true 152 v d p) :
    ∃ F : Fo, v = .agg F.vals.toArray ∧ Fit E F (E 1) ∧ F.Subs W (fun c => c < W.heap.size) := by
  obtain ⟨cs, rfl, hsz⟩ := okWide_struct Try.underlying152 hv
  obtain ⟨fuel, hf⟩ := h
  obtain ⟨F, e, h1, h2⟩ := (all_say fuel).1 _ _ hf
  refine ⟨F, ?_, h1, h2⟩
  simp only [Value.cells] at e
  congr 1
  apply Array.ext'
  exact e
set_option maxRecDepth 100000 in
theorem open_Type {H : Type} {enc : TypeId × Value → H} {W : World} {r : Reach} {base : Nat} {v : Value} {d : DataW H} {p : List MemPlace} (hv : Value.okWide Try.prog W r base 146 v) (h : DataW.Trod enc Try.prog W 0 (fun _ => true) true 146 v d p) :
    ∃ F : Fo, v = .agg F.vals.toArray ∧ Fit E F (E 2) ∧ F.Subs W (fun c => c < W.heap.size) := by
  obtain ⟨cs, rfl, hsz⟩ := okWide_struct Try.underlying146 hv
  obtain ⟨fuel, hf⟩ := h
  obtain ⟨F, e, h1, h2⟩ := (all_say fuel).2.1 _ _ hf
  refine ⟨F, ?_, h1, h2⟩
  simp only [Value.cells] at e
  congr 1
  apply Array.ext'
  exact e
set_option maxRecDepth 100000 in
theorem open_ConInfo {H : Type} {enc : TypeId × Value → H} {W : World} {r : Reach} {base : Nat} {v : Value} {d : DataW H} {p : List MemPlace} (hv : Value.okWide Try.prog W r base 140 v) (h : DataW.Trod enc Try.prog W 0 (fun _ => true) true 140 v d p) :
    ∃ F : Fo, v = .agg F.vals.toArray ∧ Fit E F (E 3) ∧ F.Subs W (fun c => c < W.heap.size) := by
  obtain ⟨cs, rfl, hsz⟩ := okWide_struct Try.underlying140 hv
  obtain ⟨fuel, hf⟩ := h
  obtain ⟨F, e, h1, h2⟩ := (all_say fuel).2.2.1 _ _ hf
  refine ⟨F, ?_, h1, h2⟩
  simp only [Value.cells] at e
  congr 1
  apply Array.ext'
  exact e
set_option maxRecDepth 100000 in
theorem open_DataInfo {H : Type} {enc : TypeId × Value → H} {W : World} {r : Reach} {base : Nat} {v : Value} {d : DataW H} {p : List MemPlace} (hv : Value.okWide Try.prog W r base 142 v) (h : DataW.Trod enc Try.prog W 0 (fun _ => true) true 142 v d p) :
    ∃ F : Fo, v = .agg F.vals.toArray ∧ Fit E F (E 4) ∧ F.Subs W (fun c => c < W.heap.size) := by
  obtain ⟨cs, rfl, hsz⟩ := okWide_struct Try.underlying142 hv
  obtain ⟨fuel, hf⟩ := h
  obtain ⟨F, e, h1, h2⟩ := (all_say fuel).2.2.2.1 _ _ hf
  refine ⟨F, ?_, h1, h2⟩
  simp only [Value.cells] at e
  congr 1
  apply Array.ext'
  exact e
set_option maxRecDepth 100000 in
theorem open_Pred {H : Type} {enc : TypeId × Value → H} {W : World} {r : Reach} {base : Nat} {v : Value} {d : DataW H} {p : List MemPlace} (hv : Value.okWide Try.prog W r base 197 v) (h : DataW.Trod enc Try.prog W 0 (fun _ => true) true 197 v d p) :
    ∃ F : Fo, v = .agg F.vals.toArray ∧ Fit E F (E 5) ∧ F.Subs W (fun c => c < W.heap.size) := by
  obtain ⟨cs, rfl, hsz⟩ := okWide_struct Try.underlying197 hv
  obtain ⟨fuel, hf⟩ := h
  obtain ⟨F, e, h1, h2⟩ := (all_say fuel).2.2.2.2.1 _ _ hf
  refine ⟨F, ?_, h1, h2⟩
  simp only [Value.cells] at e
  congr 1
  apply Array.ext'
  exact e
set_option maxRecDepth 100000 in
theorem open_InstInfo {H : Type} {enc : TypeId × Value → H} {W : World} {r : Reach} {base : Nat} {v : Value} {d : DataW H} {p : List MemPlace} (hv : Value.okWide Try.prog W r base 155 v) (h : DataW.Trod enc Try.prog W 0 (fun _ => true) true 155 v d p) :
    ∃ F : Fo, v = .agg F.vals.toArray ∧ Fit E F (E 6) ∧ F.Subs W (fun c => c < W.heap.size) := by
  obtain ⟨cs, rfl, hsz⟩ := okWide_struct Try.underlying155 hv
  obtain ⟨fuel, hf⟩ := h
  obtain ⟨F, e, h1, h2⟩ := (all_say fuel).2.2.2.2.2.1 _ _ hf
  refine ⟨F, ?_, h1, h2⟩
  simp only [Value.cells] at e
  congr 1
  apply Array.ext'
  exact e
set_option maxRecDepth 100000 in
theorem open_Scheme {H : Type} {enc : TypeId × Value → H} {W : World} {r : Reach} {base : Nat} {v : Value} {d : DataW H} {p : List MemPlace} (hv : Value.okWide Try.prog W r base 148 v) (h : DataW.Trod enc Try.prog W 0 (fun _ => true) true 148 v d p) :
    ∃ F : Fo, v = .agg F.vals.toArray ∧ Fit E F [.i, .s 5, .i, .i, .t, .s 2] ∧ F.Subs W (fun c => c < W.heap.size) := by
  obtain ⟨cs, rfl, hsz⟩ := okWide_struct Try.underlying148 hv
  obtain ⟨fuel, hf⟩ := h
  obtain ⟨F, e, h1, h2⟩ := (all_say fuel).2.2.2.2.2.2.1 _ _ hf
  refine ⟨F, ?_, h1, h2⟩
  simp only [Value.cells] at e
  congr 1
  apply Array.ext'
  exact e
set_option maxRecDepth 100000 in
theorem open_MethodInfo {H : Type} {enc : TypeId × Value → H} {W : World} {r : Reach} {base : Nat} {v : Value} {d : DataW H} {p : List MemPlace} (hv : Value.okWide Try.prog W r base 150 v) (h : DataW.Trod enc Try.prog W 0 (fun _ => true) true 150 v d p) :
    ∃ F : Fo, v = .agg F.vals.toArray ∧ Fit E F (E 7) ∧ F.Subs W (fun c => c < W.heap.size) := by
  obtain ⟨cs, rfl, hsz⟩ := okWide_struct Try.underlying150 hv
  obtain ⟨fuel, hf⟩ := h
  obtain ⟨F, e, h1, h2⟩ := (all_say fuel).2.2.2.2.2.2.2.1 _ _ hf
  refine ⟨F, ?_, h1, h2⟩
  simp only [Value.cells] at e
  congr 1
  apply Array.ext'
  exact e
set_option maxRecDepth 100000 in
theorem open_Tables {H : Type} {enc : TypeId × Value → H} {W : World} {r : Reach} {base : Nat} {v : Value} {d : DataW H} {p : List MemPlace} (hv : Value.okWide Try.prog W r base 39 v) (h : DataW.Trod enc Try.prog W 0 (fun _ => true) true 39 v d p) :
    ∃ F : Fo, v = .agg F.vals.toArray ∧ Fit E F [.s 3, .s 4, .s 7, .s 1, .s 6] ∧ F.Subs W (fun c => c < W.heap.size) := by
  obtain ⟨cs, rfl, hsz⟩ := okWide_struct Try.underlying39 hv
  obtain ⟨fuel, hf⟩ := h
  obtain ⟨F, e, h1, h2⟩ := (all_say fuel).2.2.2.2.2.2.2.2.1 _ _ hf
  refine ⟨F, ?_, h1, h2⟩
  simp only [Value.cells] at e
  congr 1
  apply Array.ext'
  exact e
end Go.Proofs.Ytkjbkmhmghmodaa
