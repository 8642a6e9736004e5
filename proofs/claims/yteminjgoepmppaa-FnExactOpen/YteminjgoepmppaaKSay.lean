import Derived.Test.YteminjgoepmppaaUr
import Derived.ProofKit
import Derived.OpenShut
import Derived.ShutString
import Derived.ChangeOld
import Derived.Deep.RegionHeld3
import Derived.Test.YteminjgoepmppaaKa
namespace Go.Proofs.Yteminjgoepmppaa.U
open Go.ChangeShapes Go.WideShapes Go.ChangeAt Go.RowKit Go.Joins

/-- What the cells of a value say. -/
def Says (E : Nat → List Fld) (W : World) (fs : List Fld) (cs : List Value) : Prop := ∃ F : Fo, cs = F.vals ∧ Fit E F fs ∧ F.Subs W (fun c => c < W.heap.size)

theorem Says.cat {E : Nat → List Fld} {W : World} {fs gs : List Fld} {cs ds : List Value} (h : Says E W fs cs) (k : Says E W gs ds) : Says E W (fs ++ gs) (cs ++ ds) := by
  obtain ⟨F, rfl, h1, h2⟩ := h
  obtain ⟨G, rfl, k1, k2⟩ := k
  exact ⟨F.app G, (Fo.app_vals F G).symm, h1.app k1, h2.app k2⟩

theorem Says.one {E : Nat → List Fld} {W : World} {f : Fld} {gs : List Fld} {c : Value} {ds : List Value} (h : Says E W [f] [c]) (k : Says E W gs ds) : Says E W (f :: gs) (c :: ds) := h.cat k

theorem Says.none {E : Nat → List Fld} {W : World} : Says E W [] [] := ⟨.nil, rfl, trivial, trivial⟩

theorem says_int {E : Nat → List Fld} {H : Type} {enc : TypeId × Value → H} {P : Program} {W : World} {m : Nat} {t : TypeId} {cs : List Value} {x : DataW H × List MemPlace} (ht : P.underlying t = some (.int .i64)) (h : DataW.trod enc P W 0 (fun _ => true) true m t cs = some x) : Says E W [.i] cs := by
  obtain ⟨k, e, -, hk⟩ := DataW.trod_int ht h
  exact ⟨.v (.int .i64 k) .nil, e, ⟨hk, trivial⟩, trivial⟩

theorem says_text {E : Nat → List Fld} {H : Type} {enc : TypeId × Value → H} {P : Program} {W : World} {m : Nat} {t : TypeId} {cs : List Value} {x : DataW H × List MemPlace} (ht : P.underlying t = some .string) (h : DataW.trod enc P W 0 (fun _ => true) true m t cs = some x) : Says E W [.t] cs := by
  obtain ⟨k, e, -, hk⟩ := DataW.trod_string ht h
  exact ⟨.v (.string k) .nil, e, ⟨hk, trivial⟩, trivial⟩

theorem Cel.of_cells {W : World} {b o n : Nat} {cs : List Value} (h : W.cells? 0 ⟨b, o, none⟩ n = some cs) : Cel W cs b o := fun i v hv => by
  obtain ⟨-, hl, hc⟩ := World.cells?_some h
  have hi : i < n := by rw [← hl]; exact (List.getElem?_eq_some_iff.1 hv).1
  have := hc i hi
  rw [addr_add] at this
  rw [this]
  exact hv

theorem rows_up {E : Nat → List Fld} {W : World} {fs : List Fld} {b o len : Nat} (h : ∀ i, i < len → ∃ cs, W.cells? 0 ⟨b, o + i * fs.length, none⟩ fs.length = some cs ∧ Says E W fs cs) :
    ∀ j, j ≤ len → ∃ F : Fo, Fit E F (rep fs j) ∧ Cel W F.vals b (o + (len - j) * fs.length) ∧ F.Subs W (fun c => c < W.heap.size) := by
  intro j
  induction j with
  | zero => intro _; exact ⟨.nil, trivial, Cel.nil _ _ _, trivial⟩
  | succ j ih =>
    intro hj
    obtain ⟨F, hF, hC, hS⟩ := ih (by omega)
    obtain ⟨cs, hc, G, rfl, hG, hGs⟩ := h (len - (j + 1)) (by omega)
    refine ⟨G.app F, hG.app hF, ?_, hGs.app hS⟩
    rw [Fo.app_vals]
    refine Cel.join (Cel.of_cells hc) ?_
    rw [Fo.vals_length, hG.len]
    have e : len - j = len - (j + 1) + 1 := by omega
    rw [e, Nat.add_mul, Nat.one_mul, ← Nat.add_assoc] at hC
    exact hC

theorem says_slice {E : Nat → List Fld} {H : Type} {enc : TypeId × Value → H} {P : Program} {W : World} {m k : Nat} {t e : TypeId} {cs : List Value} {x : DataW H × List MemPlace} (ht : P.underlying t = some (.slice e)) (hc : P.cellsOf e = (E k).length) (hw : 0 < (E k).length)
    (ih : ∀ m', m' < m → ∀ cs x, DataW.trod enc P W 0 (fun _ => true) true m' e cs = some x → Says E W (E k) cs) (h : DataW.trod enc P W 0 (fun _ => true) true m t cs = some x) : Says E W [.s k] cs := by
  rcases DataW.trod_slice ht h with ⟨e2, -⟩ | ⟨a, len, cap, elems, rest, n', hn', e2, -, -, hlc, hcm, hel, hE, -, -⟩
  · exact ⟨.s none 0 0 .nil .nil, e2, ⟨trivial, trivial⟩, ⟨⟨Nat.le_refl _, Nat.zero_le _, fun hl => by simp [Fo.len] at hl⟩, trivial⟩⟩
  · rw [hc] at hE
    obtain ⟨b, off, spot⟩ := a
    rcases Nat.eq_zero_or_pos len with h0 | hp
    · subst h0
      exact ⟨.s (some ⟨b, off, spot⟩) 0 cap .nil .nil, e2, ⟨trivial, trivial⟩, ⟨⟨Nat.zero_le _, hcm, fun hl => by simp [Fo.len] at hl⟩, trivial⟩⟩
    · have hel' : ∀ i, i < len → ∃ cs, W.cells? 0 ((⟨b, off, spot⟩ : Addr).add (i * (E k).length)) (E k).length = some cs ∧ Says E W (E k) cs := by
        intro i hi
        have h1 := hE i hi
        have h2 : ∃ y, elems[i]? = some y := ⟨elems[i], by simp [hel ▸ hi]⟩
        obtain ⟨y, hy⟩ := h2
        rw [hy, Option.bind_eq_some_iff] at h1
        obtain ⟨cs, hc, ht⟩ := h1
        exact ⟨cs, hc, ih n' (by omega) cs y ht⟩
      have hspot : spot = none := by
        obtain ⟨cs, hc, -⟩ := hel' 0 hp
        obtain ⟨-, hl, hcc⟩ := World.cells?_some hc
        have h1 := hcc 0 hw
        have h2 : ∃ u, cs[0]? = some u := ⟨cs[0], by simp [hl ▸ hw]⟩
        obtain ⟨u, hu⟩ := h2
        rw [hu] at h1
        simpa [Addr.add] using World.cell?_spot h1
      subst hspot
      have hel2 : ∀ i, i < len → ∃ cs, W.cells? 0 ⟨b, off + i * (E k).length, none⟩ (E k).length = some cs ∧ Says E W (E k) cs := fun i hi => by
        have := hel' i hi
        rwa [addr_add] at this
      obtain ⟨F, hF, hC, hS⟩ := rows_up hel2 len (Nat.le_refl _)
      refine ⟨.s (some ⟨b, off, none⟩) len cap F .nil, e2, ⟨hF, trivial⟩, ⟨⟨hlc, hcm, fun _ => ⟨b, off, rfl, ?_, by simpa using hC, hS⟩⟩, trivial⟩⟩
      obtain ⟨cs, hc, -⟩ := hel2 0 hp
      exact World.cells?_block hc hw

end Go.Proofs.Yteminjgoepmppaa.U

namespace Go.Proofs.Yteminjgoepmppaa.U
open Go.ChangeShapes Go.WideShapes Go.ChangeAt Go.RowKit Go.Joins

theorem Try.own : ownKnob Try.prog.godebug = none := by kernel_rfl
theorem Try.laidOut : laidOutB Try.prog = true := by kernel_rfl
theorem Try.cells2 : Try.prog.cellsOf 2 = 1 := by kernel_rfl
theorem Try.cells9 : Try.prog.cellsOf 9 = 1 := by kernel_rfl
theorem Try.cells22 : Try.prog.cellsOf 22 = 1 := by kernel_rfl
theorem Try.cells24 : Try.prog.cellsOf 24 = 4 := by kernel_rfl
theorem Try.cells47 : Try.prog.cellsOf 47 = 1 := by kernel_rfl
theorem Try.cells61 : Try.prog.cellsOf 61 = 6 := by kernel_rfl
theorem Try.cells88 : Try.prog.cellsOf 88 = 5 := by kernel_rfl
theorem Try.cells112 : Try.prog.cellsOf 112 = 2 := by kernel_rfl

set_option maxRecDepth 100000 in
theorem all_say {H : Type} {enc : TypeId × Value → H} {W : World} : ∀ (m : Nat), (∀ cs x, DataW.trod enc Try.prog W 0 (fun _ => true) true m 24 cs = some x → Says E W (E 0) cs) ∧ (∀ cs x, DataW.trod enc Try.prog W 0 (fun _ => true) true m 88 cs = some x → Says E W (E 1) cs) ∧ (∀ cs x, DataW.trod enc Try.prog W 0 (fun _ => true) true m 112 cs = some x → Says E W (E 2) cs) ∧ (∀ cs x, DataW.trod enc Try.prog W 0 (fun _ => true) true m 61 cs = some x → Says E W [.i, .s 2, .i, .i, .t, .s 0] cs) := by
  intro m
  induction m using Nat.strongRecOn with
  | ind m ih =>
  refine ⟨?_, ?_, ?_, ?_⟩
  · intro cs x h
    obtain ⟨xs, n, rfl, -, hl, hlen, hf⟩ := DataW.trod_struct Try.underlying24 h
    rw [Try.cells24] at hl
    match cs, hl with
    | [c0, c1, c2, c3], _ =>
      have f0 : DataW.trod enc Try.prog W 0 (fun _ => true) true n 2 [c0] = xs[0]? := by
        have := hf 0 _ rfl
        simpa [Try.cells2] using this
      have f1 : DataW.trod enc Try.prog W 0 (fun _ => true) true n 2 [c1] = xs[1]? := by
        have := hf 1 _ rfl
        simpa [Try.cells2] using this
      have f2 : DataW.trod enc Try.prog W 0 (fun _ => true) true n 9 [c2] = xs[2]? := by
        have := hf 2 _ rfl
        simpa [Try.cells9] using this
      have f3 : DataW.trod enc Try.prog W 0 (fun _ => true) true n 22 [c3] = xs[3]? := by
        have := hf 3 _ rfl
        simpa [Try.cells22] using this
      match xs, hlen with
      | [y0, y1, y2, y3], _ =>
        simp only [List.getElem?_cons_zero, List.getElem?_cons_succ] at f0 f1 f2 f3
        exact Says.cat (says_int Try.underlying2 f0) (Says.cat (says_int Try.underlying2 f1) (Says.cat (says_text Try.underlying9 f2) (Says.cat (says_slice (E := E) (k := 0) Try.underlying22 Try.cells24 (by decide) (fun m2 hm2 => (ih m2 (by omega)).1) f3) (Says.none))))
  · intro cs x h
    obtain ⟨xs, n, rfl, -, hl, hlen, hf⟩ := DataW.trod_struct Try.underlying88 h
    rw [Try.cells88] at hl
    match cs, hl with
    | [c0, c1, c2, c3, c4], _ =>
      have f0 : DataW.trod enc Try.prog W 0 (fun _ => true) true n 2 [c0] = xs[0]? := by
        have := hf 0 _ rfl
        simpa [Try.cells2] using this
      have f1 : DataW.trod enc Try.prog W 0 (fun _ => true) true n 24 [c1, c2, c3, c4] = xs[1]? := by
        have := hf 1 _ rfl
        simpa [Try.cells24] using this
      match xs, hlen with
      | [y0, y1], _ =>
        simp only [List.getElem?_cons_zero, List.getElem?_cons_succ] at f0 f1
        exact Says.cat (says_int Try.underlying2 f0) (Says.cat ((ih n (by omega)).1 _ _ f1) (Says.none))
  · intro cs x h
    obtain ⟨xs, n, rfl, -, hl, hlen, hf⟩ := DataW.trod_struct Try.underlying112 h
    rw [Try.cells112] at hl
    match cs, hl with
    | [c0, c1], _ =>
      have f0 : DataW.trod enc Try.prog W 0 (fun _ => true) true n 9 [c0] = xs[0]? := by
        have := hf 0 _ rfl
        simpa [Try.cells9] using this
      have f1 : DataW.trod enc Try.prog W 0 (fun _ => true) true n 2 [c1] = xs[1]? := by
        have := hf 1 _ rfl
        simpa [Try.cells2] using this
      match xs, hlen with
      | [y0, y1], _ =>
        simp only [List.getElem?_cons_zero, List.getElem?_cons_succ] at f0 f1
        exact Says.cat (says_text Try.underlying9 f0) (Says.cat (says_int Try.underlying2 f1) (Says.none))
  · intro cs x h
    obtain ⟨xs, n, rfl, -, hl, hlen, hf⟩ := DataW.trod_struct Try.underlying61 h
    rw [Try.cells61] at hl
    match cs, hl with
    | [c0, c1, c2, c3, c4, c5], _ =>
      have f0 : DataW.trod enc Try.prog W 0 (fun _ => true) true n 2 [c0] = xs[0]? := by
        have := hf 0 _ rfl
        simpa [Try.cells2] using this
      have f1 : DataW.trod enc Try.prog W 0 (fun _ => true) true n 47 [c1] = xs[1]? := by
        have := hf 1 _ rfl
        simpa [Try.cells47] using this
      have f2 : DataW.trod enc Try.prog W 0 (fun _ => true) true n 24 [c2, c3, c4, c5] = xs[2]? := by
        have := hf 2 _ rfl
        simpa [Try.cells24] using this
      match xs, hlen with
      | [y0, y1, y2], _ =>
        simp only [List.getElem?_cons_zero, List.getElem?_cons_succ] at f0 f1 f2
        exact Says.cat (says_int Try.underlying2 f0) (Says.cat (says_slice (E := E) (k := 2) Try.underlying47 Try.cells112 (by decide) (fun m2 hm2 => (ih m2 (by omega)).2.2.1) f1) (Says.cat ((ih n (by omega)).1 _ _ f2) (Says.none)))

set_option maxRecDepth 100000 in
theorem open_Type {H : Type} {enc : TypeId × Value → H} {W : World} {r : Reach} {base : Nat} {v : Value} {d : DataW H} {p : List MemPlace} (hv : Value.okWide Try.prog W r base 24 v) (h : DataW.Trod enc Try.prog W 0 (fun _ => true) true 24 v d p) :
    ∃ F : Fo, v = .agg F.vals.toArray ∧ Fit E F (E 0) ∧ F.Subs W (fun c => c < W.heap.size) := by
  obtain ⟨cs, rfl, hsz⟩ := okWide_struct Try.underlying24 hv
  obtain ⟨fuel, hf⟩ := h
  obtain ⟨F, e, h1, h2⟩ := (all_say fuel).1 _ _ hf
  refine ⟨F, ?_, h1, h2⟩
  simp only [Value.cells] at e
  congr 1
  apply Array.ext'
  exact e
set_option maxRecDepth 100000 in
theorem open_Bind {H : Type} {enc : TypeId × Value → H} {W : World} {r : Reach} {base : Nat} {v : Value} {d : DataW H} {p : List MemPlace} (hv : Value.okWide Try.prog W r base 88 v) (h : DataW.Trod enc Try.prog W 0 (fun _ => true) true 88 v d p) :
    ∃ F : Fo, v = .agg F.vals.toArray ∧ Fit E F (E 1) ∧ F.Subs W (fun c => c < W.heap.size) := by
  obtain ⟨cs, rfl, hsz⟩ := okWide_struct Try.underlying88 hv
  obtain ⟨fuel, hf⟩ := h
  obtain ⟨F, e, h1, h2⟩ := (all_say fuel).2.1 _ _ hf
  refine ⟨F, ?_, h1, h2⟩
  simp only [Value.cells] at e
  congr 1
  apply Array.ext'
  exact e
set_option maxRecDepth 100000 in
theorem open_Pred {H : Type} {enc : TypeId × Value → H} {W : World} {r : Reach} {base : Nat} {v : Value} {d : DataW H} {p : List MemPlace} (hv : Value.okWide Try.prog W r base 112 v) (h : DataW.Trod enc Try.prog W 0 (fun _ => true) true 112 v d p) :
    ∃ F : Fo, v = .agg F.vals.toArray ∧ Fit E F (E 2) ∧ F.Subs W (fun c => c < W.heap.size) := by
  obtain ⟨cs, rfl, hsz⟩ := okWide_struct Try.underlying112 hv
  obtain ⟨fuel, hf⟩ := h
  obtain ⟨F, e, h1, h2⟩ := (all_say fuel).2.2.1 _ _ hf
  refine ⟨F, ?_, h1, h2⟩
  simp only [Value.cells] at e
  congr 1
  apply Array.ext'
  exact e
set_option maxRecDepth 100000 in
theorem open_Scheme {H : Type} {enc : TypeId × Value → H} {W : World} {r : Reach} {base : Nat} {v : Value} {d : DataW H} {p : List MemPlace} (hv : Value.okWide Try.prog W r base 61 v) (h : DataW.Trod enc Try.prog W 0 (fun _ => true) true 61 v d p) :
    ∃ F : Fo, v = .agg F.vals.toArray ∧ Fit E F [.i, .s 2, .i, .i, .t, .s 0] ∧ F.Subs W (fun c => c < W.heap.size) := by
  obtain ⟨cs, rfl, hsz⟩ := okWide_struct Try.underlying61 hv
  obtain ⟨fuel, hf⟩ := h
  obtain ⟨F, e, h1, h2⟩ := (all_say fuel).2.2.2 _ _ hf
  refine ⟨F, ?_, h1, h2⟩
  simp only [Value.cells] at e
  congr 1
  apply Array.ext'
  exact e
end Go.Proofs.Yteminjgoepmppaa.U
