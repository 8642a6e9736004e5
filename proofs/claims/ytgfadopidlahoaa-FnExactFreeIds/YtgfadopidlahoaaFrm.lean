import Derived.Test.YtgfadopidlahoaaTo
import Derived.ProofKit
import Derived.OpenShut
import Derived.ShutString
import Derived.ChangeOld
namespace Go.Proofs.Ytgfadopidlahoaa
open Go.ChangeShapes Go.WideShapes Go.ChangeAt Go.RowKit Go.Joins

theorem Try.own : ownKnob Try.prog.godebug = none := by kernel_rfl
theorem Try.laidOut : laidOutB Try.prog = true := by kernel_rfl
theorem Try.cells24 : Try.prog.cellsOf 24 = 4 := by kernel_rfl
theorem Try.cells22 : Try.prog.cellsOf 22 = 1 := by kernel_rfl
theorem Try.cells9 : Try.prog.cellsOf 9 = 1 := by kernel_rfl
theorem Try.cells2 : Try.prog.cellsOf 2 = 1 := by kernel_rfl

theorem three_cells {W : World} {b o : Nat} {cs : List Value} (h : W.cells? 0 ⟨b, o, none⟩ 4 = some cs) :
    ∃ u0 ui u1 u2, cs = [u0, ui, u1, u2] ∧ W.cell? ⟨b, o, none⟩ = some u0 ∧ W.cell? ⟨b, o + 1, none⟩ = some ui ∧ W.cell? ⟨b, o + 2, none⟩ = some u1 ∧ W.cell? ⟨b, o + 3, none⟩ = some u2 := by
  unfold World.cells? at h
  rw [if_pos (Nat.zero_le _)] at h
  simp only [List.range_succ, List.range_zero, List.nil_append, List.cons_append, List.mapM_cons, List.mapM_nil, addr_add, Nat.add_zero] at h
  cases h0 : W.cell? ⟨b, o, none⟩ with
  | none => simp [h0] at h
  | some u0 =>
    cases hi : W.cell? ⟨b, o + 1, none⟩ with
    | none => simp [h0, hi] at h
    | some ui =>
      cases h1 : W.cell? ⟨b, o + 2, none⟩ with
      | none => simp [h0, hi, h1] at h
      | some u1 =>
        cases h2 : W.cell? ⟨b, o + 3, none⟩ with
        | none => simp [h0, hi, h1, h2] at h
        | some u2 => simp [h0, hi, h1, h2] at h; exact ⟨u0, ui, u1, u2, h.symm, rfl, rfl, rfl, rfl⟩

/-- What a node's three cells say. -/
def NodeC (W : World) (cs : List Value) : Prop :=
  ∃ (k ix : Int) (nm : ByteArray) (a : Option Addr) (cap : Nat) (ks : Fo), cs = [.int .i64 k, .int .i64 ix, .string nm, .slice a ks.len cap] ∧ (Lit.int .i64 k).wf = true ∧ (Lit.int .i64 ix).wf = true ∧ nm.size ≤ maxLen ∧ ks.Sl W (fun b => b < W.heap.size) a cap

theorem rows_up {W : World} {b o len : Nat} (h : ∀ i, i < len → ∃ cs, W.cells? 0 ⟨b, o + i * 4, none⟩ 4 = some cs ∧ NodeC W cs) :
    ∀ j, j ≤ len → ∃ F : Fo, F.len = j ∧ F.Row W (fun c => c < W.heap.size) b (o + (len - j) * 4) := by
  intro j
  induction j with
  | zero => intro _; exact ⟨.nil, rfl, trivial⟩
  | succ j ih =>
    intro hj
    obtain ⟨F, hF, hR⟩ := ih (by omega)
    obtain ⟨cs, hc, k, ix, nm, a, cap, ks, rfl, hk, hix, hn, hs⟩ := h (len - (j + 1)) (by omega)
    obtain ⟨u0, ui, u1, u2, e, c0, ci, c1, c2⟩ := three_cells hc
    simp only [List.cons.injEq, and_true] at e
    obtain ⟨rfl, rfl, rfl, rfl⟩ := e
    refine ⟨.cons k ix nm a cap ks F, by simp only [Fo.len, hF], hk, hix, hn, c0, ci, c1, c2, hs.1, hs.2.1, hs.2.2, ?_⟩
    have e : o + (len - (j + 1)) * 4 + 4 = o + (len - j) * 4 := by omega
    rw [e]
    exact hR

set_option maxRecDepth 100000 in
theorem node_cells {H : Type} {enc : TypeId × Value → H} {W : World} : ∀ (m : Nat) (cs : List Value) (x : DataW H × List MemPlace),
    DataW.trod enc Try.prog W 0 (fun _ => true) true m 24 cs = some x → NodeC W cs := by
  intro m
  induction m using Nat.strongRecOn with
  | ind m ih =>
    intro cs x h
    obtain ⟨xs, n, hm, rfl, hl, hlen, hf⟩ := DataW.trod_struct Try.underlying24 h
    rw [Try.cells24] at hl
    match cs, hl with
    | [c0, ci, c1, c2], _ =>
      have f0 : DataW.trod enc Try.prog W 0 (fun _ => true) true n 2 [c0] = xs[0]? := by
        have := hf 0 { name := "Kind", type := 2, offset := 0, embedded := false, tag := "", pkgPath := "", byteOffset := 0 } rfl
        simpa [Try.cells2] using this
      have fi : DataW.trod enc Try.prog W 0 (fun _ => true) true n 2 [ci] = xs[1]? := by
        have := hf 1 { name := "Id", type := 2, offset := 1, embedded := false, tag := "", pkgPath := "", byteOffset := 8 } rfl
        simpa [Try.cells2] using this
      have f1 : DataW.trod enc Try.prog W 0 (fun _ => true) true n 9 [c1] = xs[2]? := by
        have := hf 2 { name := "Name", type := 9, offset := 2, embedded := false, tag := "", pkgPath := "", byteOffset := 16 } rfl
        simpa [Try.cells9] using this
      have f2 : DataW.trod enc Try.prog W 0 (fun _ => true) true n 22 [c2] = xs[3]? := by
        have := hf 3 { name := "Args", type := 22, offset := 3, embedded := false, tag := "", pkgPath := "", byteOffset := 32 } rfl
        simpa [Try.cells22] using this
      match xs, hlen with
      | [y0, yi, y1, y2], _ =>
        simp only [List.getElem?_cons_zero, List.getElem?_cons_succ] at f0 fi f1 f2
        obtain ⟨k, e0, -, hk⟩ := DataW.trod_int Try.underlying2 f0
        obtain ⟨ix, ei, -, hix⟩ := DataW.trod_int Try.underlying2 fi
        obtain ⟨nm, e1, -, hn⟩ := DataW.trod_string Try.underlying9 f1
        simp only [List.cons.injEq, and_true] at e0 ei e1
        subst e0 ei e1
        rcases DataW.trod_slice Try.underlying22 f2 with ⟨e2, -⟩ | ⟨a, len, cap, elems, rest, n', hn', e2, -, -, hlc, hcm, hel, hE, -, -⟩
        · simp only [List.cons.injEq, and_true] at e2
          subst e2
          exact ⟨k, ix, nm, none, 0, .nil, rfl, hk, hix, hn, Nat.le_refl _, Nat.zero_le _, fun h => by simp [Fo.len] at h⟩
        · simp only [List.cons.injEq, and_true] at e2
          subst e2
          rw [Try.cells24] at hE
          obtain ⟨b, off, spot⟩ := a
          rcases Nat.eq_zero_or_pos len with h0 | hp
          · subst h0
            exact ⟨k, ix, nm, _, cap, .nil, rfl, hk, hix, hn, by simp only [Fo.len]; omega, hcm, fun h => by simp [Fo.len] at h⟩
          · have hel' : ∀ i, i < len → ∃ cs, W.cells? 0 ((⟨b, off, spot⟩ : Addr).add (i * 4)) 4 = some cs ∧ NodeC W cs := by
              intro i hi
              have h1 := hE i hi
              have h2 : ∃ y, elems[i]? = some y := ⟨elems[i], by simp [hel ▸ hi]⟩
              obtain ⟨y, hy⟩ := h2
              rw [hy, Option.bind_eq_some_iff] at h1
              obtain ⟨cs, hc, ht⟩ := h1
              exact ⟨cs, hc, ih n' (by omega) cs y ht⟩
            have hspot : spot = none := by
              obtain ⟨cs, hc, -⟩ := hel' 0 hp
              unfold World.cells? at hc
              rw [if_pos (Nat.zero_le _)] at hc
              simp only [List.range_succ, List.range_zero, List.nil_append, List.cons_append, List.mapM_cons, List.mapM_nil] at hc
              cases h0 : W.cell? (((⟨b, off, spot⟩ : Addr).add (0 * 4)).add 0) with
              | none => simp [h0] at hc
              | some u => simpa [Addr.add] using World.cell?_spot h0
            subst hspot
            have hel2 : ∀ i, i < len → ∃ cs, W.cells? 0 ⟨b, off + i * 4, none⟩ 4 = some cs ∧ NodeC W cs := fun i hi => by
              have := hel' i hi
              rwa [addr_add] at this
            obtain ⟨F, hF, hR⟩ := rows_up hel2 len (Nat.le_refl _)
            subst hF
            refine ⟨k, ix, nm, _, cap, F, rfl, hk, hix, hn, hlc, hcm, fun _ => ⟨b, off, rfl, ?_, by simpa using hR⟩⟩
            obtain ⟨cs, hc, -⟩ := hel2 0 hp
            obtain ⟨u0, ui, u1, u2, -, c0, -⟩ := three_cells hc
            exact block_lt_of_cell c0

set_option maxRecDepth 100000 in
theorem open_node {H : Type} {enc : TypeId × Value → H} {W : World} {r : Reach} {base : Nat} {v : Value} {d : DataW H} {p : List MemPlace}
    (hv : Value.okWide Try.prog W r base 24 v) (h : DataW.Trod enc Try.prog W 0 (fun _ => true) true 24 v d p) :
    ∃ (k ix : Int) (nm : ByteArray) (a : Option Addr) (cap : Nat) (ks : Fo), v = nodeV k ix nm a ks.len cap ∧ (Lit.int .i64 k).wf = true ∧ (Lit.int .i64 ix).wf = true ∧ nm.size ≤ maxLen ∧ ks.Sl W (fun b => b < W.heap.size) a cap := by
  obtain ⟨cs, rfl, hsz⟩ := okWide_struct Try.underlying24 hv
  obtain ⟨fuel, hf⟩ := h
  obtain ⟨k, ix, nm, a, cap, ks, e, h1, hi, h2, h3⟩ := node_cells fuel _ _ hf
  refine ⟨k, ix, nm, a, cap, ks, ?_, h1, hi, h2, h3⟩
  simp only [Value.cells] at e
  unfold nodeV
  congr 1
  apply Array.ext'
  exact e

end Go.Proofs.Ytgfadopidlahoaa
