import Derived.Test.YtcmelghjoapglaaFI
import Derived.ProofKit
import Derived.OpenShut
import Derived.ShutString
import Derived.ChangeOld
namespace Go.Proofs.Ytcmelghjoapglaa
open Go.ChangeShapes Go.WideShapes Go.ChangeAt Go.RowKit Go.Joins
open Go.ChangeMaps (open_string shut_string)

theorem Try.own : ownKnob Try.prog.godebug = none := by kernel_rfl
theorem Try.laidOut : laidOutB Try.prog = true := by kernel_rfl
theorem Try.cells33 : Try.prog.cellsOf 33 = 3 := by kernel_rfl
theorem Try.cells9 : Try.prog.cellsOf 9 = 1 := by kernel_rfl
theorem Try.cells2 : Try.prog.cellsOf 2 = 1 := by kernel_rfl

theorem three_cells {W : World} {b o : Nat} {cs : List Value} (h : W.cells? 0 ⟨b, o, none⟩ 3 = some cs) :
    ∃ u0 u1 u2, cs = [u0, u1, u2] ∧ W.cell? ⟨b, o, none⟩ = some u0 ∧ W.cell? ⟨b, o + 1, none⟩ = some u1 ∧ W.cell? ⟨b, o + 2, none⟩ = some u2 := by
  unfold World.cells? at h
  rw [if_pos (Nat.zero_le _)] at h
  simp only [List.range_succ, List.range_zero, List.nil_append, List.cons_append, List.mapM_cons, List.mapM_nil, addr_add, Nat.add_zero] at h
  cases h0 : W.cell? ⟨b, o, none⟩ with
  | none => simp [h0] at h
  | some u0 =>
    cases h1 : W.cell? ⟨b, o + 1, none⟩ with
    | none => simp [h0, h1] at h
    | some u1 =>
      cases h2 : W.cell? ⟨b, o + 2, none⟩ with
      | none => simp [h0, h1, h2] at h
      | some u2 => simp [h0, h1, h2] at h; exact ⟨u0, u1, u2, h.symm, rfl, rfl, rfl⟩

/-- What a fixity's three cells say. -/
def FxC (cs : List Value) (x : Fx) : Prop := cs = [.string x.nm, .int .i64 x.sd, .int .i64 x.lv] ∧ x.Ok

set_option maxRecDepth 100000 in
theorem fx_cells {H : Type} {enc : TypeId × Value → H} {W : World} (m : Nat) (cs : List Value) (x : DataW H × List MemPlace)
    (h : DataW.trod enc Try.prog W 0 (fun _ => true) true m 33 cs = some x) : ∃ y, FxC cs y := by
  obtain ⟨xs, n, hm, rfl, hl, hlen, hf⟩ := DataW.trod_struct Try.underlying33 h
  rw [Try.cells33] at hl
  match cs, hl with
  | [c0, c1, c2], _ =>
    have f0 : DataW.trod enc Try.prog W 0 (fun _ => true) true n 9 [c0] = xs[0]? := by
      have := hf 0 { name := "Name", type := 9, offset := 0, embedded := false, tag := "", pkgPath := "", byteOffset := 0 } rfl
      simpa [Try.cells9] using this
    have f1 : DataW.trod enc Try.prog W 0 (fun _ => true) true n 2 [c1] = xs[1]? := by
      have := hf 1 { name := "Side", type := 2, offset := 1, embedded := false, tag := "", pkgPath := "", byteOffset := 16 } rfl
      simpa [Try.cells2] using this
    have f2 : DataW.trod enc Try.prog W 0 (fun _ => true) true n 2 [c2] = xs[2]? := by
      have := hf 2 { name := "Level", type := 2, offset := 2, embedded := false, tag := "", pkgPath := "", byteOffset := 24 } rfl
      simpa [Try.cells2] using this
    match xs, hlen with
    | [y0, y1, y2], _ =>
      simp only [List.getElem?_cons_zero, List.getElem?_cons_succ] at f0 f1 f2
      obtain ⟨nm, e0, -, hn⟩ := DataW.trod_string Try.underlying9 f0
      obtain ⟨s, e1, -, hs⟩ := DataW.trod_int Try.underlying2 f1
      obtain ⟨l, e2, -, hv⟩ := DataW.trod_int Try.underlying2 f2
      simp only [List.cons.injEq, and_true] at e0 e1 e2
      subst e0 e1 e2
      exact ⟨⟨nm, s, l⟩, rfl, hs, hv, hn⟩

theorem list_of {α : Type} (p : Nat → α → Prop) : ∀ n : Nat, (∀ i, i < n → ∃ x, p i x) → ∃ L : List α, L.length = n ∧ ∀ i x, L[i]? = some x → p i x
  | 0, _ => ⟨[], rfl, fun i x h => by simp at h⟩
  | n + 1, h => by
    obtain ⟨L, hl, hp⟩ := list_of p n (fun i hi => h i (by omega))
    obtain ⟨x, hx⟩ := h n (by omega)
    refine ⟨L ++ [x], by simp [hl], fun i y hy => ?_⟩
    by_cases e : i < L.length
    · rw [List.getElem?_append_left e] at hy
      exact hp i y hy
    · rw [List.getElem?_append_right (by omega)] at hy
      have : i = L.length := by
        rcases q : i - L.length with _ | j
        · omega
        · rw [q] at hy; simp at hy
      subst this
      simp at hy
      subst hy
      rw [hl]
      exact hx

set_option maxRecDepth 100000 in
theorem open_fxs {H : Type} {enc : TypeId × Value → H} {W : World} {r : Reach} {base : Nat} {v : Value} {d : DataW H} {p : List MemPlace}
    (hv : Value.okWide Try.prog W r base 22 v) (h : DataW.Trod enc Try.prog W 0 (fun _ => true) true 22 v d p) :
    ∃ (a : Option Addr) (cap : Nat) (L : List Fx), v = .slice a L.length cap ∧ FSl W W.heap.size a cap L := by
  obtain ⟨a1, len, cap, rfl⟩ := okWide_slice Try.underlying22 hv
  obtain ⟨fuel, hf⟩ := h
  rcases DataW.trod_slice Try.underlying22 hf with ⟨e2, -⟩ | ⟨a, len', cap', elems, rest, n', hn', e2, -, -, hlc, hcm, hel, hE, -, -⟩
  · simp [Value.cells] at e2
    obtain ⟨rfl, rfl, rfl⟩ := e2
    exact ⟨none, 0, [], rfl, Nat.le_refl _, Nat.zero_le _, fun x h => by simp at h, fun h => by simp at h⟩
  · simp [Value.cells] at e2
    obtain ⟨rfl, rfl, rfl⟩ := e2
    rw [Try.cells33] at hE
    obtain ⟨b, off, spot⟩ := a
    rcases Nat.eq_zero_or_pos len with h0 | hp
    · subst h0
      exact ⟨_, cap, [], rfl, Nat.zero_le _, hcm, fun x h => by simp at h, fun h => by simp at h⟩
    · have hel' : ∀ i, i < len → ∃ cs, W.cells? 0 ((⟨b, off, spot⟩ : Addr).add (i * 3)) 3 = some cs ∧ ∃ y, FxC cs y := by
        intro i hi
        have h1 := hE i hi
        have h2 : ∃ y, elems[i]? = some y := ⟨elems[i], by simp [hel ▸ hi]⟩
        obtain ⟨y, hy⟩ := h2
        rw [hy, Option.bind_eq_some_iff] at h1
        obtain ⟨cs, hc, ht⟩ := h1
        exact ⟨cs, hc, fx_cells n' cs y ht⟩
      have hspot : spot = none := by
        obtain ⟨cs, hc, -⟩ := hel' 0 hp
        unfold World.cells? at hc
        rw [if_pos (Nat.zero_le _)] at hc
        simp only [List.range_succ, List.range_zero, List.nil_append, List.cons_append, List.mapM_cons, List.mapM_nil] at hc
        cases h0 : W.cell? (((⟨b, off, spot⟩ : Addr).add (0 * 3)).add 0) with
        | none => simp [h0] at hc
        | some u => simpa [Addr.add] using World.cell?_spot h0
      subst hspot
      obtain ⟨L, hL, hpL⟩ := list_of (fun i (x : Fx) => x.Ok ∧ W.cell? ⟨b, off + i * 3, none⟩ = some (.string x.nm) ∧ W.cell? ⟨b, off + i * 3 + 1, none⟩ = some (.int .i64 x.sd) ∧ W.cell? ⟨b, off + i * 3 + 2, none⟩ = some (.int .i64 x.lv)) len (fun i hi => by
        obtain ⟨cs, hc, y, rfl, hy⟩ := hel' i hi
        rw [addr_add] at hc
        obtain ⟨u0, u1, u2, e, c0, c1, c2⟩ := three_cells hc
        simp only [List.cons.injEq, and_true] at e
        obtain ⟨rfl, rfl, rfl⟩ := e
        exact ⟨y, hy, c0, c1, c2⟩)
      subst hL
      refine ⟨_, cap, L, rfl, hlc, hcm, fun x hx => ?_, fun _ => ⟨b, off, rfl, ?_, fun i x hx => (hpL i x hx).2⟩⟩
      · obtain ⟨i, hi⟩ := List.getElem?_of_mem hx
        exact (hpL i x hi).1
      · have := hpL 0 L[0] (by simp)
        exact block_lt_of_cell this.2.1

set_option maxRecDepth 100000 in
theorem liftedFnExactFixityOf (os : Os) (started : os.Started) (H : Type) (enc : TypeId × Value → H) :
    ReturnsInHanded {} Try.checked os 3 .any (Rows.fnExactFixityOfSpec.pre6 enc Try.prog Try.f3 Rows.fnExactFixityOfRow.domain false) (Rows.fnExactFixityOfSpec.post enc Try.prog Try.f3 false true false false) := by
  refine returnsInHanded_of_change (C := Try.checked) Try.own started (by kernel_rfl) Try.func3
    (ChangeSpec.witness6 (enc := enc) (C := Try.checked) false ⟨#[], #[.slice none 0 0, .string ⟨#[]⟩], []⟩ 8 (by kernel_rfl) (by kernel_rfl) (by kernel_rfl) (by kernel_rfl)) ?_
  intro W base args ds gs before hval0 hW _ _
  have hval : ∀ (j : Nat) t v, Try.f3.params[j]? = some t → args[j]? = some v → Value.okWide Try.prog W .any base t v := hval0
  have hW' := hW
  obtain ⟨p, q, hA0, hV, rfl, _, _⟩ := hW
  have hA : DataW.TrodAll enc Try.prog W 0 (fun _ => true) true Try.f3.params.toList args.toList ds p := hA0
  rw [Try.params3] at hA hval
  obtain ⟨v0, v1, d0, d1, p0, p1, rfl, rfl, rfl, h0, h1⟩ := trodAll_two hA
  obtain ⟨rfl, rfl⟩ := trodVars_none hV
  have k0 := h0
  have k1 := h1
  have lt0 : ∀ x ∈ p0, x.block < W.heap.size := by obtain ⟨m, hm⟩ := k0; exact DataW.trod_lt m _ _ _ hm
  have lt1 : ∀ x ∈ p1, x.block < W.heap.size := by obtain ⟨m, hm⟩ := k1; exact DataW.trod_lt m _ _ _ hm
  obtain ⟨a, cap, L, rfl, hs⟩ := open_fxs (hval 0 22 v0 rfl rfl) h0
  obtain ⟨s, rfl, -, -, hn⟩ := open_string Try.underlying9 (hval 1 9 v1 rfl rfl) h1
  clear hA0 hval0
  refine (lawOf L s W a cap hn hs).mono fun e W' ⟨he, bel⟩ => ?_
  subst he
  exact ⟨_, rfl, _, _, _, [], _, [], hW', trodAll_mk1 (shut_bool Try.underlying4 _), trodAll_mk2 (Below.trod Try.laidOut (by kernel_rfl) (of_decide_eq_true (by kernel_rfl)) k0 bel lt0) (Below.trod Try.laidOut (by kernel_rfl) (of_decide_eq_true (by kernel_rfl)) k1 bel lt1), rfl, bel.frame _, fun h => by cases h⟩

theorem fnExactFixityOf_holds : Rows.FnExactFixityOfSaid :=
  OpenClaim.holds_of_wide 3 Try.f3 rfl rfl rfl rfl rfl rfl rfl ⟨rfl, rfl, rfl, rfl, rfl⟩ rfl rfl rfl rfl rfl (by kernel_rfl) Try.func3 (by kernel_rfl)
    (of_decide_eq_true (by kernel_rfl)) (by unfold Func.isWrapper; rw [if_neg (of_decide_eq_false (by kernel_rfl))]; exact ⟨rfl, rfl⟩)
    (fun os started H enc _ => liftedFnExactFixityOf os started H enc)

#print axioms fnExactFixityOf_holds
end Go.Proofs.Ytcmelghjoapglaa
