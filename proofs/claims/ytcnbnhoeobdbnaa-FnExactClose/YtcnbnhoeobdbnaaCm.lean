import Derived.Test.YtcnbnhoeobdbnaaIp
import Derived.Test.YtcnbnhoeobdbnaaPr
import Derived.DeepKeys4
import Derived.Maps.OwnOps
namespace Go.Proofs.Ytcnbnhoeobdbnaa
open Go.RowKit Go.Shelf Go.Joins

/-- The map in block M tells the places of the numbers of L. -/
def PM (w : World) (M n : Nat) (L : List Int) : Prop :=
  ∃ D : DataW Unit, w.ownsMap Try.prog 2 (plainElem Try.prog 2) M n D ∧ Maps.Tidy D ∧ Maps.size D = L.length ∧ (∀ x : Int, Maps.has D (.int .i64 x) = decide (x ∈ L)) ∧
    ∀ x : Int, x ∈ L → D.atKey (.int .i64 x) (.lit (.int .i64 0)) = .lit (.int .i64 ((L.idxOf x : Nat) : Int))

theorem PM.lt {w : World} {M n : Nat} {L : List Int} (h : PM w M n L) : M < w.heap.size := by
  obtain ⟨D, hD, -⟩ := h
  exact hD.lt

theorem PM.keep {w w' : World} {M n : Nat} {L : List Int} (h : PM w M n L) (hb : w'.heap[M]? = w.heap[M]?) : PM w' M n L := by
  obtain ⟨D, ⟨es, c, h1, h2⟩, h3⟩ := h
  exact ⟨D, ⟨es, c, hb.trans h1, h2⟩, h3⟩

theorem PM.kept {w w' : World} {M n : Nat} {L : List Int} {S : Nat → Prop} (h : PM w M n L) (k : Kept S w w') (hS : S M) : PM w' M n L := h.keep (k.block M h.lt hS)
theorem PM.below {w w' : World} {M n z : Nat} {L : List Int} (h : PM w M n L) (k : Below z w w') (hS : M < z) : PM w' M n L := h.keep (k.block M hS)

theorem PM.mono {w : World} {M n m : Nat} {L : List Int} (h : PM w M n L) (hn : n ≤ m) : PM w M m L := by
  obtain ⟨D, hD, h3⟩ := h
  exact ⟨D, hD.mono hn, h3⟩

theorem PM.start (w : World) : PM (w.alloc (.map #[] 0)) w.heap.size 0 [] :=
  ⟨.map [], World.ownsMap_made w _ _ _, Maps.tidy_empty, rfl, fun t => by simp [Maps.has], fun x hx => by simp at hx⟩

theorem zero2 (w : World) : (zeroValue 2).run Try.prog w = .ok (.int .i64 0) w := by kernel_rfl

theorem lit_inj {a b : Int} (h : (DataW.lit (.int .i64 a) : DataW Unit) = .lit (.int .i64 b)) : a = b := by
  simpa using h

theorem PM.look {w : World} {M n : Nat} {L : List Int} (h : PM w M n L) (x : Int) (hx : (Lit.int .i64 x).wf = true) :
    (Instr.lookup 118 (.map (some M)) (.int .i64 x) true).run Try.prog w = .ok (.tuple #[.int .i64 (if x ∈ L then ((L.idxOf x : Nat) : Int) else 0), .bool (decide (x ∈ L))]) w := by
  obtain ⟨D, hD, -, -, hat, hix⟩ := h
  obtain ⟨v, ps, hrun, hv⟩ := hD.look_ok (Maps.int_keyed Try.underlying2) Try.underlying118 (zero2 w) (zd := .lit (.int .i64 0)) (zp := []) (plainElem_int Try.underlying2 (by decide)) (Maps.keyOf_int_mk Try.underlying2 hx)
  obtain ⟨c, rfl, hc, -⟩ := plainElem_int_inv Try.underlying2 hv
  rw [hrun, hat x]
  have hc1 := congrArg Prod.fst hc
  simp only at hc1
  have e : c = if x ∈ L then ((L.idxOf x : Nat) : Int) else 0 := by
    by_cases hm : x ∈ L
    · rw [if_pos hm]
      rw [hix x hm] at hc1
      exact (lit_inj hc1).symm
    · rw [if_neg hm]
      rw [Maps.atKey_of_not_has (by rw [hat x]; simpa using hm)] at hc1
      exact (lit_inj hc1).symm
  rw [e]

theorem PM.put {w' : World} {M n : Nat} {L : List Int} {D : DataW Unit} {x : Int} (hT : Maps.Tidy D) (hz : Maps.size D = L.length)
    (hat : ∀ y : Int, Maps.has D (.int .i64 y) = decide (y ∈ L)) (hix : ∀ y : Int, y ∈ L → D.atKey (.int .i64 y) (.lit (.int .i64 0)) = .lit (.int .i64 ((L.idxOf y : Nat) : Int))) (hx : x ∉ L)
    (ho : w'.ownsMap Try.prog 2 (plainElem Try.prog 2) M n (D.put (.int .i64 x) (.lit (.int .i64 (L.length : Nat))))) : PM w' M n (L ++ [x]) := by
  have hI := hT.isMap
  refine ⟨_, ho, ho.tidy (Maps.int_keyed Try.underlying2), ?_, fun y => ?_, fun y hy => ?_⟩
  · rw [Maps.size_put hT, hat x, hz]
    simp [hx]
  · by_cases e : y = x
    · subst e
      rw [Maps.has_put_same hI (k := .int .i64 y) trivial]
      simp
    · have hne : (Lit.int .i64 y) ≠ .int .i64 x := fun h => by injection h with _ h; exact e h
      rw [Maps.has_put_other hne, hat y]
      simp [e]
  · by_cases e : y = x
    · subst e
      rw [Maps.atKey_put_same hI (k := .int .i64 y) trivial, List.idxOf_append, if_neg hx]
      simp
    · have hne : (Lit.int .i64 y) ≠ .int .i64 x := fun h => by injection h with _ h; exact e h
      have hy2 : y ∈ L := by simpa [e] using hy
      rw [Maps.atKey_put_other hne, hix y hy2, List.idxOf_append, if_pos hy2]

theorem PM.len {w : World} {M n : Nat} {L : List Int} (h : PM w M n L) (ty : TypeId) : (Builtin.len_ #[118] ty #[.map (some M)]).run Try.prog w = .ok (.int .i64 (L.length : Nat)) w := by
  obtain ⟨D, hD, -, hz, -⟩ := h
  rw [← hz]
  exact hD.len Try.underlying118 ty

theorem pkeyed : Maps.Keyed Try.prog 115 := Maps.Keyed.of_law (deep_law_laid (by kernel_rfl) (m := 3) (by decide) (of_decide_eq_true (by kernel_rfl)) (by kernel_rfl) (by rw [Try.underlying115]))

theorem pkey (c : ByteArray) (x : Int) (hc : c.size ≤ maxLen) (hx : (Lit.int .i64 x).wf = true) : ∃ l, keyOf Try.prog 115 (pv ⟨c, x⟩) = some l := by
  have hk : Try.prog.keyType 115 = true := by kernel_rfl
  have h115 : Try.prog.cellsOf 115 = 2 := by kernel_rfl
  have h9 : Try.prog.cellsOf 9 = 1 := by kernel_rfl
  have h2 : Try.prog.cellsOf 2 = 1 := by kernel_rfl
  have hf : (pv ⟨c, x⟩).formed Try.prog 115 = true := by simp [pv, Value.formed, Try.underlying115, h115]
  obtain ⟨m, hm⟩ : ∃ m, Try.prog.types.size = m + 1 := ⟨Try.prog.types.size - 1, by have : 1 ≤ Try.prog.types.size := of_decide_eq_true (by kernel_rfl); omega⟩
  have hl : Try.prog.keyLits (m + 1 + 1) 115 [.string c, .int .i64 x] = some [.string c.data.toList, .int .i64 x] := by
    simp [Program.keyLits, Try.underlying115, Try.underlying9, Try.underlying2, h115, h9, h2, hc, hx]
  unfold keyOf
  rw [Try.underlying115, hm]
  simp only [hk, hf, Bool.and_self, if_true]
  have e : (pv ⟨c, x⟩).cells.toList = [.string c, .int .i64 x] := rfl
  rw [e, hl]
  exact ⟨_, rfl⟩

/-- The map in block M has the preds of L. -/
def SP (w : World) (M n : Nat) (L : List (Pd)) : Prop :=
  ∃ D : DataW Unit, w.ownsMap Try.prog 115 unitElem M n D ∧ ∀ p l, keyOf Try.prog 115 (pv p) = some l → (Maps.has D l = true ↔ p ∈ L)

theorem SP.lt {w : World} {M n : Nat} {L : List (Pd)} (h : SP w M n L) : M < w.heap.size := by
  obtain ⟨D, hD, -⟩ := h
  exact hD.lt

theorem SP.keep {w w' : World} {M n : Nat} {L : List (Pd)} (h : SP w M n L) (hb : w'.heap[M]? = w.heap[M]?) : SP w' M n L := by
  obtain ⟨D, ⟨es, c, h1, h2⟩, h3⟩ := h
  exact ⟨D, ⟨es, c, hb.trans h1, h2⟩, h3⟩

theorem SP.kept {w w' : World} {M n : Nat} {L : List (Pd)} {S : Nat → Prop} (h : SP w M n L) (k : Kept S w w') (hS : S M) : SP w' M n L := h.keep (k.block M h.lt hS)

theorem SP.mono {w : World} {M n m : Nat} {L : List (Pd)} (h : SP w M n L) (hn : n ≤ m) : SP w M m L := by
  obtain ⟨D, hD, h3⟩ := h
  exact ⟨D, hD.mono hn, h3⟩

theorem SP.start (w : World) : SP (w.alloc (.map #[] 0)) w.heap.size 0 [] :=
  ⟨.map [], World.ownsMap_made w _ _ _, fun p l _ => by simp [Maps.has]⟩

theorem SP.look {w : World} {M n : Nat} {L : List (Pd)} (h : SP w M n L) (c : ByteArray) (x : Int) (hc : c.size ≤ maxLen) (hx : (Lit.int .i64 x).wf = true) (q : Bool) (hq : q = true ↔ (⟨c, x⟩ : Pd) ∈ L) :
    (Instr.lookup 136 (.map (some M)) (.agg #[.string c, .int .i64 x]) true).run Try.prog w = .ok (.tuple #[.agg #[], .bool q]) w := by
  obtain ⟨D, hD, hat⟩ := h
  obtain ⟨l, hl⟩ := pkey c x hc hx
  obtain ⟨v, ps, hrun, hv⟩ := hD.look_ok pkeyed Try.underlying136 (zero83 w) (zd := .agg []) (zp := []) unitElem_mk hl
  have e : Maps.has D l = q := by
    have h1 := (hat ⟨c, x⟩ l hl).trans hq.symm
    cases hb : Maps.has D l <;> cases q <;> simp_all
  rw [e, (unitElem_inv hv).1] at hrun
  exact hrun

theorem pv_inj {p q : Pd} (h : pv p = pv q) : p = q := by
  obtain ⟨a, b⟩ := p
  obtain ⟨c, d⟩ := q
  simp only [pv, Value.agg.injEq] at h
  have h2 := congrArg Array.toList h
  simp only [List.cons.injEq, Value.string.injEq, Value.int.injEq] at h2
  rw [h2.1, h2.2.1.2]

theorem SP.put {w' : World} {M n : Nat} {L : List (Pd)} {D : DataW Unit} {p : Pd} {l : Lit} (hl : keyOf Try.prog 115 (pv p) = some l) (hI : Maps.IsMap D)
    (hat : ∀ q l, keyOf Try.prog 115 (pv q) = some l → (Maps.has D l = true ↔ q ∈ L)) (ho : w'.ownsMap Try.prog 115 unitElem M n (D.put l (.agg []))) : SP w' M n (L ++ [p]) := by
  refine ⟨_, ho, fun q k hk => ?_⟩
  by_cases e : q = p
  · subst e
    rw [hl] at hk
    cases hk
    rw [Maps.has_put_same hI (k := l) (pkeyed.key hl)]
    simp
  · have hne : k ≠ l := fun h => by
      subst h
      exact e (pv_inj (pkeyed.inj hk hl))
    rw [Maps.has_put_other hne, hat q k hk]
    simp [e]

end Go.Proofs.Ytcnbnhoeobdbnaa
