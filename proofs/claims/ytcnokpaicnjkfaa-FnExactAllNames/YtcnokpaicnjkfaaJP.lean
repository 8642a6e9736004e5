import Derived.Test.YtcnokpaicnjkfaaKa
import Derived.Test.YtcnokpaicnjkfaaUt
import Derived.Deep.RegionHeld3
import Derived.Deep.DeepCutAuto
import Derived.Maps.OwnSet
namespace Go.Proofs.Ytcnokpaicnjkfaa.F
open Go.RowKit Go.Joins
end Go.Proofs.Ytcnokpaicnjkfaa.F

namespace Go.Proofs.Ytcnokpaicnjkfaa.F
open Go.RowKit Go.Joins Go.MapKept Go.ChangeMaps

/-- What a map has at a key. -/
def getK (x : ByteArray) : List (ByteArray × Value) → Option Value
  | [] => none
  | p :: r => if p.1 = x then some p.2 else getK x r

/-- A map in block M whose keys are texts. -/
def MS (w : World) (M : Nat) (kv : List (ByteArray × Value)) : Prop :=
  ∃ es clock, w.heap[M]? = some (.map es clock) ∧ es.toList.map (fun e => (e.key, e.val)) = kv.map (fun p => (Value.string p.1, p.2))

theorem MS.lt {w : World} {M : Nat} {kv : List (ByteArray × Value)} (h : MS w M kv) : M < w.heap.size := by
  obtain ⟨es, c, h1, -⟩ := h
  exact (Array.getElem?_eq_some_iff.1 h1).1

theorem MS.kept {w w' : World} {M : Nat} {kv : List (ByteArray × Value)} {S : Nat → Prop} (h : MS w M kv) (k : Kept S w w') (hS : S M) : MS w' M kv := by
  have hl := h.lt
  obtain ⟨es, c, h1, h2⟩ := h
  exact ⟨es, c, (k.block M hl hS).trans h1, h2⟩

theorem MS.start (w : World) : MS (w.alloc (.map #[] 0)) w.heap.size [] := ⟨#[], 0, (MapKept.heap_alloc w _).1, rfl⟩

theorem ba_beq {a b : ByteArray} : (a == b) = true ↔ a = b := by
  cases a with
  | mk x =>
    cases b with
    | mk y =>
      constructor
      · intro h
        have h2 : (x == y) = true := h
        rw [eq_of_beq h2]
      · intro h
        cases h
        show (x == x) = true
        exact beq_self_eq_true x

theorem find_now (x : ByteArray) : ∀ (es : List MapEntry) (kv : List (ByteArray × Value)) (i : Nat), es.map (fun e => (e.key, e.val)) = kv.map (fun p => (Value.string p.1, p.2)) → ∃ r, Instr.findNow .string (.string x) es i = some r ∧ r.map Prod.snd = getK x kv
  | [], kv, i, h => by
    have e : kv = [] := by
      cases kv with
      | nil => rfl
      | cons _ _ => simp at h
    subst e
    exact ⟨none, rfl, rfl⟩
  | e :: es, kv, i, h => by
    cases kv with
    | nil => simp at h
    | cons p kv =>
      simp only [List.map_cons, List.cons.injEq, Prod.mk.injEq] at h
      obtain ⟨⟨h1, h2⟩, h3⟩ := h
      obtain ⟨r, g1, g2⟩ := find_now x es kv (i + 1) h3
      by_cases hx : p.1 = x
      · refine ⟨some (i, e.val), ?_, ?_⟩
        · have hb : (x == p.1) = true := ba_beq.2 hx.symm
          simp only [Instr.findNow, h1, Instr.sameNow, hb]
        · simp only [getK, if_pos hx, Option.map_some, h2]
      · refine ⟨r, ?_, ?_⟩
        · have hb : (x == p.1) = false := by
            cases hh : (x == p.1) with
            | false => rfl
            | true => exact absurd (ba_beq.1 hh).symm hx
          simp only [Instr.findNow, h1, Instr.sameNow, hb]
          exact g1
        · simp only [getK, if_neg hx]
          exact g2

theorem find_key {w : World} (x : ByteArray) (es : List MapEntry) (kv : List (ByteArray × Value)) (h : es.map (fun e => (e.key, e.val)) = kv.map (fun p => (Value.string p.1, p.2))) : ∃ r, (Instr.findKey 9 (.string x) es).run Try.prog w = .ok r w ∧ r.map Prod.snd = getK x kv := by
  obtain ⟨r, g1, g2⟩ := find_now x es kv 0 h
  refine ⟨r, ?_, g2⟩
  unfold Instr.findKey
  simp [run_underlying Try.underlying9, g1]

theorem check_str {w : World} (x : ByteArray) (em : Bool) (n : Nat) : (Instr.checkKey em (n + 1) 9 (.string x)).run Try.prog w = .ok () w := by
  simp [go_sem, Instr.checkKey]

theorem check_str' {w : World} (x : ByteArray) (em : Bool) : (Instr.checkKey em 10000 9 (.string x)).run Try.prog w = .ok () w := check_str x em 9999

theorem zero3 (w : World) : (zeroValue 3).run Try.prog w = .ok (.int .i64 0) w := by kernel_rfl

theorem MS.lookL {w : World} {M : Nat} {kv : List (ByteArray × Value)} (h : MS w M kv) (x : ByteArray) {v : Value} (hv : getK x kv = some v) (ok : Bool) : (Instr.lookup 62 (.map (some M)) (.string x) ok).run Try.prog w = .ok (if ok then .tuple #[v, .bool true] else v) w := by
  obtain ⟨es, c, h1, h2⟩ := h
  obtain ⟨r, g1, g2⟩ := find_key (w := w) x es.toList kv h2
  rw [hv] at g2
  cases r with
  | none => cases g2
  | some r =>
    have e : r.2 = v := Option.some.inj g2
    unfold Instr.lookup
    cases ok <;> simp [run_underlying Try.underlying62, MapKept.run_getObj_map h1, check_str', g1, e]

theorem MS.missL {w : World} {M : Nat} {kv : List (ByteArray × Value)} (h : MS w M kv) (x : ByteArray) (hv : getK x kv = none) (ok : Bool) : (Instr.lookup 62 (.map (some M)) (.string x) ok).run Try.prog w = .ok (if ok then .tuple #[.int .i64 0, .bool false] else .int .i64 0) w := by
  obtain ⟨es, c, h1, h2⟩ := h
  obtain ⟨r, g1, g2⟩ := find_key (w := w) x es.toList kv h2
  rw [hv] at g2
  cases r with
  | some r => cases g2
  | none =>
    unfold Instr.lookup
    cases ok <;> simp [run_underlying Try.underlying62, MapKept.run_getObj_map h1, check_str', g1]

theorem MS.putL {w : World} {M : Nat} {kv : List (ByteArray × Value)} (h : MS w M kv) (x : ByteArray) (hv : getK x kv = none) (v : Value) : ∃ w', (Instr.mapUpdate 62 (.map (some M)) (.string x) v).run Try.prog w = .ok () w' ∧ MS w' M (kv ++ [(x, v)]) ∧ w.grownBy w' (some M) := by
  obtain ⟨es, c, h1, h2⟩ := h
  obtain ⟨r, g1, g2⟩ := find_key (w := w) x es.toList kv h2
  rw [hv] at g2
  cases r with
  | some r => cases g2
  | none =>
    refine ⟨ChangeMaps.setBlock w M (.map (es.push { key := .string x, val := v, born := c }) (c + 1)), ?_, ?_, ?_⟩
    · unfold Instr.mapUpdate
      simp [run_underlying Try.underlying62, MapKept.run_getObj_map h1, check_str', g1, MapKept.run_setObj_map _ h1, Result.andThen, ChangeMaps.setBlock]
    · refine ⟨_, _, heap_setBlock_same h1 _, ?_⟩
      simp [h2]
    · exact ⟨rfl, rfl, rfl, by simp [ChangeMaps.setBlock], fun i _ hi => heap_setBlock_other h1 _ (fun e => hi (by rw [e]))⟩


theorem run_makeMap36 (w : World) : (Instr.makeMap 62 none).run Try.prog w = .ok (.map (some w.heap.size)) (w.alloc (.map #[] 0)) := by
  exact run_makeMap ..

end Go.Proofs.Ytcnokpaicnjkfaa.F
