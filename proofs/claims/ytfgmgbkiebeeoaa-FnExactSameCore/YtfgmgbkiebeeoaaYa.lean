import Derived.Test.YtfgmgbkiebeeoaaKa
import Derived.Test.YtfgmgbkiebeeoaaUv
import Derived.Laws.StructEq
import Derived.Laws.Small
import Derived.Maps.OwnSet
namespace Go.Proofs.Ytfgmgbkiebeeoaa
open Go.RowKit Go.Joins Go.MapKept Go.ChangeMaps

/-- A block of cells of which none is frozen. -/
structure LiveB (w : World) (c : Nat) : Prop where
  fr : ∀ j, w.frozen? ⟨c, j, none⟩ = false
  sh : ∃ t n, w.shape? c = some (t, n)

theorem LiveB.at {w : World} {a : Addr} (h : LiveB w a.block) : w.frozen? a = false := by
  have := h.fr a.off
  simpa [World.frozen?] using this

theorem LiveB.kept {A B : World} {S : Nat → Prop} {c : Nat} (h : LiveB A c) (k : Kept S A B) (hc : c < A.heap.size) (hs : S c) : LiveB B c := by
  have e := k.block c hc hs
  refine ⟨fun j => ?_, ?_⟩
  · rw [k.frozen (p := ⟨c, j, none⟩) hc hs]
    exact h.fr j
  · obtain ⟨t, n, hx⟩ := h.sh
    refine ⟨t, n, ?_⟩
    unfold World.shape? at hx ⊢
    rw [e]
    exact hx

theorem LiveB.of {W : World} {b o : Nat} {v : Value} (hf : ∀ j, W.frozen? ⟨b, j, none⟩ = false) (hc : W.cell? ⟨b, o, none⟩ = some v) : LiveB W b := by
  refine ⟨hf, ?_⟩
  unfold World.cell? at hc
  unfold World.shape?
  cases h : W.heap[b]? with
  | none => simp [h] at hc
  | some ob =>
    cases ob <;> simp_all

theorem LiveB.lt {A : World} {b : Nat} (h : LiveB A b) : b < A.heap.size := by
  obtain ⟨t, n, e⟩ := h.sh
  unfold World.shape? at e
  cases h2 : A.heap[b]? with
  | none => simp [h2] at e
  | some o => exact (Array.getElem?_eq_some_iff.1 h2).1

theorem LiveB.all {A B : World} {c : Nat} (h : LiveB A c) (k : Kept (fun _ => True) A B) : LiveB B c := h.kept k h.lt trivial

theorem sameAddr_ne {P : Program} {w : World} {a b : Addr} (hne : a.block ≠ b.block) (ha : LiveB w a.block) (hb : LiveB w b.block) : (sameAddr a b).run P w = .ok false w := by
  obtain ⟨t, n, hs⟩ := ha.sh
  obtain ⟨t', n', hs'⟩ := hb.sh
  have h1 := ha.at
  have h2 := hb.at
  have h3 := ha.fr n
  have h4 := hb.fr n'
  simp [sameAddr, hne, h1, h2, h3, h4, noView, viewAt, mayBeOne, stringish, hs, hs']

theorem sameAddr_in {P : Program} {w : World} (b o o' : Nat) : (sameAddr ⟨b, o, none⟩ ⟨b, o', none⟩).run P w = .ok (decide (o = o')) w := by
  by_cases e : o = o'
  · subst e
    simp [sameAddr]
  · have : ((⟨b, o, none⟩ : Addr) == ⟨b, o', none⟩) = false := by
      apply beq_eq_false_iff_ne.2
      intro h
      cases h
      exact e rfl
    simp [sameAddr, this, e]

/-- The key of a thing by where it lies. -/
def kp (x : Nat × Nat) : Value := .pointer (some ⟨x.1, x.2, none⟩)
/-- A spot. -/
def vp (v : Nat × Nat) : Value := .agg #[.int .i64 v.1, .int .i64 v.2]

theorem addr_cmp {P : Program} {w : World} (x y : Nat × Nat) (hx : LiveB w x.1) (hy : LiveB w y.1) : (sameAddr ⟨x.1, x.2, none⟩ ⟨y.1, y.2, none⟩).run P w = .ok (decide (x = y)) w := by
  obtain ⟨b, o⟩ := x
  obtain ⟨b', o'⟩ := y
  by_cases e : b = b'
  · subst e
    rw [sameAddr_in]
    simp
  · rw [sameAddr_ne (by exact e) hx hy]
    simp [e]

/-- What a map has at a key. -/
def getP (x : Nat × Nat) : List ((Nat × Nat) × (Nat × Nat)) → Option (Nat × Nat)
  | [] => none
  | p :: r => if p.1 = x then some p.2 else getP x r

/-- A map in block M whose keys are things by where they lie. -/
def MP (w : World) (M : Nat) (kv : List ((Nat × Nat) × (Nat × Nat))) : Prop :=
  ∃ es clock, w.heap[M]? = some (.map es clock) ∧ es.toList.map (fun e => (e.key, e.val)) = kv.map (fun p => (kp p.1, vp p.2)) ∧ (es.toList.map (·.born)).Nodup ∧ ∀ x ∈ es.toList, x.born < clock

theorem MP.lt {w : World} {M : Nat} {kv : List ((Nat × Nat) × (Nat × Nat))} (h : MP w M kv) : M < w.heap.size := by
  obtain ⟨es, c, h1, -⟩ := h
  exact (Array.getElem?_eq_some_iff.1 h1).1
theorem MP.kept {w w' : World} {M : Nat} {kv : List ((Nat × Nat) × (Nat × Nat))} {S : Nat → Prop} (h : MP w M kv) (k : Kept S w w') (hS : S M) : MP w' M kv := by
  have hl := h.lt
  obtain ⟨es, c, h1, h2⟩ := h
  exact ⟨es, c, (k.block M hl hS).trans h1, h2⟩
theorem MP.start (w : World) : MP (w.alloc (.map #[] 0)) w.heap.size [] := ⟨#[], 0, (MapKept.heap_alloc w _).1, rfl, by simp, by simp⟩

theorem now_none (x y : Nat × Nat) (d : TypeDesc) : Instr.sameNow d (kp x) (kp y) = none := by
  cases d <;> rfl

theorem stays {w : World} (x : Nat × Nat) : (Instr.keyThatStays (kp x) (kp x)).run Try.prog w = .ok (kp x) w := by
  have : Instr.sameBits 10000 (kp x) (kp x) = true := by
    simp [kp, Instr.sameBits]
  simp [Instr.keyThatStays, this]

theorem key_cmpK {w : World} (x y : Nat × Nat) (hx : LiveB w x.1) (hy : LiveB w y.1) : (Op.equalIn 10000 87 (kp x) (kp y)).run Try.prog w = .ok (decide (x = y)) w := by
  have h := addr_cmp (P := Try.prog) (w := w) x y hx hy
  have : ∀ n, (Op.equalIn (n + 1) 87 (kp x) (kp y)).run Try.prog w = .ok (decide (x = y)) w := fun n => by
    simp [go_sem, Op.equalIn, kp, h]
  exact this 9999

theorem find_askK {w : World} (x : Nat × Nat) (hx : LiveB w x.1) : ∀ (es : List MapEntry) (kv : List ((Nat × Nat) × (Nat × Nat))) (i : Nat), es.map (fun e => (e.key, e.val)) = kv.map (fun p => (kp p.1, vp p.2)) → (∀ p ∈ kv, LiveB w p.1.1) →
    (getP x kv = none ∧ (Instr.findAsking 87 (kp x) es i).run Try.prog w = .ok none w) ∨
    ∃ j v, getP x kv = some v ∧ (Instr.findAsking 87 (kp x) es i).run Try.prog w = .ok (some (i + j, vp v)) w
  | [], kv, i, h, _ => by
    have e : kv = [] := by
      cases kv with
      | nil => rfl
      | cons _ _ => simp at h
    subst e
    exact .inl ⟨rfl, by simp [Instr.findAsking]⟩
  | e :: es, kv, i, h, hl => by
    cases kv with
    | nil => simp at h
    | cons p kv =>
      simp only [List.map_cons, List.cons.injEq, Prod.mk.injEq] at h
      obtain ⟨⟨h1, h2⟩, h3⟩ := h
      have hc := key_cmpK x p.1 hx (hl p List.mem_cons_self)
      have ih := find_askK x hx es kv (i + 1) h3 (fun q hq => hl q (List.mem_cons_of_mem _ hq))
      by_cases hp : p.1 = x
      · have hd : decide (x = p.1) = true := by simp [hp]
        rw [hd] at hc
        refine .inr ⟨0, p.2, by simp [getP, hp], ?_⟩
        unfold Instr.findAsking
        simp [Op.equal, Op.maxDepth, h1, hc, h2]
      · have hd : decide (x = p.1) = false := by simp; exact fun e => hp e.symm
        rw [hd] at hc
        rcases ih with ⟨g1, g2⟩ | ⟨j, v, g1, g2⟩
        · refine .inl ⟨by simp [getP, hp, g1], ?_⟩
          unfold Instr.findAsking
          simp [Op.equal, Op.maxDepth, h1, hc, g2]
        · refine .inr ⟨j + 1, v, by simp [getP, hp, g1], ?_⟩
          unfold Instr.findAsking
          have ej : i + 1 + j = i + (j + 1) := by omega
          rw [ej] at g2
          simp [Op.equal, Op.maxDepth, h1, hc, g2]

theorem find_keyK {w : World} (x : Nat × Nat) (es : List MapEntry) (kv : List ((Nat × Nat) × (Nat × Nat))) (h : es.map (fun e => (e.key, e.val)) = kv.map (fun p => (kp p.1, vp p.2))) :
    (Instr.findKey 87 (kp x) es).run Try.prog w = (Instr.findAsking 87 (kp x) es 0).run Try.prog w := by
  unfold Instr.findKey
  cases es with
  | nil => simp [go_sem, Instr.findNow, Instr.findAsking]
  | cons e es =>
    cases kv with
    | nil => simp at h
    | cons p kv =>
      simp only [List.map_cons, List.cons.injEq, Prod.mk.injEq] at h
      simp [go_sem, Instr.findNow, h.1.1, now_none]

theorem check_keyK {w : World} (x : Nat × Nat) (em : Bool) : (Instr.checkKey em 10000 87 (kp x)).run Try.prog w = .ok () w := by
  have : ∀ n, (Instr.checkKey em (n + 1) 87 (kp x)).run Try.prog w = .ok () w := fun n => by
    simp [go_sem, Instr.checkKey, kp]
  exact this 9999

theorem MP.hitK {w : World} {M : Nat} {kv : List ((Nat × Nat) × (Nat × Nat))} (h : MP w M kv) (hl : ∀ p ∈ kv, LiveB w p.1.1) (x : Nat × Nat) (hx : LiveB w x.1) {v : Nat × Nat} (hv : getP x kv = some v) (ok : Bool) : (Instr.lookup 63 (.map (some M)) (kp x) ok).run Try.prog w = .ok (if ok then .tuple #[vp v, .bool true] else vp v) w := by
  obtain ⟨es, c, h1, h2, -⟩ := h
  have hf := find_keyK (w := w) x es.toList kv h2
  rcases find_askK x hx es.toList kv 0 h2 hl with ⟨g1, g2⟩ | ⟨j, u, g1, g2⟩
  · rw [hv] at g1; cases g1
  · rw [hv] at g1
    have e : v = u := Option.some.inj g1
    subst e
    rw [g2] at hf
    unfold Instr.lookup
    cases ok <;> simp [run_underlying Try.underlying63, MapKept.run_getObj_map h1, check_keyK, hf]

theorem MP.missK {w : World} {M : Nat} {kv : List ((Nat × Nat) × (Nat × Nat))} (h : MP w M kv) (hl : ∀ p ∈ kv, LiveB w p.1.1) (x : Nat × Nat) (hx : LiveB w x.1) (hv : getP x kv = none) (ok : Bool) : (Instr.lookup 63 (.map (some M)) (kp x) ok).run Try.prog w = .ok (if ok then .tuple #[vp (0, 0), .bool false] else vp (0, 0)) w := by
  obtain ⟨es, c, h1, h2, -⟩ := h
  have hf := find_keyK (w := w) x es.toList kv h2
  rcases find_askK x hx es.toList kv 0 h2 hl with ⟨g1, g2⟩ | ⟨j, u, g1, g2⟩
  · rw [g2] at hf
    unfold Instr.lookup
    cases ok <;> simp [run_underlying Try.underlying63, MapKept.run_getObj_map h1, check_keyK, hf, vp]
  · rw [hv] at g1; cases g1

theorem MP.nilK {w : World} (x : Nat × Nat) (ok : Bool) : (Instr.lookup 63 (.map none) (kp x) ok).run Try.prog w = .ok (if ok then .tuple #[vp (0, 0), .bool false] else vp (0, 0)) w := by
  have hf : (Instr.findKey 87 (kp x) []).run Try.prog w = .ok none w := by
    rw [find_keyK (w := w) x [] [] rfl]
    simp [Instr.findAsking]
  unfold Instr.lookup
  cases ok <;> simp [run_underlying Try.underlying63, check_keyK, vp, hf]

theorem MP.putK {w : World} {M : Nat} {kv : List ((Nat × Nat) × (Nat × Nat))} (h : MP w M kv) (hl : ∀ p ∈ kv, LiveB w p.1.1) (x : Nat × Nat) (hx : LiveB w x.1) (hv : getP x kv = none) (v : Nat × Nat) : ∃ w', (Instr.mapUpdate 63 (.map (some M)) (kp x) (vp v)).run Try.prog w = .ok () w' ∧ MP w' M (kv ++ [(x, v)]) ∧ w.grownBy w' (some M) := by
  obtain ⟨es, c, h1, h2, h3, h4⟩ := h
  have hf := find_keyK (w := w) x es.toList kv h2
  rcases find_askK x hx es.toList kv 0 h2 hl with ⟨g1, g2⟩ | ⟨j, u, g1, g2⟩
  · rw [g2] at hf
    refine ⟨ChangeMaps.setBlock w M (.map (es.push { key := kp x, val := vp v, born := c }) (c + 1)), ?_, ?_, ?_⟩
    · unfold Instr.mapUpdate
      simp [run_underlying Try.underlying63, MapKept.run_getObj_map h1, check_keyK, hf, MapKept.run_setObj_map _ h1, Result.andThen, ChangeMaps.setBlock]
    · refine ⟨_, _, heap_setBlock_same h1 _, by simp [h2], ?_, fun y hy => ?_⟩
      · rw [Array.toList_push, List.map_append]
        refine List.nodup_append.2 ⟨h3, by simp, fun a ha b hb => ?_⟩
        obtain ⟨z, hz, rfl⟩ := List.mem_map.1 ha
        have hb' : b = c := by simpa using hb
        have := h4 z hz
        omega
      · rw [Array.toList_push] at hy
        rcases List.mem_append.1 hy with hy | hy
        · have := h4 y hy
          omega
        · have e : y = { key := kp x, val := vp v, born := c } := by simpa using hy
          rw [e]
          show c < c + 1
          omega
    · exact ⟨rfl, rfl, rfl, by simp [ChangeMaps.setBlock], fun i _ hi => heap_setBlock_other h1 _ (fun e => hi (by rw [e]))⟩
  · rw [hv] at g1; cases g1

theorem run_makeMapK (w : World) : (Instr.makeMap 63 none).run Try.prog w = .ok (.map (some w.heap.size)) (w.alloc (.map #[] 0)) := run_makeMap ..

theorem key_cmpA {w : World} (x y : Nat × Nat) (hx : LiveB w x.1) (hy : LiveB w y.1) : (Op.equalIn 10000 100 (kp x) (kp y)).run Try.prog w = .ok (decide (x = y)) w := by
  have h := addr_cmp (P := Try.prog) (w := w) x y hx hy
  have : ∀ n, (Op.equalIn (n + 1) 100 (kp x) (kp y)).run Try.prog w = .ok (decide (x = y)) w := fun n => by
    simp [go_sem, Op.equalIn, kp, h]
  exact this 9999

theorem find_askA {w : World} (x : Nat × Nat) (hx : LiveB w x.1) : ∀ (es : List MapEntry) (kv : List ((Nat × Nat) × (Nat × Nat))) (i : Nat), es.map (fun e => (e.key, e.val)) = kv.map (fun p => (kp p.1, vp p.2)) → (∀ p ∈ kv, LiveB w p.1.1) →
    (getP x kv = none ∧ (Instr.findAsking 100 (kp x) es i).run Try.prog w = .ok none w) ∨
    ∃ j v, getP x kv = some v ∧ (Instr.findAsking 100 (kp x) es i).run Try.prog w = .ok (some (i + j, vp v)) w
  | [], kv, i, h, _ => by
    have e : kv = [] := by
      cases kv with
      | nil => rfl
      | cons _ _ => simp at h
    subst e
    exact .inl ⟨rfl, by simp [Instr.findAsking]⟩
  | e :: es, kv, i, h, hl => by
    cases kv with
    | nil => simp at h
    | cons p kv =>
      simp only [List.map_cons, List.cons.injEq, Prod.mk.injEq] at h
      obtain ⟨⟨h1, h2⟩, h3⟩ := h
      have hc := key_cmpA x p.1 hx (hl p List.mem_cons_self)
      have ih := find_askA x hx es kv (i + 1) h3 (fun q hq => hl q (List.mem_cons_of_mem _ hq))
      by_cases hp : p.1 = x
      · have hd : decide (x = p.1) = true := by simp [hp]
        rw [hd] at hc
        refine .inr ⟨0, p.2, by simp [getP, hp], ?_⟩
        unfold Instr.findAsking
        simp [Op.equal, Op.maxDepth, h1, hc, h2]
      · have hd : decide (x = p.1) = false := by simp; exact fun e => hp e.symm
        rw [hd] at hc
        rcases ih with ⟨g1, g2⟩ | ⟨j, v, g1, g2⟩
        · refine .inl ⟨by simp [getP, hp, g1], ?_⟩
          unfold Instr.findAsking
          simp [Op.equal, Op.maxDepth, h1, hc, g2]
        · refine .inr ⟨j + 1, v, by simp [getP, hp, g1], ?_⟩
          unfold Instr.findAsking
          have ej : i + 1 + j = i + (j + 1) := by omega
          rw [ej] at g2
          simp [Op.equal, Op.maxDepth, h1, hc, g2]

theorem find_keyA {w : World} (x : Nat × Nat) (es : List MapEntry) (kv : List ((Nat × Nat) × (Nat × Nat))) (h : es.map (fun e => (e.key, e.val)) = kv.map (fun p => (kp p.1, vp p.2))) :
    (Instr.findKey 100 (kp x) es).run Try.prog w = (Instr.findAsking 100 (kp x) es 0).run Try.prog w := by
  unfold Instr.findKey
  cases es with
  | nil => simp [go_sem, Instr.findNow, Instr.findAsking]
  | cons e es =>
    cases kv with
    | nil => simp at h
    | cons p kv =>
      simp only [List.map_cons, List.cons.injEq, Prod.mk.injEq] at h
      simp [go_sem, Instr.findNow, h.1.1, now_none]

theorem check_keyA {w : World} (x : Nat × Nat) (em : Bool) : (Instr.checkKey em 10000 100 (kp x)).run Try.prog w = .ok () w := by
  have : ∀ n, (Instr.checkKey em (n + 1) 100 (kp x)).run Try.prog w = .ok () w := fun n => by
    simp [go_sem, Instr.checkKey, kp]
  exact this 9999

theorem MP.hitA {w : World} {M : Nat} {kv : List ((Nat × Nat) × (Nat × Nat))} (h : MP w M kv) (hl : ∀ p ∈ kv, LiveB w p.1.1) (x : Nat × Nat) (hx : LiveB w x.1) {v : Nat × Nat} (hv : getP x kv = some v) (ok : Bool) : (Instr.lookup 68 (.map (some M)) (kp x) ok).run Try.prog w = .ok (if ok then .tuple #[vp v, .bool true] else vp v) w := by
  obtain ⟨es, c, h1, h2, -⟩ := h
  have hf := find_keyA (w := w) x es.toList kv h2
  rcases find_askA x hx es.toList kv 0 h2 hl with ⟨g1, g2⟩ | ⟨j, u, g1, g2⟩
  · rw [hv] at g1; cases g1
  · rw [hv] at g1
    have e : v = u := Option.some.inj g1
    subst e
    rw [g2] at hf
    unfold Instr.lookup
    cases ok <;> simp [run_underlying Try.underlying68, MapKept.run_getObj_map h1, check_keyA, hf]

theorem MP.missA {w : World} {M : Nat} {kv : List ((Nat × Nat) × (Nat × Nat))} (h : MP w M kv) (hl : ∀ p ∈ kv, LiveB w p.1.1) (x : Nat × Nat) (hx : LiveB w x.1) (hv : getP x kv = none) (ok : Bool) : (Instr.lookup 68 (.map (some M)) (kp x) ok).run Try.prog w = .ok (if ok then .tuple #[vp (0, 0), .bool false] else vp (0, 0)) w := by
  obtain ⟨es, c, h1, h2, -⟩ := h
  have hf := find_keyA (w := w) x es.toList kv h2
  rcases find_askA x hx es.toList kv 0 h2 hl with ⟨g1, g2⟩ | ⟨j, u, g1, g2⟩
  · rw [g2] at hf
    unfold Instr.lookup
    cases ok <;> simp [run_underlying Try.underlying68, MapKept.run_getObj_map h1, check_keyA, hf, vp]
  · rw [hv] at g1; cases g1

theorem MP.nilA {w : World} (x : Nat × Nat) (ok : Bool) : (Instr.lookup 68 (.map none) (kp x) ok).run Try.prog w = .ok (if ok then .tuple #[vp (0, 0), .bool false] else vp (0, 0)) w := by
  have hf : (Instr.findKey 100 (kp x) []).run Try.prog w = .ok none w := by
    rw [find_keyA (w := w) x [] [] rfl]
    simp [Instr.findAsking]
  unfold Instr.lookup
  cases ok <;> simp [run_underlying Try.underlying68, check_keyA, vp, hf]

theorem MP.putA {w : World} {M : Nat} {kv : List ((Nat × Nat) × (Nat × Nat))} (h : MP w M kv) (hl : ∀ p ∈ kv, LiveB w p.1.1) (x : Nat × Nat) (hx : LiveB w x.1) (hv : getP x kv = none) (v : Nat × Nat) : ∃ w', (Instr.mapUpdate 68 (.map (some M)) (kp x) (vp v)).run Try.prog w = .ok () w' ∧ MP w' M (kv ++ [(x, v)]) ∧ w.grownBy w' (some M) := by
  obtain ⟨es, c, h1, h2, h3, h4⟩ := h
  have hf := find_keyA (w := w) x es.toList kv h2
  rcases find_askA x hx es.toList kv 0 h2 hl with ⟨g1, g2⟩ | ⟨j, u, g1, g2⟩
  · rw [g2] at hf
    refine ⟨ChangeMaps.setBlock w M (.map (es.push { key := kp x, val := vp v, born := c }) (c + 1)), ?_, ?_, ?_⟩
    · unfold Instr.mapUpdate
      simp [run_underlying Try.underlying68, MapKept.run_getObj_map h1, check_keyA, hf, MapKept.run_setObj_map _ h1, Result.andThen, ChangeMaps.setBlock]
    · refine ⟨_, _, heap_setBlock_same h1 _, by simp [h2], ?_, fun y hy => ?_⟩
      · rw [Array.toList_push, List.map_append]
        refine List.nodup_append.2 ⟨h3, by simp, fun a ha b hb => ?_⟩
        obtain ⟨z, hz, rfl⟩ := List.mem_map.1 ha
        have hb' : b = c := by simpa using hb
        have := h4 z hz
        omega
      · rw [Array.toList_push] at hy
        rcases List.mem_append.1 hy with hy | hy
        · have := h4 y hy
          omega
        · have e : y = { key := kp x, val := vp v, born := c } := by simpa using hy
          rw [e]
          show c < c + 1
          omega
    · exact ⟨rfl, rfl, rfl, by simp [ChangeMaps.setBlock], fun i _ hi => heap_setBlock_other h1 _ (fun e => hi (by rw [e]))⟩
  · rw [hv] at g1; cases g1

theorem run_makeMapA (w : World) : (Instr.makeMap 68 none).run Try.prog w = .ok (.map (some w.heap.size)) (w.alloc (.map #[] 0)) := run_makeMap ..


end Go.Proofs.Ytfgmgbkiebeeoaa
