import Derived.Test.YtanjgmmkodlffaaTb
import Derived.Laws.StructEq
import Derived.Laws.Small
import Derived.Maps.OwnSet
namespace Go.Proofs.Ytanjgmmkodlffaa
open Go.RowKit Go.Joins Go.MapKept Go.ChangeMaps

theorem Box4.kept {A B : World} {b : Nat} {x i y z : Value} {S : Nat → Prop} (h : Box4 A b x i y z) (k : Kept S A B) (hb : S b) : Box4 B b x i y z :=
  ⟨Nat.lt_of_lt_of_le h.lt k.size, (k.cell (p := ⟨b, 0, none⟩) h.lt hb).trans h.c0, (k.cell (p := ⟨b, 1, none⟩) h.lt hb).trans h.ci, (k.cell (p := ⟨b, 2, none⟩) h.lt hb).trans h.c1, (k.cell (p := ⟨b, 3, none⟩) h.lt hb).trans h.c2,
    (k.frozen (p := ⟨b, 0, none⟩) h.lt hb).trans h.f0, (k.frozen (p := ⟨b, 1, none⟩) h.lt hb).trans h.fi, (k.frozen (p := ⟨b, 2, none⟩) h.lt hb).trans h.f1, (k.frozen (p := ⟨b, 3, none⟩) h.lt hb).trans h.f2⟩

/-- A block of cells of which none is frozen. -/
structure LiveB (w : World) (c : Nat) : Prop where
  fr : ∀ j, w.frozen? ⟨c, j, none⟩ = false
  sh : ∃ t n, w.shape? c = some (t, n)

theorem LiveB.at {w : World} {a : Addr} (h : LiveB w a.block) : w.frozen? a = false := by
  have := h.fr a.off
  simpa [World.frozen?] using this

theorem sameAddr_ne {P : Program} {w : World} {a b : Addr} (hne : a.block ≠ b.block) (ha : LiveB w a.block) (hb : LiveB w b.block) : (sameAddr a b).run P w = .ok false w := by
  obtain ⟨t, n, hs⟩ := ha.sh
  obtain ⟨t', n', hs'⟩ := hb.sh
  have h1 := ha.at
  have h2 := hb.at
  have h3 := ha.fr n
  have h4 := hb.fr n'
  simp [sameAddr, hne, h1, h2, h3, h4, noView, viewAt, mayBeOne, stringish, hs, hs']

theorem ptr_ne {w : World} {a b c d : Addr} (hne : a.block ≠ c.block) (ha : LiveB w a.block) (hc : LiveB w c.block) (dd : Nat) :
    (Op.equalIn (dd + 1 + 1) 76 (.agg #[.pointer (some a), .pointer (some b)]) (.agg #[.pointer (some c), .pointer (some d)])).run Try.prog w = .ok false w := by
  have hp : Try.prog.stoodInHeld 76 = false := by kernel_rfl
  rw [run_equalIn_agg (hp := hp) (ht := by simp [go_sem])]
  simp [go_sem, Op.equalIn, sameAddr_ne hne ha hc]

/-- The map in block M has keys whose left lists lie in blocks of Bs. -/
def LM (w : World) (M : Nat) (Bs : List Nat) : Prop :=
  ∃ es clock, w.heap[M]? = some (.map es clock) ∧ ∀ e ∈ es.toList, ∃ a b : Addr, e.key = .agg #[.pointer (some a), .pointer (some b)] ∧ a.block ∈ Bs

theorem LM.lt {w : World} {M : Nat} {Bs : List Nat} (h : LM w M Bs) : M < w.heap.size := by
  obtain ⟨es, c, h1, -⟩ := h
  exact (Array.getElem?_eq_some_iff.1 h1).1

theorem LM.kept {w w' : World} {M : Nat} {Bs : List Nat} {S : Nat → Prop} (h : LM w M Bs) (k : Kept S w w') (hS : S M) : LM w' M Bs := by
  have hl := h.lt
  obtain ⟨es, c, h1, h2⟩ := h
  exact ⟨es, c, (k.block M hl hS).trans h1, h2⟩

theorem LM.start (w : World) : LM (w.alloc (.map #[] 0)) w.heap.size [] := ⟨#[], 0, (MapKept.heap_alloc w _).1, fun e he => by simp at he⟩

theorem find_none {w : World} {a b : Addr} {Bs : List Nat} (hx : a.block ∉ Bs) (ha : LiveB w a.block) (hB : ∀ c ∈ Bs, LiveB w c) : ∀ (es : List MapEntry) (i : Nat), (∀ e ∈ es, ∃ a b : Addr, e.key = .agg #[.pointer (some a), .pointer (some b)] ∧ a.block ∈ Bs) →
    (Instr.findAsking 76 (.agg #[.pointer (some a), .pointer (some b)]) es i).run Try.prog w = .ok none w
  | [], i, _ => by simp [Instr.findAsking]
  | e :: es, i, h => by
    obtain ⟨c, d, he, hc⟩ := h e List.mem_cons_self
    have h1 := ptr_ne (a := a) (b := b) (c := c) (d := d) (fun e => hx (e ▸ hc)) ha (hB _ hc) 9998
    have h2 := find_none (b := b) hx ha hB es (i + 1) (fun x hx => h x (List.mem_cons_of_mem _ hx))
    unfold Instr.findAsking
    simp [Op.equal, Op.maxDepth, he, h1, h2]

theorem findKey_none {w : World} {a b : Addr} {Bs : List Nat} (hx : a.block ∉ Bs) (ha : LiveB w a.block) (hB : ∀ c ∈ Bs, LiveB w c) (es : List MapEntry) (h : ∀ e ∈ es, ∃ a b : Addr, e.key = .agg #[.pointer (some a), .pointer (some b)] ∧ a.block ∈ Bs) :
    (Instr.findKey 76 (.agg #[.pointer (some a), .pointer (some b)]) es).run Try.prog w = .ok none w := by
  have h2 := find_none (b := b) hx ha hB es 0 h
  unfold Instr.findKey
  cases es with
  | nil => simp [go_sem, Instr.findNow]
  | cons e es =>
    obtain ⟨c, d, he, hc⟩ := h e List.mem_cons_self
    simp [go_sem, Instr.findNow, Instr.sameNow, he, h2]

theorem checkKey_okn {w : World} {a b : Addr} (em : Bool) (n : Nat) : (Instr.checkKey em (n + 1 + 1) 76 (.agg #[.pointer (some a), .pointer (some b)])).run Try.prog w = .ok () w := by
  simp [go_sem, Instr.checkKey]

theorem checkKey_ok {w : World} {a b : Addr} (em : Bool) : (Instr.checkKey em 10000 76 (.agg #[.pointer (some a), .pointer (some b)])).run Try.prog w = .ok () w := checkKey_okn em 9998

theorem LM.look {w : World} {M : Nat} {Bs : List Nat} (h : LM w M Bs) {a b : Addr} (hx : a.block ∉ Bs) (ha : LiveB w a.block) (hB : ∀ c ∈ Bs, LiveB w c) :
    (Instr.lookup 72 (.map (some M)) (.agg #[.pointer (some a), .pointer (some b)]) false).run Try.prog w = .ok (.int .i64 0) w := by
  obtain ⟨es, c, h1, h2⟩ := h
  have hf := findKey_none (b := b) hx ha hB es.toList h2
  unfold Instr.lookup
  simp [run_underlying Try.underlying72, MapKept.run_getObj_map h1, checkKey_ok, hf]

theorem LM.put {w : World} {M : Nat} {Bs : List Nat} (h : LM w M Bs) {a b : Addr} (hx : a.block ∉ Bs) (ha : LiveB w a.block) (hB : ∀ c ∈ Bs, LiveB w c) (v : Value) :
    ∃ w', (Instr.mapUpdate 72 (.map (some M)) (.agg #[.pointer (some a), .pointer (some b)]) v).run Try.prog w = .ok () w' ∧ LM w' M (a.block :: Bs) ∧ w.grownBy w' (some M) := by
  obtain ⟨es, c, h1, h2⟩ := h
  have hf := findKey_none (b := b) hx ha hB es.toList h2
  refine ⟨ChangeMaps.setBlock w M (.map (es.push { key := .agg #[.pointer (some a), .pointer (some b)], val := v, born := c }) (c + 1)), ?_, ?_, ?_⟩
  · unfold Instr.mapUpdate
    simp [run_underlying Try.underlying72, MapKept.run_getObj_map h1, checkKey_ok, hf, MapKept.run_setObj_map _ h1, Result.andThen, ChangeMaps.setBlock]
  · refine ⟨_, _, heap_setBlock_same h1 _, fun e he => ?_⟩
    simp only [Array.toList_push, List.mem_append, List.mem_singleton] at he
    rcases he with he | rfl
    · obtain ⟨a', b', e1, e2⟩ := h2 e he
      exact ⟨a', b', e1, List.mem_cons_of_mem _ e2⟩
    · exact ⟨a, b, rfl, List.mem_cons_self⟩
  · exact ⟨rfl, rfl, rfl, by simp [ChangeMaps.setBlock], fun i _ hi => heap_setBlock_other h1 _ (fun e => hi (by rw [e]))⟩

end Go.Proofs.Ytanjgmmkodlffaa
