import Derived.Laws.IdiomRangeMap
import Derived.Test.YtacaihhlcaoheaaYa
namespace Go.Proofs.Ytacaihhlcaoheaa
open Go.RowKit Go.Joins

/-- The step of a range over a map, its iterator in any block. -/
theorem next_any {P : Program} (w : World) (ty : TypeId) (I bm since c0 : Nat) (seen : Array Nat) (es : Array MapEntry) (clock : Nat) (hI : w.heap[I]? = some (.mapIter (some bm) since seen c0)) (hb : w.heap[bm]? = some (.map es clock)) (hold : ∀ x ∈ es.toList, x.born < since) (hsc : since ≤ c0) :
    ((leftOf es seen).size = 0 ∧ (Instr.next (.pointer (some ⟨I, 0, none⟩)) false ty).run P w = .ok (.tuple #[.bool false]) w) ∨
    ∃ e ∈ (leftOf es seen).toList, ∃ w1 : World, (w1 = w ∨ w1 = w.drew) ∧ (Instr.next (.pointer (some ⟨I, 0, none⟩)) false ty).run P w = .ok (.tuple #[.bool true, e.key, e.val]) (ChangeMaps.setBlock w1 I (.mapIter (some bm) since (seen.push e.born) clock)) := by
  simp only [Instr.next, getObj, Sem.run_bind, Sem.run, hI, hb, Result.andThen, next_test_false seen es since c0 hold hsc, Bool.false_eq_true, if_false]
  unfold leftOf
  have hmem : ∀ x ∈ (Array.filter (fun e => !seen.contains e.born) es).toList, x.born < since := fun x hx => hold x (by simp at hx ⊢; exact hx.1)
  generalize Array.filter (fun e => !seen.contains e.born) es = L at hmem ⊢
  have e1 : L.filter (fun x => decide (x.born < since)) = L := Array.filter_eq_self.2 (fun x hx => by simpa using hmem x (by simpa using hx))
  have e2 : L.filter (fun x => decide (x.born ≥ since)) = #[] := by
    rw [Array.filter_eq_empty_iff]
    intro x hx
    have := hmem x (by simpa using hx)
    simp
    omega
  simp only [e1, e2, Array.append_empty]
  by_cases h0 : L.size = 0
  · left
    have : L = #[] := Array.eq_empty_of_size_eq_zero h0
    subst this
    refine ⟨rfl, ?_⟩
    simp [choose, Sem.run, Question.forced]
  · right
    have hne : L.isEmpty = false := by simp [Array.isEmpty, h0]
    simp only [hne, Bool.false_eq_true, if_false, Array.empty_append, Array.size_map]
    have hch : ∃ (j : Nat) (w1 : World), j < L.size ∧ (w1 = w ∨ w1 = w.drew) ∧ (choose (Question.mapNext L.size)).run P w = .ok j w1 := by
      by_cases hf : L.size ≤ 1
      · exact ⟨0, w, by omega, .inl rfl, by simp [choose, Sem.run, Question.forced, hf]⟩
      · exact ⟨_, w.drew, Nat.mod_lt _ (by omega), .inr rfl, by
          simp only [choose, Sem.run, Question.forced, decide_eq_true_eq, hf, if_false, Question.cut]
          rfl⟩
    obtain ⟨j, w1, hj, hal, hrun⟩ := hch
    refine ⟨L[j], by simp, w1, hal, ?_⟩
    have hI1 : w1.heap[I]? = some (.mapIter (some bm) since seen c0) := by
      rcases hal with rfl | rfl <;> exact hI
    have hset : ∀ o', (setObj I o').run P w1 = .ok () (ChangeMaps.setBlock w1 I o') := fun o' => by
      simp only [setObj, Sem.run, hI1]
      rfl
    simp only [hrun, Array.getElem?_map, Array.getElem?_eq_getElem hj, Option.map_some, Sem.run_bind, hset, Result.andThen]
    rfl

/-- The round's key, read behind the step. -/
theorem entry_any {P : Program} (w : World) (I bm since : Nat) (seen : Array Nat) (es : Array MapEntry) (clock : Nat) (e : MapEntry) (hI : w.heap[I]? = some (.mapIter (some bm) since (seen.push e.born) clock)) (hb : w.heap[bm]? = some (.map es clock)) (he : e ∈ es.toList) (hn : (es.toList.map (·.born)).Nodup) :
    (Instr.entry (.pointer (some ⟨I, 0, none⟩))).run P w = .ok (.tuple #[e.key, e.val]) w := by
  have hf : es.find? (·.born == e.born) = some e := by rw [← Array.find?_toList]; exact find_born e es.toList hn he
  simp only [Instr.entry, getObj, Sem.run_bind, Sem.run, hI, hb, Result.andThen, Array.back?_push, bne_self_eq_false, Bool.false_eq_true, if_false, hf]
  rfl

/-- How many entries a walk has handed out. -/
def seenN (w : World) (I : Nat) : Nat := match w.heap[I]? with
  | some (.mapIter _ _ seen _) => seen.size
  | _ => 0

/-- A walk over a map: which entries are still to come. -/
structure IW (w : World) (I M : Nat) (kv : List ((Nat × Nat) × (Nat × Nat))) (left : List (Nat × Nat)) : Prop where
  it : ∃ es clock seen, w.heap[M]? = some (.map es clock) ∧ w.heap[I]? = some (.mapIter (some M) clock seen clock) ∧ es.toList.map (fun e => (e.key, e.val)) = kv.map (fun p => (kp p.1, vp p.2)) ∧ (es.toList.map (·.born)).Nodup ∧ (∀ x ∈ es.toList, x.born < clock) ∧ (leftOf es seen).toList.map (·.key) = left.map kp
  sub : ∀ x ∈ left, ∃ p ∈ kv, p.1 = x
  num : seenN w I + left.length = kv.length

theorem IW.kept {w w' : World} {I M : Nat} {kv : List ((Nat × Nat) × (Nat × Nat))} {left : List (Nat × Nat)} {S : Nat → Prop} (h : IW w I M kv left) (k : Kept S w w') (hI : S I) (hM : S M) : IW w' I M kv left := by
  obtain ⟨⟨es, clock, seen, h1, h2, h3⟩, h4, h5⟩ := h
  have e2 := k.block I (Array.getElem?_eq_some_iff.1 h2).1 hI
  exact ⟨⟨es, clock, seen, (k.block M (Array.getElem?_eq_some_iff.1 h1).1 hM).trans h1, e2.trans h2, h3⟩, h4, by unfold seenN at h5 ⊢; rw [e2]; exact h5⟩

theorem leftOf_push (es : Array MapEntry) (seen : Array Nat) (b : Nat) : (leftOf es (seen.push b)).toList = (leftOf es seen).toList.filter (fun e => e.born != b) := by
  simp only [leftOf, Array.toList_filter, List.filter_filter]
  congr 1
  funext e
  simp only [Array.contains_push, Bool.not_or, bne]
  rw [Bool.and_comm]

theorem kp_inj {x y : Nat × Nat} (h : kp x = kp y) : x = y := by
  unfold kp at h
  obtain ⟨a, b⟩ := x
  obtain ⟨c, d⟩ := y
  simp at h
  rw [h.1, h.2]

/-- The step of the walk. -/
theorem IW.next {P : Program} {w : World} {I M : Nat} {kv : List ((Nat × Nat) × (Nat × Nat))} {left : List (Nat × Nat)} (h : IW w I M kv left) (hIM : I ≠ M) (ty : TypeId) :
    (left = [] ∧ (Instr.next (.pointer (some ⟨I, 0, none⟩)) false ty).run P w = .ok (.tuple #[.bool false]) w) ∨
    ∃ x v left' w', x ∈ left ∧ (∀ y ∈ left, y = x ∨ y ∈ left') ∧ left'.length + 1 = left.length ∧ (Instr.next (.pointer (some ⟨I, 0, none⟩)) false ty).run P w = .ok (.tuple #[.bool true, kp x, v]) w' ∧ (∀ w2, w2 = w' ∨ w2 = w'.drew → (Instr.entry (.pointer (some ⟨I, 0, none⟩))).run P w2 = .ok (.tuple #[kp x, v]) w2) ∧ IW w' I M kv left' ∧ Kept (fun d => d ≠ I) w w' := by
  obtain ⟨⟨es, clock, seen, h1, h2, h3, h4, h5, h6⟩, h7, h8⟩ := h
  rcases next_any (P := P) w ty I M clock clock seen es clock h2 h1 h5 (Nat.le_refl _) with ⟨g1, g2⟩ | ⟨e, he, w1, hw1, hrun⟩
  · refine .inl ⟨?_, g2⟩
    have : left.map kp = [] := by rw [← h6]; simp [Array.eq_empty_of_size_eq_zero g1]
    simpa using this
  · have hem : e ∈ es.toList := by
      have := he
      simp only [leftOf, Array.toList_filter, List.mem_filter] at this
      exact this.1
    obtain ⟨x, hx, hxe⟩ : ∃ x ∈ left, kp x = e.key := by
      have : e.key ∈ left.map kp := by rw [← h6]; exact List.mem_map.2 ⟨e, he, rfl⟩
      exact List.mem_map.1 this
    obtain ⟨p1, p2, hp⟩ := List.append_of_mem he
    have hnd : ((leftOf es seen).toList.map (·.born)).Nodup := by
      simp only [leftOf, Array.toList_filter]
      exact h4.sublist (List.filter_sublist.map _)
    have hlf : (leftOf es (seen.push e.born)).toList = p1 ++ p2 := by
      rw [leftOf_push, hp]
      rw [hp, List.map_append, List.map_cons] at hnd
      have hnd2 := List.nodup_append.1 hnd
      have hnd3 := List.nodup_cons.1 hnd2.2.1
      rw [List.filter_append, List.filter_cons, if_neg (by simp)]
      congr 1
      · exact List.filter_eq_self.2 (fun y hy => by
          have := hnd2.2.2 y.born (List.mem_map.2 ⟨y, hy, rfl⟩) e.born List.mem_cons_self
          simpa using this)
      · exact List.filter_eq_self.2 (fun y hy => by
          have : y.born ≠ e.born := fun e' => hnd3.1 (by rw [← e']; exact List.mem_map.2 ⟨y, hy, rfl⟩)
          simpa using this)
    have hlm : left.map kp = p1.map (·.key) ++ e.key :: p2.map (·.key) := by rw [← h6, hp]; simp
    obtain ⟨l1, l2', hl, hl1, hl2⟩ := List.map_eq_append_iff.1 hlm
    obtain ⟨x', l2, rfl, hx', hl2⟩ := List.map_eq_cons_iff.1 hl2
    have hxx : x' = x := kp_inj (hx'.trans hxe.symm)
    subst hxx
    have hk1 : Kept (fun d => d ≠ I) w (ChangeMaps.setBlock w1 I (.mapIter (some M) clock (seen.push e.born) clock)) := by
      have hh : w1.heap = w.heap := by rcases hw1 with rfl | rfl <;> rfl
      refine ⟨by rcases hw1 with rfl | rfl <;> rfl, by rcases hw1 with rfl | rfl <;> rfl, by rcases hw1 with rfl | rfl <;> rfl, by simp [ChangeMaps.setBlock, hh], fun k _ hk => ?_⟩
      show (w1.heap.setIfInBounds I _)[k]? = _
      rw [Array.getElem?_setIfInBounds_ne (fun e => hk e.symm), hh]
    have hI2 : (ChangeMaps.setBlock w1 I (.mapIter (some M) clock (seen.push e.born) clock)).heap[I]? = some (.mapIter (some M) clock (seen.push e.born) clock) := by
      have hh : w1.heap = w.heap := by rcases hw1 with rfl | rfl <;> rfl
      have hlt : I < w1.heap.size := by rw [hh]; exact (Array.getElem?_eq_some_iff.1 h2).1
      show (w1.heap.setIfInBounds I _)[I]? = _
      rw [Array.getElem?_setIfInBounds_self_of_lt hlt]
    have hM2 := (hk1.block M (Array.getElem?_eq_some_iff.1 h1).1 (fun e => hIM e.symm)).trans h1
    refine .inr ⟨x', e.val, l1 ++ l2, _, hx, fun y hy => ?_, by rw [hl]; simp; omega, by rw [hx']; exact hrun, fun w2 hw2 => ?_, ⟨⟨es, clock, seen.push e.born, hM2, hI2, h3, h4, h5, ?_⟩, fun y hy => h7 y ?_, ?_⟩, hk1⟩
    · rw [hl] at hy
      rcases List.mem_append.1 hy with hy | hy
      · exact .inr (List.mem_append.2 (.inl hy))
      · rcases List.mem_cons.1 hy with hy | hy
        · exact .inl hy
        · exact .inr (List.mem_append.2 (.inr hy))
    · rw [hx']
      rcases hw2 with rfl | rfl
      · exact entry_any _ I M clock seen es clock e hI2 hM2 hem h4
      · exact entry_any _ I M clock seen es clock e hI2 hM2 hem h4
    · rw [hlf, List.map_append, List.map_append, hl1, hl2]
    · rw [hl]
      rcases List.mem_append.1 hy with hy | hy
      · exact List.mem_append.2 (.inl hy)
      · exact List.mem_append.2 (.inr (List.mem_cons_of_mem _ hy))
    · unfold seenN at h8 ⊢
      rw [h2] at h8
      rw [hI2]
      rw [hl] at h8
      simp at h8 ⊢
      omega

/-- The walk begins. -/
theorem IW.start {w : World} {M : Nat} {kv : List ((Nat × Nat) × (Nat × Nat))} (h : MP w M kv) {P : Program} {t k e : TypeId} (ht : P.underlying t = some (.map k e)) : ∃ c, (Instr.range t (.map (some M))).run P w = .ok (.pointer (some ⟨w.heap.size, 0, none⟩)) (w.alloc (.mapIter (some M) c #[] c)) ∧ IW (w.alloc (.mapIter (some M) c #[] c)) w.heap.size M kv (kv.map Prod.fst) := by
  have hlt := h.lt
  obtain ⟨es, c, h1, h2, h3, h4⟩ := h
  have hn : (w.alloc (.mapIter (some M) c #[] c)).heap[w.heap.size]? = some (.mapIter (some M) c #[] c) := heap_alloc_new _ _
  refine ⟨c, run_range_map w t k e M es c ht h1, ⟨es, c, #[], ((Kept.alloc (fun _ => True) w (.mapIter (some M) c #[] c)).block M hlt trivial).trans h1, hn, h2, h3, h4, ?_⟩, fun x hx => ?_, ?_⟩
  · have e1 : (leftOf es #[]).toList = es.toList := by simp [leftOf]
    rw [e1]
    have := congrArg (List.map Prod.fst) h2
    simpa [List.map_map, Function.comp_def] using this
  · obtain ⟨p, hp, rfl⟩ := List.mem_map.1 hx
    exact ⟨p, hp, rfl⟩
  · unfold seenN
    rw [hn]
    simp

theorem getP_mem {x v : Nat × Nat} : ∀ {kv : List ((Nat × Nat) × (Nat × Nat))}, getP x kv = some v → (x, v) ∈ kv
  | [], h => by simp [getP] at h
  | p :: r, h => by
    unfold getP at h
    split at h
    · rename_i e
      cases h
      rw [← e]
      exact List.mem_cons_self
    · exact List.mem_cons_of_mem _ (getP_mem h)

end Go.Proofs.Ytacaihhlcaoheaa
