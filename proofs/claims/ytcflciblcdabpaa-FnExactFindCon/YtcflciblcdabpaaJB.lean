import Derived.Test.YtcflciblcdabpaaFf
namespace Go.Proofs.Ytcflciblcdabpaa
open Go.RowKit Go.Joins Go.MapKept Go.ChangeMaps

theorem LiveB.kept {A B : World} {S : Nat → Prop} {c : Nat} (h : LiveB A c) (k : Kept S A B) (hc : c < A.heap.size) (hs : S c) : LiveB B c := by
  have e := k.block c hc hs
  refine ⟨fun j => ?_, ?_⟩
  · rw [k.frozen (p := ⟨c, j, none⟩) hc hs]
    exact h.fr j
  · obtain ⟨t, n, hx⟩ := h.sh
    refine ⟨t, n, ?_⟩
    unfold World.shape? at hx ⊢
    rw [e]
    exact hx

theorem LiveB.of {W : World} {b o : Nat} {v : Value} (hf : ∀ j, W.frozen? ⟨b, j, none⟩ = false) (hc : W.cell? ⟨b, o, none⟩ = some v) : LiveB W b := by
  refine ⟨hf, ?_⟩
  unfold World.cell? at hc
  unfold World.shape?
  cases h : W.heap[b]? with
  | none => simp [h] at hc
  | some ob =>
    cases ob <;> simp_all

/-- The key of a list in block b. -/
def kval (O L : Nat → Nat) : Option Nat → Value
  | none => .agg #[.pointer none, .int .i64 0]
  | some b => .agg #[.pointer (some ⟨b, O b, none⟩), .int .i64 (L b)]

def LiveK (w : World) : Option Nat → Prop
  | none => True
  | some b => LiveB w b

theorem key_cmp (O L : Nat → Nat) {w : World} (x y : Option Nat) (hx : LiveK w x) (hy : LiveK w y) : (Op.equalIn 10000 114 (kval O L x) (kval O L y)).run Try.prog w = .ok (decide (x = y)) w := by
  cases x with
  | none =>
    cases y with
    | none => exact key_nil0 9998
    | some c => exact key_nil' 9998
  | some b =>
    cases y with
    | none => exact key_nil 9998
    | some c =>
      by_cases e : b = c
      · subst e
        have := key_eq (w := w) (a := ⟨b, O b, none⟩) (m := L b) 9998
        simpa [kval] using this
      · have := key_ne (w := w) (a := ⟨b, O b, none⟩) (c := ⟨c, O c, none⟩) (m := L b) (n := L c) e hx hy 9998
        simpa [kval, e] using this

/-- What a map has at a key. -/
def getK (x : Option Nat) : List (Option Nat × Value) → Option Value
  | [] => none
  | p :: r => if p.1 = x then some p.2 else getK x r

/-- The map with another value at a key. -/
def setK (x : Option Nat) (v : Value) : List (Option Nat × Value) → List (Option Nat × Value)
  | [] => [(x, v)]
  | p :: r => if p.1 = x then (x, v) :: r else p :: setK x v r

theorem getK_setK (x : Option Nat) (v : Value) : ∀ kv, getK x (setK x v kv) = some v
  | [] => by simp [setK, getK]
  | p :: r => by
    unfold setK
    by_cases e : p.1 = x
    · rw [if_pos e]
      simp [getK]
    · rw [if_neg e]
      unfold getK
      rw [if_neg e]
      exact getK_setK x v r

theorem getK_setK_ne (x y : Option Nat) (v : Value) (h : x ≠ y) : ∀ kv, getK y (setK x v kv) = getK y kv
  | [] => by simp [setK, getK, h]
  | p :: r => by
    unfold setK
    by_cases e : p.1 = x
    · rw [if_pos e]
      unfold getK
      rw [if_neg h, if_neg (by rw [e]; exact h)]
    · rw [if_neg e]
      unfold getK
      rw [getK_setK_ne x y v h r]

theorem setK_mem (x : Option Nat) (v : Value) : ∀ kv (p : Option Nat × Value), p ∈ setK x v kv → p.1 = x ∨ p ∈ kv
  | [], p, h => by
    simp [setK] at h
    exact .inl (by rw [h])
  | q :: r, p, h => by
    unfold setK at h
    by_cases e : q.1 = x
    · rw [if_pos e] at h
      rcases List.mem_cons.1 h with h | h
      · exact .inl (by rw [h])
      · exact .inr (List.mem_cons_of_mem _ h)
    · rw [if_neg e] at h
      rcases List.mem_cons.1 h with h | h
      · exact .inr (by rw [h]; exact List.mem_cons_self)
      · rcases setK_mem x v r p h with h | h
        · exact .inl h
        · exact .inr (List.mem_cons_of_mem _ h)

/-- A map in block M whose keys are lists. -/
def MK (O L : Nat → Nat) (w : World) (M : Nat) (kv : List (Option Nat × Value)) : Prop :=
  ∃ es clock, w.heap[M]? = some (.map es clock) ∧ es.toList.map (fun e => (e.key, e.val)) = kv.map (fun p => (kval O L p.1, p.2))

section
variable {O L : Nat → Nat} {w : World} {M : Nat} {kv : List (Option Nat × Value)}

theorem MK.lt (h : MK O L w M kv) : M < w.heap.size := by
  obtain ⟨es, c, h1, -⟩ := h
  exact (Array.getElem?_eq_some_iff.1 h1).1

theorem MK.kept {w' : World} {S : Nat → Prop} (h : MK O L w M kv) (k : Kept S w w') (hS : S M) : MK O L w' M kv := by
  have hl := h.lt
  obtain ⟨es, c, h1, h2⟩ := h
  exact ⟨es, c, (k.block M hl hS).trans h1, h2⟩

theorem MK.start (O L : Nat → Nat) (w : World) : MK O L (w.alloc (.map #[] 0)) w.heap.size [] := ⟨#[], 0, (MapKept.heap_alloc w _).1, rfl⟩

theorem find_ask (O L : Nat → Nat) {w : World} (x : Option Nat) (hx : LiveK w x) : ∀ (es : List MapEntry) (kv : List (Option Nat × Value)) (i : Nat), es.map (fun e => (e.key, e.val)) = kv.map (fun p => (kval O L p.1, p.2)) → (∀ p ∈ kv, LiveK w p.1) →
    (getK x kv = none ∧ (Instr.findAsking 114 (kval O L x) es i).run Try.prog w = .ok none w ∧ ∀ v, setK x v kv = kv ++ [(x, v)]) ∨
    ∃ j e v, getK x kv = some v ∧ (Instr.findAsking 114 (kval O L x) es i).run Try.prog w = .ok (some (i + j, v)) w ∧ es[j]? = some e ∧ e.key = kval O L x ∧ ∀ u, (es.modify j fun e => { e with key := kval O L x, val := u }).map (fun e => (e.key, e.val)) = (setK x u kv).map (fun p => (kval O L p.1, p.2))
  | [], kv, i, h, _ => by
    have e : kv = [] := by
      cases kv with
      | nil => rfl
      | cons _ _ => simp at h
    subst e
    exact .inl ⟨rfl, by simp [Instr.findAsking], fun v => rfl⟩
  | e :: es, kv, i, h, hl => by
    cases kv with
    | nil => simp at h
    | cons p kv =>
      simp only [List.map_cons, List.cons.injEq, Prod.mk.injEq] at h
      obtain ⟨⟨h1, h2⟩, h3⟩ := h
      have hc := key_cmp O L x p.1 hx (hl p List.mem_cons_self)
      have ih := find_ask O L x hx es kv (i + 1) h3 (fun q hq => hl q (List.mem_cons_of_mem _ hq))
      by_cases hp : p.1 = x
      · have hd : decide (x = p.1) = true := by simp [hp]
        rw [hd] at hc
        refine .inr ⟨0, e, p.2, by simp [getK, hp], ?_, rfl, by rw [h1, hp], fun u => ?_⟩
        · unfold Instr.findAsking
          simp [Op.equal, Op.maxDepth, h1, hc, h2]
        · simp [setK, hp, h3]
      · have hd : decide (x = p.1) = false := by simp; exact fun e => hp e.symm
        rw [hd] at hc
        rcases ih with ⟨g1, g2, g3⟩ | ⟨j, e', v, g1, g2, g3, g4, g5⟩
        · refine .inl ⟨by simp [getK, hp, g1], ?_, fun v => by simp [setK, hp, g3]⟩
          unfold Instr.findAsking
          simp [Op.equal, Op.maxDepth, h1, hc, g2]
        · refine .inr ⟨j + 1, e', v, by simp [getK, hp, g1], ?_, by simpa using g3, g4, fun u => ?_⟩
          · unfold Instr.findAsking
            have ej : i + 1 + j = i + (j + 1) := by omega
            rw [ej] at g2
            simp [Op.equal, Op.maxDepth, h1, hc, g2]
          · simp [setK, hp, h1, h2, g5]

theorem now_none (O L : Nat → Nat) (x y : Option Nat) (d : TypeDesc) : Instr.sameNow d (kval O L x) (kval O L y) = none := by
  cases x <;> cases y <;> cases d <;> rfl

theorem find_key (O L : Nat → Nat) {w : World} (x : Option Nat) (es : List MapEntry) (kv : List (Option Nat × Value)) (h : es.map (fun e => (e.key, e.val)) = kv.map (fun p => (kval O L p.1, p.2))) :
    (Instr.findKey 114 (kval O L x) es).run Try.prog w = (Instr.findAsking 114 (kval O L x) es 0).run Try.prog w := by
  unfold Instr.findKey
  cases es with
  | nil => simp [go_sem, Instr.findNow, Instr.findAsking]
  | cons e es =>
    cases kv with
    | nil => simp at h
    | cons p kv =>
      simp only [List.map_cons, List.cons.injEq, Prod.mk.injEq] at h
      simp [go_sem, Instr.findNow, h.1.1, now_none]

theorem check_key {w : World} (O L : Nat → Nat) (x : Option Nat) (em : Bool) : (Instr.checkKey em 10000 114 (kval O L x)).run Try.prog w = .ok () w := by
  have : ∀ n, (Instr.checkKey em (n + 1 + 1) 114 (kval O L x)).run Try.prog w = .ok () w := fun n => by
    cases x <;> simp [go_sem, Instr.checkKey, kval]
  exact this 9998

theorem stays {w : World} (O L : Nat → Nat) (x : Option Nat) : (Instr.keyThatStays (kval O L x) (kval O L x)).run Try.prog w = .ok (kval O L x) w := by
  have : Instr.sameBits 10000 (kval O L x) (kval O L x) = true := by
    cases x <;> simp [kval, Instr.sameBits]
  simp [Instr.keyThatStays, this]

theorem MK.hit5 (h : MK O L w M kv) (hl : ∀ p ∈ kv, LiveK w p.1) (x : Option Nat) (hx : LiveK w x) {v : Value} (hv : getK x kv = some v) (ok : Bool) : (Instr.lookup 115 (.map (some M)) (kval O L x) ok).run Try.prog w = .ok (if ok then .tuple #[v, .bool true] else v) w := by
  obtain ⟨es, c, h1, h2⟩ := h
  have hf := find_key (w := w) O L x es.toList kv h2
  rcases find_ask O L x hx es.toList kv 0 h2 hl with ⟨g1, g2, -⟩ | ⟨j, e, u, g1, g2, -⟩
  · rw [hv] at g1; cases g1
  · rw [hv] at g1
    have e : v = u := Option.some.inj g1
    subst e
    rw [g2] at hf
    unfold Instr.lookup
    cases ok <;> simp [run_underlying Try.underlying115, MapKept.run_getObj_map h1, check_key, hf]

theorem MK.miss5 (h : MK O L w M kv) (hl : ∀ p ∈ kv, LiveK w p.1) (x : Option Nat) (hx : LiveK w x) (hv : getK x kv = none) (ok : Bool) : (Instr.lookup 115 (.map (some M)) (kval O L x) ok).run Try.prog w = .ok (if ok then .tuple #[.int .i64 0, .bool false] else .int .i64 0) w := by
  obtain ⟨es, c, h1, h2⟩ := h
  have hf := find_key (w := w) O L x es.toList kv h2
  rcases find_ask O L x hx es.toList kv 0 h2 hl with ⟨g1, g2, -⟩ | ⟨j, e, u, g1, g2, -⟩
  · rw [g2] at hf
    unfold Instr.lookup
    cases ok <;> simp [run_underlying Try.underlying115, MapKept.run_getObj_map h1, check_key, hf]
  · rw [hv] at g1; cases g1

theorem MK.miss6 (h : MK O L w M kv) (hl : ∀ p ∈ kv, LiveK w p.1) (x : Option Nat) (hx : LiveK w x) (hv : getK x kv = none) (ok : Bool) : (Instr.lookup 116 (.map (some M)) (kval O L x) ok).run Try.prog w = .ok (if ok then .tuple #[.slice none 0 0, .bool false] else .slice none 0 0) w := by
  obtain ⟨es, c, h1, h2⟩ := h
  have hf := find_key (w := w) O L x es.toList kv h2
  rcases find_ask O L x hx es.toList kv 0 h2 hl with ⟨g1, g2, -⟩ | ⟨j, e, u, g1, g2, -⟩
  · rw [g2] at hf
    unfold Instr.lookup
    cases ok <;> simp [run_underlying Try.underlying116, MapKept.run_getObj_map h1, check_key, hf]
  · rw [hv] at g1; cases g1

theorem MK.put5 (h : MK O L w M kv) (hl : ∀ p ∈ kv, LiveK w p.1) (x : Option Nat) (hx : LiveK w x) (v : Value) : ∃ w', (Instr.mapUpdate 115 (.map (some M)) (kval O L x) v).run Try.prog w = .ok () w' ∧ MK O L w' M (setK x v kv) ∧ w.grownBy w' (some M) := by
  obtain ⟨es, c, h1, h2⟩ := h
  have hf := find_key (w := w) O L x es.toList kv h2
  rcases find_ask O L x hx es.toList kv 0 h2 hl with ⟨g1, g2, g3⟩ | ⟨j, e, u, g1, g2, g3, g4, g5⟩
  · rw [g2] at hf
    refine ⟨ChangeMaps.setBlock w M (.map (es.push { key := kval O L x, val := v, born := c }) (c + 1)), ?_, ?_, ?_⟩
    · unfold Instr.mapUpdate
      simp [run_underlying Try.underlying115, MapKept.run_getObj_map h1, check_key, hf, MapKept.run_setObj_map _ h1, Result.andThen, ChangeMaps.setBlock]
    · refine ⟨_, _, heap_setBlock_same h1 _, ?_⟩
      simp [h2, g3]
    · exact ⟨rfl, rfl, rfl, by simp [ChangeMaps.setBlock], fun i _ hi => heap_setBlock_other h1 _ (fun e => hi (by rw [e]))⟩
  · rw [g2, Nat.zero_add] at hf
    have hj : es[j]? = some e := by simpa using g3
    refine ⟨ChangeMaps.setBlock w M (.map (es.modify j fun e => { e with key := kval O L x, val := v }) c), ?_, ?_, ?_⟩
    · unfold Instr.mapUpdate
      simp [run_underlying Try.underlying115, MapKept.run_getObj_map h1, check_key, hf, hj, g4, stays, MapKept.run_setObj_map _ h1, Result.andThen, ChangeMaps.setBlock]
    · refine ⟨_, _, heap_setBlock_same h1 _, ?_⟩
      rw [Array.toList_modify]
      exact g5 v
    · exact ⟨rfl, rfl, rfl, by simp [ChangeMaps.setBlock], fun i _ hi => heap_setBlock_other h1 _ (fun e => hi (by rw [e]))⟩

end

theorem run_makeMap115 (w : World) : (Instr.makeMap 115 none).run Try.prog w = .ok (.map (some w.heap.size)) (w.alloc (.map #[] 0)) := run_makeMap ..
theorem run_makeMap116 (w : World) : (Instr.makeMap 116 none).run Try.prog w = .ok (.map (some w.heap.size)) (w.alloc (.map #[] 0)) := run_makeMap ..

end Go.Proofs.Ytcflciblcdabpaa

namespace Go.Proofs.Ytcflciblcdabpaa
open Go.RowKit Go.Joins

theorem kval_two (O L : Nat → Nat) (x : Option Nat) : ∃ pp nn, kval O L x = .agg #[.pointer pp, .int .i64 nn] := by
  cases x with
  | none => exact ⟨none, 0, rfl⟩
  | some b => exact ⟨_, _, rfl⟩

theorem LiveK.kept {A B : World} {S : Nat → Prop} {x : Option Nat} (h : LiveK A x) (k : Kept S A B) (hl : ∀ b, x = some b → b < A.heap.size ∧ S b) : LiveK B x := by
  cases x with
  | none => trivial
  | some b => exact LiveB.kept h k (hl b rfl).1 (hl b rfl).2

theorem LiveK.lt {A : World} {b : Nat} (h : LiveK A (some b)) : b < A.heap.size := by
  obtain ⟨t, n, e⟩ := LiveB.sh h
  unfold World.shape? at e
  cases h2 : A.heap[b]? with
  | none => simp [h2] at e
  | some o => exact (Array.getElem?_eq_some_iff.1 h2).1

theorem LiveK.keep {A B : World} {x : Option Nat} {S : Nat → Prop} (h : LiveK A x) (k : Kept S A B) (hs : ∀ b, x = some b → S b) : LiveK B x := h.kept k (fun b e => ⟨by subst e; exact h.lt, hs b e⟩)

theorem Try.info142 : (Try.prog.info? 142).map (fun i => (i.zero, i.size, i.bytes)) = some (some (.agg #[.pointer none, .int .i64 0, .slice none 0 0, .int .i64 0]), 4, 48) := by kernel_rfl

theorem Try.info147 : (Try.prog.info? 147).map (fun i => (i.zero, i.size, i.bytes)) = some (some (.agg #[.pointer none, .bool false]), 2, 16) := by kernel_rfl

set_option maxHeartbeats 2000000 in
set_option maxRecDepth 100000 in
theorem i_opened (O L : Nat → Nat) (cb M M2 lo : Nat) (room : Int) (kv : List (Option Nat × Value)) (v : Value) (m : Nat) (xs : List Value) (a : Option Addr) (n c : Nat) (x : Option Nat) (W : World)
    (hbx : Bx W cb [.map (some M), .map (some M2), .int .i64 room]) (hmk : MK O L W M kv) (hl : ∀ p ∈ kv, LiveK W p.1) (hx : LiveK W x) (hw : whr a n = kval O L x) (ha : 0 < n → ∃ b o, a = some ⟨b, o, none⟩) (hn : n ≤ 1048576) (hr : 0 ≤ room ∧ room ≤ 1099511627776) (ho : W.ownsRow lo 142 4 v m xs) (hm : m ≤ 1048577) (hlo : cb < lo ∧ M < lo ∧ lo ≤ W.heap.size) :
    Calls Try.prog 70 #[.pointer (some ⟨cb, 0, none⟩), v, .slice a n c] W fun e W' => ∃ g cap pp nn, e = .returned (.slice (some ⟨g, 0, none⟩) (m + 1) cap) ∧ kval O L x = .agg #[.pointer pp, .int .i64 nn] ∧ W'.ownsRow lo 142 4 (.slice (some ⟨g, 0, none⟩) (m + 1) cap) (m + 1) (xs ++ [.pointer pp, .int .i64 nn, .slice a n c, .int .i64 0]) ∧
      Bx W' cb [.map (some M), .map (some M2), .int .i64 (room + 16 * n)] ∧ MK O L W' M (setK x (.int .i64 2305843009213693951) kv) ∧ Kept (fun c => c < lo ∧ c ≠ cb ∧ c ≠ M) W W' := by
  have hC := i_where a n c W ha hn
  obtain ⟨pp, nn, hk⟩ := kval_two O L x
  rw [hw, hk] at hC
  have HK := hide hk
  have HC := hide hC
  have HBX := hide hbx
  have HMK := hide hmk
  have HL := hide hl
  have HX := hide hx
  have HO := hide ho
  have HLO := hide hlo
  have h63 : Hid (m + 1 ≤ maxLen ∧ (m + 1) * 48 ≤ 140737488355328) := ⟨by unfold maxLen; omega, by omega⟩
  have hr1 := hr.1
  have hr2 := hr.2
  clear hC hk hbx hmk hl hx ho hlo hr
  go_enter Try.func70, Try.ntmps70
  go_upto_region 1 with fail
  go_wp2_with fail
  refine HC.out.mono ?_
  rintro e V1 ⟨rfl, b1⟩
  obtain ⟨V2, hV2⟩ : ∃ V, V1.alloc (.cells #[.pointer pp, .int .i64 nn] 114) = V := ⟨_, rfl⟩
  have k1 : Kept (fun _ => True) W V1 := kt b1
  have k2 : Kept (fun _ => True) V1 V2 := by rw [← hV2]; exact Kept.alloc _ _ _
  have q2 : Bx V2 V1.heap.size [.pointer pp, .int .i64 nn] := by rw [← hV2]; exact Bx.new _ _ _
  have bx2 := (HBX.out.kept k1 trivial).kept k2 trivial
  have z1 := k1.size
  have z2 := k2.size
  obtain ⟨o1, o2, o3⟩ := HLO.out
  have k2d : Kept (fun _ => True) V1 V2.drew := k2.dr
  obtain ⟨V3, hpt, hm3, hg3⟩ := ((HMK.out.kept k1 trivial).kept k2d trivial).put5 (fun p hp => ((HL.out p hp).keep k1 (fun _ _ => trivial)).keep k2d (fun _ _ => trivial)) x ((HX.out.keep k1 (fun _ _ => trivial)).keep k2d (fun _ _ => trivial)) (.int .i64 2305843009213693951)
  rw [HK.out] at hpt
  have k3 : Kept (fun b => b ≠ M) V2 V3 := (Kept.drew _ _).trans (Kept.grown hg3 (fun b e h => h (Option.some.inj e).symm))
  have hcM : cb ≠ M := fun e => by
    have h1 := HBX.out.cel 0 _ rfl
    obtain ⟨es, ck, h2, -⟩ := HMK.out
    rw [e] at h1
    simp [World.cell?, h2] at h1
  have bx3 := bx2.kept k3 hcM
  have q3 := q2.kept k3 (by omega)
  have c0 := bx2.cel 0 _ rfl
  have c2 := bx3.cel 2 _ rfl
  have l2 := bx3.live 2
  have d0 := q2.cel 0 _ rfl
  have d1 := q2.cel 1 _ rfl
  obtain ⟨V4, hV4⟩ : ∃ V, V3.setCell ⟨cb, 2, none⟩ (.int .i64 (room + 16 * n)) = V := ⟨_, rfl⟩
  have k4 : Kept (fun b => b ≠ cb) V3 V4 := by rw [← hV4]; exact Kept.setCell _ _ _ _ (by simp)
  have bx4 : Bx V4 cb [.map (some M), .map (some M2), .int .i64 (room + 16 * n)] := by rw [← hV4]; exact bx3.put 2 _ (by simp)
  have q4 := q3.kept k4 (by omega)
  have e0 := q4.cel 0 _ rfl
  have e1 := q4.cel 1 _ rfl
  have HFIN : Hid (∀ g cap W', W'.ownsRow lo 142 4 (.slice (some ⟨g, 0, none⟩) (m + 1) cap) (m + 1) (xs ++ [.pointer pp, .int .i64 nn, .slice a n c, .int .i64 0]) → (V4.alloc (.cells #[.pointer pp, .int .i64 nn, .slice a n c, .int .i64 0] 142)).grownBy W' v.ownBlock → 
      Bx W' cb [.map (some M), .map (some M2), .int .i64 (room + 16 * n)] ∧ MK O L W' M (setK x (.int .i64 2305843009213693951) kv) ∧ Kept (fun c => c < lo ∧ c ≠ cb ∧ c ≠ M) W W') := fun g cap W' h1 h2 => by
    have k5 : Kept (fun b => b < lo) (V4.alloc (.cells #[.pointer pp, .int .i64 nn, .slice a n c, .int .i64 0] 142)) W' := Kept.grown h2 (fun b e h => by
      rcases HO.out.2 with ⟨rfl, -⟩ | ⟨g, cap, cur, rfl, hb, -⟩
      · simp [Value.ownBlock] at e
      · have : g = b := Option.some.inj e
        omega)
    have k6 : Kept (fun b => b < lo) V4 W' := (Kept.alloc _ _ _).trans k5
    refine ⟨bx4.kept k6 o1, (hm3.kept k4 (fun e => hcM e.symm)).kept k6 o2, ?_⟩
    exact (k1.mono (fun _ _ _ => trivial)).trans ((k2.mono (fun _ _ _ => trivial)).trans ((k3.mono (fun b _ h => h.2.2)).trans ((k4.mono (fun b _ h => h.2.1)).trans (k6.mono (fun b _ h => h.1)))))
  have HOW : Hid ((V4.alloc (.cells #[.pointer pp, .int .i64 nn, .slice a n c, .int .i64 0] 142)).ownsRow lo 142 4 v m xs) := by
    have kk : Kept (fun b => lo ≤ b) W V4 := (k1.mono (fun _ _ _ => trivial)).trans ((k2.mono (fun _ _ _ => trivial)).trans ((k3.mono (fun b _ h => by omega)).trans (k4.mono (fun b _ h => by omega))))
    exact ownsRow_kept HO.out (kk.trans (Kept.alloc _ _ _)) (fun b hb => by
      rcases HO.out.2 with ⟨rfl, -⟩ | ⟨g, cap, cur, rfl, hb', -⟩
      · simp [Value.ownBlock] at hb
      · have : g = b := Option.some.inj hb
        omega)
  have HV2 := hide hV2
  have HV4 := hide hV4
  have HZ : Hid (lo ≤ (V4.alloc (.cells #[.pointer pp, .int .i64 nn, .slice a n c, .int .i64 0] 142)).heap.size) := by
    have := k3.size
    have := k4.size
    have : (V4.alloc (.cells #[.pointer pp, .int .i64 nn, .slice a n c, .int .i64 0] 142)).heap.size = V4.heap.size + 1 := by simp
    show _ ≤ _
    omega
  clear hV2 hV4 k1 k2 k2d q2 bx2 hm3 hg3 k3 bx3 q3 k4 bx4 q4 b1 z1 z2 HC HBX HMK HL HX HO o1 o2 o3 hcM
  go_upto_region 2 with fail
  rw [HV2.out]
  clear HV2
  go_region
  go_upto_region 4 with fail
  rw [HV4.out]
  clear HV4
  go_wp2_with (at_builtin; refine ur_stepL rfl _ _ 138 142 rfl Try.info142 Try.underlying138 rfl (by decide) lo (V4.alloc (.cells #[.pointer pp, .int .i64 nn, .slice a n c, .int .i64 0] 142)) v m xs [.pointer pp, .int .i64 nn, .slice a n c, .int .i64 0] _ _ rfl rfl HZ.out HOW.out (heap_new _ _) rfl (by simp [Value.oneCell']) h63.out.1 h63.out.2 ?_; intro g7 c7 w3 hO7 hG7 _; have HA7 := hide (HFIN.out g7 c7 w3 hO7 hG7); have HO7 := hide hO7; clear hO7 hG7)
  go_ret
  exact ⟨g7, c7, pp, nn, rfl, HK.out, HO7.out, HA7.out.1, HA7.out.2.1, HA7.out.2.2⟩

end Go.Proofs.Ytcflciblcdabpaa

namespace Go.Proofs.Ytcflciblcdabpaa
open Go.RowKit Go.Joins

/-- How many slices: of a row of types the types in it and below. -/
def Fo.tc : Fo → Nat
  | .nil => 0
  | .v _ r => r.tc
  | .s _ _ _ ks r => 1 + ks.tc + r.tc

/-- The types below a row. -/
def Fo.tin : Fo → Nat
  | .nil => 0
  | .v _ r => r.tin
  | .s _ _ _ ks r => ks.tc + r.tin

/-- The row behind its first type. -/
def Fo.rst : Fo → Fo
  | .v _ (.v _ (.v _ (.s _ _ _ _ r))) => r
  | _ => .nil

/-- Where a list is. -/
def keyOf (a : Option Addr) (n : Nat) : Option Nat := if n = 0 then none else a.map Addr.block

/-- The key of the first type's list. -/
def Fo.fk : Fo → Option Nat
  | .v _ (.v _ (.v _ (.s a n _ _ _))) => keyOf a n
  | _ => none

def Fo.fc : Fo → Nat
  | .v _ (.v _ (.v _ (.s _ _ _ ks _))) => ks.tc
  | _ => 0

theorem ty_cons {R : Fo} {n : Nat} (h : Fit E R (rep (E 2) (n + 1))) : ∃ k i nm a m c ks r, R = .v (.int .i64 k) (.v (.int .i64 i) (.v (.string nm) (.s a m c ks r))) ∧ Fit E ks (rep (E 2) m) ∧ Fit E r (rep (E 2) n) := by
  have h' : Fit E R (.i :: .i :: .t :: .s 2 :: rep (E 2) n) := h
  obtain ⟨k, r1, rfl, -, h1⟩ := fit_i h'
  obtain ⟨i, r2, rfl, -, h2⟩ := fit_i h1
  obtain ⟨nm, r3, rfl, -, h3⟩ := fit_t h2
  obtain ⟨a, m, c, ks, r, rfl, h4, h5⟩ := fit_s h3
  exact ⟨k, i, nm, a, m, c, ks, r, rfl, h4, h5⟩

theorem ty_len : ∀ (n : Nat) (R : Fo), Fit E R (rep (E 2) n) → R.len = n * 4 ∧ R.tc = n + R.tin
  | 0, R, h => by
    obtain rfl := fit_nil h
    exact ⟨rfl, rfl⟩
  | n + 1, R, h => by
    obtain ⟨k, i, nm, a, m, c, ks, r, rfl, -, h2⟩ := ty_cons h
    obtain ⟨h3, h4⟩ := ty_len n r h2
    refine ⟨?_, ?_⟩
    · simp only [Fo.len, h3]
      omega
    · simp only [Fo.tc, Fo.tin, h4]
      omega

theorem ty_wt : ∀ (R : Fo) (n : Nat), Fit E R (rep (E 2) n) → R.tin ≤ R.wt := by
  intro R
  induction hz : R.size using Nat.strongRecOn generalizing R with
  | _ z ih =>
    intro n h
    cases n with
    | zero =>
      obtain rfl := fit_nil h
      exact Nat.le_refl _
    | succ n =>
      obtain ⟨k, i, nm, a, m, c, ks, r, rfl, h1, h2⟩ := ty_cons h
      have hs : ks.size < z ∧ r.size < z := by
        rw [← hz]
        simp only [Fo.size]
        omega
      have g1 := ih _ hs.1 ks rfl m h1
      have g2 := ih _ hs.2 r rfl n h2
      have g3 := (ty_len m ks h1).2
      simp only [Fo.tin, Fo.wt, textSize]
      omega

/-- The lists lie where O and L say. -/
def Fo.At (O L : Nat → Nat) : Fo → Prop
  | .nil => True
  | .v _ r => r.At O L
  | .s a n _ ks r => (0 < ks.len → ∃ b, a = some ⟨b, O b, none⟩ ∧ L b = n) ∧ ks.At O L ∧ r.At O L

theorem Fo.At.congr {O L O' L' : Nat → Nat} : ∀ {F : Fo}, F.At O L → (∀ c ∈ F.inn, O' c = O c ∧ L' c = L c) → F.At O' L'
  | .nil, _, _ => trivial
  | .v _ r, h, g => Fo.At.congr (F := r) h g
  | .s a n cap ks r, ⟨h1, h2, h3⟩, g => by
    refine ⟨fun hl => ?_, h2.congr (fun c hc => g c (by simp only [Fo.inn, List.mem_append]; exact .inl (.inr hc))), h3.congr (fun c hc => g c (by simp only [Fo.inn, List.mem_append]; exact .inr hc))⟩
    obtain ⟨b, e, hb⟩ := h1 hl
    have := g b (by rw [e]; simp [Fo.inn, blk_pos hl])
    exact ⟨b, by rw [this.1]; exact e, by rw [this.2]; exact hb⟩

theorem at_ex {W : World} {S : Nat → Prop} : ∀ (F : Fo), F.Subs W S → F.inn.Nodup → ∃ O L, F.At O L
  | .nil, _, _ => ⟨fun _ => 0, fun _ => 0, trivial⟩
  | .v _ r, h, g => at_ex r h g
  | .s a n cap ks r, ⟨⟨h1, h2, h3⟩, h4⟩, g => by
    simp only [Fo.inn] at g
    obtain ⟨g1, g2, g3⟩ := List.nodup_append.1 g
    obtain ⟨O2, L2, i2⟩ := at_ex r h4 g2
    by_cases hl : 0 < ks.len
    · obtain ⟨b, o, rfl, -, -, x⟩ := h3 hl
      obtain ⟨-, g5, g6⟩ := List.nodup_append.1 g1
      obtain ⟨O1, L1, i1⟩ := at_ex ks x g5
      rw [blk_pos hl] at g3 g6
      have hbk : b ∉ ks.inn := fun hc => g6 b (by simp) b hc rfl
      have hbr : b ∉ r.inn := fun hc => g3 b (by simp) b hc rfl
      refine ⟨fun c => if c = b then o else if c ∈ ks.inn then O1 c else O2 c, fun c => if c = b then n else if c ∈ ks.inn then L1 c else L2 c, fun _ => ⟨b, by simp, by simp⟩, i1.congr (fun c hc => ?_), i2.congr (fun c hc => ?_)⟩
      · have : c ≠ b := fun e => hbk (e ▸ hc)
        simp [this, hc]
      · have h1 : c ≠ b := fun e => hbr (e ▸ hc)
        have h2 : c ∉ ks.inn := fun hk => g3 c (by simp [hk]) c hc rfl
        simp [h1, h2]
    · have e := Fo.len_zero hl
      subst e
      exact ⟨O2, L2, fun h => absurd h hl, trivial, i2⟩

theorem live_of {W : World} {S : Nat → Prop} : ∀ (F : Fo), F.Subs W S → Live W F.inn → ∀ c ∈ F.inn, LiveB W c
  | .nil, _, _, c, hc => by simp [Fo.inn] at hc
  | .v _ r, h, g, c, hc => live_of r h g c hc
  | .s a n cap ks r, ⟨⟨h1, h2, h3⟩, h4⟩, g, c, hc => by
    simp only [Fo.inn, List.mem_append] at hc
    rcases hc with (hc | hc) | hc
    · by_cases hl : 0 < ks.len
      · obtain ⟨b, o, rfl, -, x, -⟩ := h3 hl
        rw [blk_pos hl] at hc
        have e : c = b := by simpa using hc
        subst e
        have hv : 0 < ks.vals.length := by rw [Fo.vals_length]; exact hl
        exact LiveB.of (fun j => g c (by simp [Fo.inn, blk_pos hl]) j) (x 0 _ (List.getElem?_eq_getElem hv))
      · rw [Fo.len_zero hl] at hc
        simp [Fo.len, blk_zero] at hc
    · by_cases hl : 0 < ks.len
      · obtain ⟨b, o, rfl, -, -, x⟩ := h3 hl
        exact live_of ks x (g.sub (fun c hc => by simp only [Fo.inn, List.mem_append]; exact .inl (.inr hc))) c hc
      · rw [Fo.len_zero hl] at hc
        simp [Fo.inn] at hc
    · exact live_of r h4 (g.sub (fun c hc => by simp only [Fo.inn, List.mem_append]; exact .inr hc)) c hc

theorem whr_key {O L : Nat → Nat} {a : Option Addr} {n : Nat} {ks : Fo} (hl : ks.len = n * 4) (h : 0 < ks.len → ∃ b, a = some ⟨b, O b, none⟩ ∧ L b = n) : whr a n = kval O L (keyOf a n) := by
  by_cases h0 : n = 0
  · subst h0
    simp [whr, keyOf, kval]
  · obtain ⟨b, rfl, hb⟩ := h (by omega)
    simp [whr, keyOf, kval, h0, hb]

/-- A list that is measured as far as its rest. -/
structure Frm where
  x : Option Nat
  T : Nat
  a : Option Addr
  n : Nat
  c : Nat
  R : Fo
  s : Nat

def kcells (O L : Nat → Nat) : Option Nat → List Value
  | none => [.pointer none, .int .i64 0]
  | some b => [.pointer (some ⟨b, O b, none⟩), .int .i64 (L b)]

theorem kcells_eq {O L : Nat → Nat} {x : Option Nat} {p : Option Addr} {m : Int} (h : kval O L x = .agg #[.pointer p, .int .i64 m]) : kcells O L x = [.pointer p, .int .i64 m] := by
  cases x with
  | none =>
    simp only [kval, Value.agg.injEq] at h
    simp_all [kcells]
  | some b =>
    simp only [kval, Value.agg.injEq] at h
    simp_all [kcells]

theorem kcells_two (O L : Nat → Nat) (x : Option Nat) : ∃ p m, kval O L x = .agg #[.pointer p, .int .i64 m] ∧ kcells O L x = [.pointer p, .int .i64 m] := by
  obtain ⟨p, m, h⟩ := kval_two O L x
  exact ⟨p, m, h, kcells_eq h⟩

def Frm.cells (O L : Nat → Nat) (f : Frm) : List Value := kcells O L f.x ++ [.slice f.a f.n f.c, .int .i64 f.s]

theorem Frm.cells_len (O L : Nat → Nat) (f : Frm) : (f.cells O L).length = 4 := by
  obtain ⟨p, m, -, h⟩ := kcells_two O L f.x
  simp [Frm.cells, h]

structure FrOK (W0 : World) (S : Nat → Prop) (O L : Nat → Nat) (f : Frm) : Prop where
  fit : Fit E f.R (rep (E 2) f.n)
  sub : f.R.Sub W0 S f.a f.n f.c
  sum : f.s + f.R.tc = f.T
  at_ : f.R.At O L
  lv : ∀ c ∈ f.R.inn, LiveB W0 c
  mx : f.T ≤ 1048576
  xs : ∀ b, f.x = some b → S b ∧ LiveB W0 b

/-- The list g is that of the first type that is left of f. -/
def Par (f g : Frm) : Prop := 0 < f.n ∧ g.x = f.R.fk ∧ g.T = f.R.fc ∧ f.R.fk ≠ none

inductive Ch (x0 : Option Nat) (T0 : Nat) : List Frm → Prop
  | one (f : Frm) : f.x = x0 → f.T = T0 → Ch x0 T0 [f]
  | cons (g f : Frm) (l : List Frm) : Par f g → Ch x0 T0 (f :: l) → Ch x0 T0 (g :: f :: l)

theorem Ch.len {W0 : World} {S : Nat → Prop} {O L : Nat → Nat} {x0 : Option Nat} {T0 : Nat} {l : List Frm} (h : Ch x0 T0 l) : (∀ f ∈ l, FrOK W0 S O L f) → ∀ g l', l = g :: l' → l'.length + g.T ≤ T0 := by
  induction h with
  | one f h1 h2 =>
    intro _ g l' e
    cases e
    simp [h2]
  | cons g f l hp hc ih =>
    intro hok g' l' e
    cases e
    have h1 := ih (fun f hf => hok f (List.mem_cons_of_mem _ hf)) f l rfl
    have h2 := hok f (List.mem_cons_of_mem _ List.mem_cons_self)
    obtain ⟨p1, p2, p3, p4⟩ := hp
    obtain ⟨n, hn⟩ : ∃ n, f.n = n + 1 := ⟨f.n - 1, by omega⟩
    have hf := h2.fit
    rw [hn] at hf
    obtain ⟨k, i, nm, a, m, c, ks, r, hR, -, -⟩ := ty_cons hf
    have hs := h2.sum
    rw [hR] at p3 hs
    simp only [Fo.fc] at p3
    simp only [Fo.tc] at hs
    simp only [List.length_cons]
    omega

/-- The blocks that are not opened yet. -/
def pnd (dn : Bool) (top : Frm) (l : List Frm) : List Nat := (if dn then top.R.rst.inn else top.R.inn) ++ l.flatMap (fun f => f.R.rst.inn)

def xbs (l : List Frm) : List Nat := l.flatMap (fun f => f.x.toList)

def uno (dn : Bool) (top : Frm) (l : List Frm) : Nat := (if dn then top.R.rst.tin else top.R.tin) + (l.map (fun f => f.R.rst.tin)).sum

/-- How many rounds are left at most. -/
def lft (dn : Bool) (top : Frm) (l : List Frm) : Nat := (if dn then 3 * top.R.rst.tc + 2 else 3 * top.R.tc + 1) + (l.map (fun f => 3 * f.R.rst.tc + 2)).sum

structure MI (W0 : World) (S : Nat → Prop) (O L : Nat → Nat) (x0 : Option Nat) (T0 : Nat) (dn : Bool) (top : Frm) (l : List Frm) (kv : List (Option Nat × Value)) (room : Int) : Prop where
  ok : ∀ f ∈ top :: l, FrOK W0 S O L f
  ch : Ch x0 T0 (top :: l)
  nd : (xbs (top :: l) ++ pnd dn top l).Nodup
  un : ∀ c ∈ pnd dn top l, getK (some c) kv = none
  kn : dn = true → 0 < top.n ∧ getK top.R.fk kv = some (.int .i64 top.R.fc)
  k0 : x0 ≠ none → getK none kv = some (.int .i64 0)
  t0 : x0 = none → T0 = 0
  r1 : 1048576 ≤ room
  r2 : room + 16 * uno dn top l ≤ 1048576 + 16 * T0
  kl : ∀ p ∈ kv, ∀ b, p.1 = some b → S b ∧ LiveB W0 b

end Go.Proofs.Ytcflciblcdabpaa

namespace Go.Proofs.Ytcflciblcdabpaa
open Go.RowKit Go.Joins

theorem key_some {O L : Nat → Nat} {a : Option Addr} {n : Nat} {ks : Fo} (hl : ks.len = n * 4) (h : 0 < ks.len → ∃ b, a = some ⟨b, O b, none⟩ ∧ L b = n) (hn : 0 < n) : ∃ b, keyOf a n = some b ∧ blk a ks.len = [b] ∧ a = some ⟨b, O b, none⟩ := by
  obtain ⟨b, rfl, -⟩ := h (by omega)
  exact ⟨b, by simp [keyOf]; omega, blk_pos (by omega), rfl⟩

section
variable {W0 : World} {S : Nat → Prop} {O L : Nat → Nat} {x0 : Option Nat} {T0 : Nat} {dn : Bool} {top : Frm} {l : List Frm} {kv : List (Option Nat × Value)} {room : Int}

theorem MI.root (h : MI W0 S O L x0 T0 dn top l kv room) (hn : 0 < top.n) : x0 ≠ none := fun e => by
  have h1 := h.ch.len h.ok top l rfl
  have h2 := h.t0 e
  have h3 := (h.ok top List.mem_cons_self)
  have h4 := (ty_len _ _ h3.fit).2
  have h5 := h3.sum
  omega

/-- The first list that is left is empty. -/
theorem MI.emp (h : MI W0 S O L x0 T0 false top l kv room) (hn : 0 < top.n) (he : top.R.fk = none) : MI W0 S O L x0 T0 true top l kv room := by
  have h3 := h.ok top List.mem_cons_self
  obtain ⟨n, hn'⟩ : ∃ n, top.n = n + 1 := ⟨top.n - 1, by omega⟩
  have hf := h3.fit
  rw [hn'] at hf
  obtain ⟨k, i, nm, a, m, c, ks, r, hR, h1, -⟩ := ty_cons hf
  have hm : m = 0 := by
    by_cases hm : m = 0
    · exact hm
    · exfalso
      rw [hR] at he
      have hat := h3.at_
      rw [hR] at hat
      obtain ⟨b, e, -⟩ := key_some (ty_len _ _ h1).1 hat.1 (Nat.pos_of_ne_zero hm)
      simp only [Fo.fk] at he
      rw [e] at he
      cases he
  subst hm
  obtain rfl := fit_nil h1
  have e1 : top.R.inn = top.R.rst.inn := by rw [hR]; simp [Fo.inn, Fo.rst, Fo.len, blk_zero]
  have e2 : top.R.tin = top.R.rst.tin := by rw [hR]; simp [Fo.tin, Fo.rst, Fo.tc]
  have e3 : pnd true top l = pnd false top l := by simp [pnd, e1]
  have e4 : uno true top l = uno false top l := by simp [uno, e2]
  refine ⟨h.ok, h.ch, by rw [e3]; exact h.nd, by rw [e3]; exact h.un, fun _ => ⟨hn, ?_⟩, h.k0, h.t0, h.r1, by rw [e4]; exact h.r2, h.kl⟩
  rw [he, h.k0 (h.root hn), hR]
  rfl

/-- The next one of the list. -/
theorem MI.adv (h : MI W0 S O L x0 T0 true top l kv room) {a' : Option Addr} {c' : Nat} (hc : c' = top.c - 1) (ha : 1 < top.n → ∀ b o, top.a = some ⟨b, o, none⟩ → a' = some ⟨b, o + 4, none⟩) :
    MI W0 S O L x0 T0 false ⟨top.x, top.T, a', top.n - 1, c', top.R.rst, top.s + 1 + top.R.fc⟩ l kv room ∧ lft false ⟨top.x, top.T, a', top.n - 1, c', top.R.rst, top.s + 1 + top.R.fc⟩ l < lft true top l := by
  have h3 := h.ok top List.mem_cons_self
  have hn := (h.kn rfl).1
  obtain ⟨n, hn'⟩ : ∃ n, top.n = n + 1 := ⟨top.n - 1, by omega⟩
  have hf := h3.fit
  rw [hn'] at hf
  obtain ⟨k, i, nm, a, m, c, ks, r, hR, h1, h2⟩ := ty_cons hf
  have er : top.R.rst = r := by rw [hR]; rfl
  have ef : top.R.fc = ks.tc := by rw [hR]; rfl
  have hsum := h3.sum
  rw [hR] at hsum
  simp only [Fo.tc] at hsum
  have hat := h3.at_
  rw [hR] at hat
  obtain ⟨hs1, hs2, hs3⟩ := h3.sub
  have hn1 : top.n - 1 = n := by omega
  refine ⟨⟨fun f hf => ?_, ?_, ?_, h.un, fun e => (by cases e), h.k0, h.t0, h.r1, h.r2, h.kl⟩, ?_⟩
  · rcases List.mem_cons.1 hf with rfl | hf
    · refine ⟨by rw [hn1, er]; exact h2, ⟨by show top.n - 1 ≤ c'; omega, by show c' ≤ _; omega, fun hl => ?_⟩, by show top.s + 1 + top.R.fc + top.R.rst.tc = top.T; rw [ef, er]; omega, by rw [er]; exact hat.2.2, fun c hc => h3.lv c (by rw [hR]; simp only [Fo.inn, List.mem_append]; rw [er] at hc; exact .inr hc), h3.mx, h3.xs⟩
      obtain ⟨b, o, e, hb, hcel, hsub⟩ := hs3 (by rw [hR]; simp [Fo.len])
      have hr := (ty_len _ _ h2).1
      have hl' : 0 < r.len := by rw [← er]; exact hl
      refine ⟨b, o + 4, ha (by omega) b o e, hb, ?_, ?_⟩
      · rw [er]
        rw [hR] at hcel
        have := Cel.right (L := [.int .i64 k, .int .i64 i, .string nm, .slice a m c]) (M := r.vals) hcel
        exact this
      · rw [er]
        rw [hR] at hsub
        exact hsub.2
    · exact h.ok f (List.mem_cons_of_mem _ hf)
  · have hch := h.ch
    cases hch with
    | one f e1 e2 => exact .one _ e1 e2
    | cons g f l hp hc => exact .cons _ _ _ hp hc
  · have := h.nd
    simpa [pnd, xbs] using this
  · simp [lft]

/-- A list is opened. -/
theorem MI.opn (h : MI W0 S O L x0 T0 false top l kv room) (hn : 0 < top.n) {k i : Int} {nm : ByteArray} {a : Option Addr} {m c : Nat} {ks r : Fo} (hR : top.R = .v (.int .i64 k) (.v (.int .i64 i) (.v (.string nm) (.s a m c ks r)))) (hf1 : Fit E ks (rep (E 2) m)) (hm : 0 < m) :
    MI W0 S O L x0 T0 false ⟨keyOf a m, ks.tc, a, m, c, ks, 0⟩ (top :: l) (setK (keyOf a m) (.int .i64 2305843009213693951) kv) (room + 16 * m) ∧ lft false ⟨keyOf a m, ks.tc, a, m, c, ks, 0⟩ (top :: l) < lft false top l := by
  have h3 := h.ok top List.mem_cons_self
  have hsum := h3.sum
  rw [hR] at hsum
  simp only [Fo.tc] at hsum
  have hat := h3.at_
  rw [hR] at hat
  obtain ⟨hs1, hs2, hs3⟩ := h3.sub
  obtain ⟨b0, o0, e0, hb0, hcel, hsub⟩ := hs3 (by rw [hR]; simp [Fo.len])
  rw [hR] at hsub
  obtain ⟨⟨g1, g2, g3⟩, g4⟩ := hsub
  obtain ⟨hlen, htc⟩ := ty_len _ _ hf1
  obtain ⟨b, hk, hbl, ea⟩ := key_some hlen hat.1 hm
  have er : top.R.rst = r := by rw [hR]; rfl
  have hin : b ∈ top.R.inn := by rw [hR]; simp [Fo.inn, hbl]
  have hpb : b ∈ pnd false top l := by simp only [pnd, List.mem_append]; exact .inl hin
  have hinn : top.R.inn = b :: (ks.inn ++ r.inn) := by rw [hR]; simp [Fo.inn, hbl]
  have ep : pnd false top l = b :: (pnd false ⟨keyOf a m, ks.tc, a, m, c, ks, 0⟩ (top :: l)) := by
    simp [pnd, hinn, er, List.append_assoc]
  have hsb : S b := by
    obtain ⟨b', o', e', hb', -⟩ := g3 (by omega)
    rw [ea] at e'
    cases e'
    exact hb'
  have hnd : (xbs (⟨keyOf a m, ks.tc, a, m, c, ks, 0⟩ :: top :: l) ++ pnd false ⟨keyOf a m, ks.tc, a, m, c, ks, 0⟩ (top :: l)).Nodup := by
    have h1 := h.nd
    rw [ep] at h1
    have e : xbs (⟨keyOf a m, ks.tc, a, m, c, ks, 0⟩ :: top :: l) = b :: xbs (top :: l) := by simp [xbs, hk]
    rw [e]
    have hp : (xbs (top :: l) ++ b :: pnd false ⟨keyOf a m, ks.tc, a, m, c, ks, 0⟩ (top :: l)).Perm (b :: xbs (top :: l) ++ pnd false ⟨keyOf a m, ks.tc, a, m, c, ks, 0⟩ (top :: l)) := List.perm_middle
    exact hp.nodup_iff.1 h1
  refine ⟨⟨fun f hf => ?_, ?_, hnd, fun d hd => ?_, fun e => (by cases e), fun e => ?_, h.t0, by have := h.r1; omega, ?_, fun p hp d hd => ?_⟩, ?_⟩
  · rcases List.mem_cons.1 hf with rfl | hf
    · refine ⟨hf1, ⟨g1, g2, g3⟩, by show 0 + ks.tc = ks.tc; omega, hat.2.1, fun d hd => h3.lv d (by rw [hinn]; simp [hd]), by show ks.tc ≤ _; have := h3.mx; omega, fun b' e => ?_⟩
      have e' : b = b' := by
        have : keyOf a m = some b' := e
        rw [hk] at this
        exact Option.some.inj this
      subst e'
      exact ⟨hsb, h3.lv b hin⟩
    · exact h.ok f hf
  · refine .cons _ _ _ ⟨hn, by rw [hR]; rfl, by rw [hR]; rfl, by rw [hR]; simp only [Fo.fk]; rw [hk]; simp⟩ h.ch
  · have hne : b ≠ d := fun e => by
      have h1 := h.nd
      rw [ep] at h1
      have h2 := (List.nodup_append.1 h1).2.1
      rw [← e] at hd
      exact (List.nodup_cons.1 h2).1 hd
    rw [hk, getK_setK_ne _ _ _ (by simp [hne])]
    exact h.un d (by rw [ep]; exact List.mem_cons_of_mem _ hd)
  · rw [hk, getK_setK_ne _ _ _ (by simp)]
    exact h.k0 e
  · have h1 := h.r2
    have e1 : top.R.tin = ks.tc + r.tin := by rw [hR]; rfl
    have e2 : uno false top l = m + uno false ⟨keyOf a m, ks.tc, a, m, c, ks, 0⟩ (top :: l) := by
      simp [uno, e1, er, htc]
      omega
    rw [e2] at h1
    push_cast at h1
    omega
  · rcases setK_mem _ _ _ _ hp with e | hp
    · rw [e, hk] at hd
      have := Option.some.inj hd
      subst this
      exact ⟨hsb, h3.lv b hin⟩
    · exact h.kl p hp d hd
  · have e1 : top.R.tc = 1 + ks.tc + r.tc := by rw [hR]; rfl
    simp [lft, e1, er]
    omega

/-- A list is closed. -/
theorem MI.cls {f : Frm} (h : MI W0 S O L x0 T0 dn top (f :: l) kv room) (hn : top.n = 0) : MI W0 S O L x0 T0 true f l (setK top.x (.int .i64 top.s) kv) room ∧ lft true f l < lft dn top (f :: l) := by
  have h3 := h.ok top List.mem_cons_self
  have hdn : dn = false := by
    cases dn with
    | false => rfl
    | true => have := (h.kn rfl).1; omega
  subst hdn
  have hf := h3.fit
  rw [hn] at hf
  have hR := fit_nil hf
  have hch := h.ch
  cases hch with
  | cons _ _ _ hp hc =>
    obtain ⟨p1, p2, p3, p4⟩ := hp
    obtain ⟨b, hb⟩ : ∃ b, top.x = some b := by
      rw [← p2] at p4
      exact Option.ne_none_iff_exists'.1 p4
    have ep : pnd false top (f :: l) = pnd true f l := by simp [pnd, hR, Fo.inn]
    have eu : uno false top (f :: l) = uno true f l := by simp [uno, hR, Fo.tin]
    have hsum := h3.sum
    rw [hR] at hsum
    simp only [Fo.tc] at hsum
    have hnd := h.nd
    rw [ep] at hnd
    have ex : xbs (top :: f :: l) = b :: xbs (f :: l) := by simp [xbs, hb]
    rw [ex] at hnd
    refine ⟨⟨fun g hg => h.ok g (List.mem_cons_of_mem _ hg), hc, ?_, fun d hd => ?_, fun _ => ⟨p1, ?_⟩, fun e => ?_, h.t0, h.r1, by rw [← eu]; exact h.r2, fun p hp d hd => ?_⟩, ?_⟩
    · rw [List.cons_append] at hnd
      exact (List.nodup_cons.1 hnd).2
    · have hne : b ≠ d := fun e => by
        rw [List.cons_append] at hnd
        exact (List.nodup_cons.1 hnd).1 (by rw [e]; exact List.mem_append.2 (.inr hd))
      rw [hb, getK_setK_ne _ _ _ (by simp [hne])]
      exact h.un d (by rw [ep]; exact hd)
    · rw [← p2, getK_setK, ← p3]
      congr 3
    · rw [hb, getK_setK_ne _ _ _ (by simp)]
      exact h.k0 e
    · rcases setK_mem _ _ _ _ hp with e | hp
      · exact h3.xs d (by rw [← e]; exact hd)
      · exact h.kl p hp d hd
    · simp [lft, hR, Fo.tc]

/-- The last list is closed. -/
theorem MI.fin (h : MI W0 S O L x0 T0 dn top [] kv room) (hn : top.n = 0) : getK x0 (setK top.x (.int .i64 top.s) kv) = some (.int .i64 T0) ∧ T0 ≤ 1048576 ∧ 1048576 ≤ room ∧ room ≤ 1048576 + 16 * T0 ∧ ∀ p ∈ setK top.x (.int .i64 top.s) kv, ∀ b, p.1 = some b → S b ∧ LiveB W0 b := by
  have h3 := h.ok top List.mem_cons_self
  have hf := h3.fit
  rw [hn] at hf
  have hR := fit_nil hf
  have hsum := h3.sum
  rw [hR] at hsum
  simp only [Fo.tc] at hsum
  have hch := h.ch
  have hmx := h3.mx
  cases hch with
  | one _ e1 e2 =>
    refine ⟨?_, by omega, h.r1, by have := h.r2; omega, fun p hp d hd => ?_⟩
    · rw [← e1, getK_setK]
      congr 3
      omega
    · rcases setK_mem _ _ _ _ hp with e | hp
      · exact h3.xs d (by rw [← e]; exact hd)
      · exact h.kl p hp d hd

theorem MI.start {a : Option Addr} {n c : Nat} {R : Fo} (hf : Fit E R (rep (E 2) n)) (hs : R.Sub W0 S a n c) (hat : R.At O L) (ha : 0 < R.len → ∃ b, a = some ⟨b, O b, none⟩ ∧ L b = n) (hl : ∀ d ∈ blk a R.len ++ R.inn, LiveB W0 d) (hd : (blk a R.len ++ R.inn).Nodup) (hm : R.tc ≤ 1048576) :
    MI W0 S O L (keyOf a n) R.tc false ⟨keyOf a n, R.tc, a, n, c, R, 0⟩ [] (setK (keyOf a n) (.int .i64 2305843009213693951) [(none, .int .i64 0)]) (1048576 + 16 * n) := by
  obtain ⟨hlen, htc⟩ := ty_len _ _ hf
  have hxs : ∀ b, keyOf a n = some b → blk a R.len = [b] ∧ S b ∧ LiveB W0 b := fun b e => by
    have hn : 0 < n := by
      by_cases h0 : n = 0
      · simp [keyOf, h0] at e
      · omega
    obtain ⟨b', e1, e2, e3⟩ := key_some hlen ha hn
    rw [e] at e1
    have : b = b' := Option.some.inj e1
    subst this
    obtain ⟨b2, o2, e4, e5, -⟩ := hs.2.2 (by omega)
    rw [e3] at e4
    cases e4
    exact ⟨e2, e5, hl b (by rw [e2]; simp)⟩
  refine ⟨fun f hf' => ?_, .one _ rfl rfl, ?_, fun d hd' => ?_, fun e => (by cases e), fun e => ?_, fun e => ?_, by omega, ?_, fun p hp d hd' => ?_⟩
  · rcases List.mem_cons.1 hf' with rfl | hf'
    · exact ⟨hf, hs, by show 0 + R.tc = R.tc; omega, hat, fun d hd => hl d (List.mem_append.2 (.inr hd)), hm, fun b e => (hxs b e).2⟩
    · exact absurd hf' List.not_mem_nil
  · cases e : keyOf a n with
    | none =>
      have := (List.nodup_append.1 hd).2.1
      simpa [xbs, pnd] using this
    | some b =>
      rw [(hxs b e).1] at hd
      simpa [xbs, pnd] using hd
  · have hd2 : d ∈ R.inn := by simpa [pnd] using hd'
    cases e : keyOf a n with
    | none =>
      rw [getK_setK_ne _ _ _ (by simp)]
      simp [getK]
    | some b =>
      have hne : b ≠ d := fun e' => by
        rw [(hxs b e).1] at hd
        exact (List.nodup_cons.1 hd).1 (by rw [e']; exact hd2)
      rw [getK_setK_ne _ _ _ (by simp [hne])]
      simp [getK]
  · rw [getK_setK_ne _ _ _ e]
    rfl
  · have hn : n = 0 := by
      by_cases hn : n = 0
      · exact hn
      · obtain ⟨b', e1, -⟩ := key_some hlen ha (by omega)
        rw [e] at e1
        cases e1
    subst hn
    obtain rfl := fit_nil hf
    rfl
  · simp [uno]
    omega
  · rcases setK_mem _ _ _ _ hp with e | hp
    · exact (hxs d (by rw [← e]; exact hd')).2
    · have : p = (none, .int .i64 0) := by simpa using hp
      rw [this] at hd'
      cases hd'

end

end Go.Proofs.Ytcflciblcdabpaa

namespace Go.Proofs.Ytcflciblcdabpaa
open Go.RowKit Go.Joins

theorem exists_least {p : Nat → Prop} : ∀ n, p n → ∃ m, p m ∧ ∀ k, p k → m ≤ k := by
  intro n
  induction n using Nat.strongRecOn with
  | _ n ih =>
    intro hn
    by_cases h : ∃ k, k < n ∧ p k
    · obtain ⟨k, hk, hp⟩ := h
      exact ih k hk hp
    · exact ⟨n, hn, fun k hk => Nat.not_lt.1 (fun hlt => h ⟨k, hlt, hk⟩)⟩

open Classical in
noncomputable def least (p : Nat → Prop) : Nat := if h : ∃ m, p m ∧ ∀ k, p k → m ≤ k then Classical.choose h else 0

theorem least_spec {p : Nat → Prop} (h : ∃ n, p n) : p (least p) := by
  obtain ⟨n, hn⟩ := h
  unfold least
  rw [dif_pos (exists_least n hn)]
  exact (Classical.choose_spec (exists_least n hn)).1

theorem least_le {p : Nat → Prop} {n : Nat} (h : p n) : least p ≤ n := by
  unfold least
  rw [dif_pos (exists_least n h)]
  exact (Classical.choose_spec (exists_least n h)).2 n h

set_option maxRecDepth 100000 in
theorem run_pop (w : World) (g off n c : Nat) : (Instr.sliceAt 30 (.slice (some ⟨g, off, none⟩) (n + 1) c) (some (.int .i64 1)) none none).run Try.prog w = .ok (.slice (some ⟨g, if c = 1 then off else off + 4, none⟩) n (c - 1)) w := by
  have h := run_slice_l (P := Try.prog) w 30 (some ⟨g, off, none⟩) (n + 1) c Try.underlying30 .i64 1 (by decide) (by omega)
  rw [run_sliceAt_slice (P := Try.prog) w 30 _ _ _ _ Try.underlying30, h]
  have hs : (sizeOf (Try.prog.elem 30)).run Try.prog w = .ok 4 w := by kernel_rfl
  rw [hs]
  show Result.ok (sliced _ _ _ _ _) w = _
  simp only [sliced]
  by_cases hc : c = 1
  · simp [hc]
  · have e : (1 : Int).toNat = 1 := rfl
    simp [e, hc, Addr.add]

theorem ownsRow_cell {W : World} {B g cap n sz : Nat} {e : TypeId} {xs : List Value} (h : W.ownsRow B e sz (.slice (some ⟨g, 0, none⟩) n cap) n xs) (j : Nat) (v : Value) (hv : xs[j]? = some v) : W.cell? ⟨g, j, none⟩ = some v := by
  rcases h.2 with ⟨h1, h2⟩ | ⟨b, cap', cur, hv', hb, hg, hnc, hcm, hcs, ht⟩
  · cases h1
  · cases hv'
    have hj : (cur.toList.take (n * sz))[j]? = some v := by rw [ht]; exact hv
    rw [List.getElem?_take] at hj
    split at hj
    · simp only [World.cell?, hg]
      simpa using hj
    · cases hj

theorem ownsRow_live {W : World} {B g cap n sz : Nat} {e : TypeId} {xs : List Value} (h : W.ownsRow B e sz (.slice (some ⟨g, 0, none⟩) n cap) n xs) (j : Nat) : W.frozen? ⟨g, j, none⟩ = false := by
  rcases h.2 with ⟨h1, h2⟩ | ⟨b, cap', cur, hv', hb, hg, hnc, hcm, hcs, ht⟩
  · cases h1
  · cases hv'
    simp [World.frozen?, hg]

theorem ownsRow_le {W : World} {B g cap n sz : Nat} {e : TypeId} {xs : List Value} (h : W.ownsRow B e sz (.slice (some ⟨g, 0, none⟩) n cap) n xs) : B ≤ g ∧ g < W.heap.size ∧ n ≤ cap ∧ cap ≤ maxLen := by
  rcases h.2 with ⟨h1, h2⟩ | ⟨b, cap', cur, hv', hb, hg, hnc, hcm, hcs, ht⟩
  · cases h1
  · cases hv'
    exact ⟨hb, (Array.getElem?_eq_some_iff.1 hg).1, hnc, hcm⟩

/-- The row without its last elements. -/
theorem ownsRow_cut {W : World} {B g cap n m sz : Nat} {e : TypeId} {xs ys : List Value} (h : W.ownsRow B e sz (.slice (some ⟨g, 0, none⟩) (n + m) cap) (n + m) (xs ++ ys)) (hl : xs.length = n * sz) : W.ownsRow B e sz (.slice (some ⟨g, 0, none⟩) n cap) n xs := by
  rcases h.2 with ⟨h1, h2⟩ | ⟨b, cap', cur, hv', hb, hg, hnc, hcm, hcs, ht⟩
  · cases h1
  · cases hv'
    refine ⟨hl, .inr ⟨g, cap, cur, rfl, hb, hg, by omega, hcm, hcs, ?_⟩⟩
    have : (cur.toList.take ((n + m) * sz)).take (n * sz) = xs := by
      rw [ht, ← hl]
      simp
    rw [List.take_take] at this
    rw [← this, Nat.min_eq_left (Nat.mul_le_mul_right _ (by omega))]

end Go.Proofs.Ytcflciblcdabpaa
