import Derived.Test.YtjlefdalobgdfaaLf
import Derived.Deep.AppendLies
import Derived.Laws.OwnMore
import Derived.Laws.AppendOwnNone
import Derived.Deep.DeepCutAuto
namespace Go.Proofs.Ytjlefdalobgdfaa
open Go.RowKit Go.Joins

/-- A type of a row. -/
structure Nd where
  k : Int
  ix : Int
  nm : ByteArray
  a : Option Addr
  cap : Nat
  ks : Fo

def Fo.l : Fo → List Nd
  | .nil => []
  | .cons k ix nm a cap ks r => ⟨k, ix, nm, a, cap, ks⟩ :: r.l

theorem Fo.l_length : ∀ F : Fo, F.l.length = F.len
  | .nil => rfl
  | .cons _ _ _ _ _ _ r => by simp only [Fo.l, List.length_cons, Fo.len, r.l_length]

/-- What memory says of a type. -/
structure Nd.At (d : Nd) (W : World) (S : Nat → Prop) (b o : Nat) : Prop where
  wf : (Lit.int .i64 d.k).wf = true
  wi : (Lit.int .i64 d.ix).wf = true
  nm : d.nm.size ≤ maxLen
  c0 : W.cell? ⟨b, o, none⟩ = some (.int .i64 d.k)
  ci : W.cell? ⟨b, o + 1, none⟩ = some (.int .i64 d.ix)
  c1 : W.cell? ⟨b, o + 2, none⟩ = some (.string d.nm)
  c2 : W.cell? ⟨b, o + 3, none⟩ = some (.slice d.a d.ks.len d.cap)
  sl : d.ks.Sl W S d.a d.cap

theorem Fo.Row.get {W : World} {S : Nat → Prop} : ∀ {F : Fo} {b o : Nat}, F.Row W S b o → ∀ (i : Nat) (d : Nd), F.l[i]? = some d → d.At W S b (o + i * 4)
  | .nil, _, _, _, i, d, h => by simp [Fo.l] at h
  | .cons _ _ _ _ _ _ r, b, o, ⟨hk, hi, hn, c1, ci, c2, c3, h4, h5, h6, h7⟩, i, d, h => by
    cases i with
    | zero =>
      simp only [Fo.l, List.getElem?_cons_zero, Option.some.injEq] at h
      subst h
      simp only [Nat.zero_mul, Nat.add_zero]
      exact ⟨hk, hi, hn, c1, ci, c2, c3, h4, h5, h6⟩
    | succ i =>
      simp only [Fo.l, List.getElem?_cons_succ] at h
      have := Fo.Row.get h7 i d h
      rw [show o + (i + 1) * 4 = o + 4 + i * 4 by omega]
      exact this

/-! Rows of types of their own. -/

def Nd.cells (d : Nd) : List Value := [.int .i64 d.k, .int .i64 d.ix, .string d.nm, .slice d.a d.ks.len d.cap]
def NR (B : Nat) (w : World) (v : Value) (K : List Nd) : Prop := w.ownsRow B 29 4 v K.length (K.flatMap Nd.cells)

theorem flat_get : ∀ (K : List Nd) (q : Nat) (d : Nd), K[q]? = some d → (K.flatMap Nd.cells)[q * 4]? = some (.int .i64 d.k) ∧ (K.flatMap Nd.cells)[q * 4 + 1]? = some (.int .i64 d.ix) ∧ (K.flatMap Nd.cells)[q * 4 + 2]? = some (.string d.nm) ∧ (K.flatMap Nd.cells)[q * 4 + 3]? = some (.slice d.a d.ks.len d.cap)
  | [], q, d, h => by simp at h
  | x :: K, 0, d, h => by
    simp only [List.getElem?_cons_zero, Option.some.injEq] at h
    subst h
    simp [Nd.cells]
  | x :: K, q + 1, d, h => by
    simp only [List.getElem?_cons_succ] at h
    have := flat_get K q d h
    simp only [List.flatMap_cons, Nd.cells, List.cons_append, List.nil_append]
    rw [show (q + 1) * 4 = q * 4 + 4 by omega, show q * 4 + 4 + 1 = q * 4 + 1 + 4 by omega, show q * 4 + 4 + 2 = q * 4 + 2 + 4 by omega, show q * 4 + 4 + 3 = q * 4 + 3 + 4 by omega]
    simp only [List.getElem?_cons_succ]
    exact this

theorem NR.cells {B : Nat} {w : World} {b n cap : Nat} {K : List Nd} (h : NR B w (.slice (some ⟨b, 0, none⟩) n cap) K) (hn : n = K.length) (q : Nat) (d : Nd) (hq : K[q]? = some d) :
    w.cell? ⟨b, q * 4, none⟩ = some (.int .i64 d.k) ∧ w.cell? ⟨b, q * 4 + 1, none⟩ = some (.int .i64 d.ix) ∧ w.cell? ⟨b, q * 4 + 2, none⟩ = some (.string d.nm) ∧ w.cell? ⟨b, q * 4 + 3, none⟩ = some (.slice d.a d.ks.len d.cap) := by
  subst hn
  have hlt : q < K.length := (List.getElem?_eq_some_iff.1 hq).1
  obtain ⟨h0, hi, h1, h2⟩ := flat_get K q d hq
  have e0 := World.ownsRow.cellAt h (q * 4) (by omega)
  have ei := World.ownsRow.cellAt h (q * 4 + 1) (by omega)
  have e1 := World.ownsRow.cellAt h (q * 4 + 2) (by omega)
  have e2 := World.ownsRow.cellAt h (q * 4 + 3) (by omega)
  exact ⟨e0.trans h0, ei.trans hi, e1.trans h1, e2.trans h2⟩

theorem NR.kept {B : Nat} {w w' : World} {v : Value} {L : List Nd} (h : NR B w v L) {S : Nat → Prop} (k : Kept S w w') (hS : ∀ c, v.ownBlock = some c → S c) : NR B w' v L := by
  obtain ⟨h1, h2⟩ := h
  refine ⟨h1, ?_⟩
  rcases h2 with h2 | ⟨b, cap, cur, rfl, hb, hg, rest⟩
  · exact .inl h2
  · refine .inr ⟨b, cap, cur, rfl, hb, ?_, rest⟩
    have hlt : b < w.heap.size := (Array.getElem?_eq_some_iff.1 hg).1
    rw [k.block b hlt (hS b rfl)]
    exact hg
theorem NR.nil (B : Nat) (w : World) : NR B w (.slice none 0 0) [] := ⟨rfl, .inl ⟨rfl, rfl⟩⟩
theorem NR.sl {B : Nat} {w : World} {v : Value} {L : List Nd} (h : NR B w v L) : ∃ a cap, v = .slice a L.length cap ∧ L.length ≤ cap := by
  rcases h.2 with ⟨rfl, h0⟩ | ⟨b, cap, cur, rfl, _, _, hc, _⟩
  · exact ⟨none, 0, by rw [h0], by omega⟩
  · exact ⟨_, cap, rfl, hc⟩
theorem NR.blk {B : Nat} {w : World} {v : Value} {L : List Nd} (h : NR B w v L) : ∀ c, v.ownBlock = some c → B ≤ c ∧ c < w.heap.size := fun c hc => by
  rcases h.2 with ⟨rfl, h0⟩ | ⟨b, cap, cur, rfl, hb, hg, -⟩
  · cases hc
  · simp only [Value.ownBlock, Option.some.injEq] at hc
    subst hc
    exact ⟨hb, (Array.getElem?_eq_some_iff.1 hg).1⟩

/-- Types in a row of any make. -/
def Fo.ofl : List Nd → Fo
  | [] => .nil
  | d :: r => .cons d.k d.ix d.nm d.a d.cap d.ks (Fo.ofl r)

theorem Fo.ofl_l : ∀ K : List Nd, (Fo.ofl K).l = K
  | [] => rfl
  | d :: r => by simp only [Fo.ofl, Fo.l, Fo.ofl_l r]

theorem Fo.ofl_len (K : List Nd) : (Fo.ofl K).len = K.length := by rw [← Fo.l_length, Fo.ofl_l]

theorem Fo.ofl_app : ∀ K M : List Nd, Fo.ofl (K ++ M) = (Fo.ofl K).app (Fo.ofl M)
  | [], _ => rfl
  | d :: r, M => by simp only [List.cons_append, Fo.ofl, Fo.app, Fo.ofl_app r M]

theorem Fo.row_of {W : World} {S : Nat → Prop} : ∀ {F : Fo} {b o : Nat}, (∀ (i : Nat) (d : Nd), F.l[i]? = some d → d.At W S b (o + i * 4)) → F.Row W S b o
  | .nil, _, _, _ => trivial
  | .cons k ix nm a cap ks r, b, o, h => by
    have h0 := h 0 ⟨k, ix, nm, a, cap, ks⟩ rfl
    simp only [Nat.zero_mul, Nat.add_zero] at h0
    refine ⟨h0.wf, h0.wi, h0.nm, h0.c0, h0.ci, h0.c1, h0.c2, h0.sl.1, h0.sl.2.1, h0.sl.2.2, Fo.row_of (fun i d hi => ?_)⟩
    have := h (i + 1) d (by simpa [Fo.l] using hi)
    rwa [show o + (i + 1) * 4 = o + 4 + i * 4 by omega] at this

/-- A type's value is sound. -/
structure Nd.Ok (d : Nd) (W : World) (S : Nat → Prop) : Prop where
  wf : (Lit.int .i64 d.k).wf = true
  wi : (Lit.int .i64 d.ix).wf = true
  nm : d.nm.size ≤ maxLen
  sl : d.ks.Sl W S d.a d.cap

def Nd.v (d : Nd) : Value := nodeV d.k d.ix d.nm d.a d.ks.len d.cap

theorem Nd.At.ok {d : Nd} {W : World} {S : Nat → Prop} {b o : Nat} (h : d.At W S b o) : d.Ok W S := ⟨h.wf, h.wi, h.nm, h.sl⟩

theorem Nd.Ok.keep {d : Nd} {A B : World} {S T : Nat → Prop} (h : d.Ok A S) (hT : ∀ b, S b → T b) (h2 : ∀ p : Addr, S p.block → ∀ v, A.cell? p = some v → B.cell? p = some v) : d.Ok B T := ⟨h.wf, h.wi, h.nm, h.sl.keep hT h2⟩

theorem NR.at {B : Nat} {w : World} {b n cap : Nat} {K : List Nd} {S : Nat → Prop} (h : NR B w (.slice (some ⟨b, 0, none⟩) n cap) K) (hn : n = K.length) (hk : ∀ d ∈ K, d.Ok w S) (q : Nat) (d : Nd) (hq : K[q]? = some d) : d.At w S b (0 + q * 4) := by
  obtain ⟨c0, ci, c1, c2⟩ := h.cells hn q d hq
  have ho := hk d (List.mem_of_getElem? hq)
  rw [Nat.zero_add]
  exact ⟨ho.wf, ho.wi, ho.nm, c0, ci, c1, c2, ho.sl⟩

/-- A row of our own is a row of arguments. -/
theorem NR.fo {B : Nat} {w : World} {a : Option Addr} {n cap : Nat} {K : List Nd} {S : Nat → Prop} (h : NR B w (.slice a n cap) K) (hn : n = K.length) (hk : ∀ d ∈ K, d.Ok w S) (hS : ∀ c, B ≤ c → c < w.heap.size → S c) : (Fo.ofl K).Sl w S a cap := by
  rcases h.2 with ⟨e, h0⟩ | ⟨b, cap', cur, e, hb, hg, hc, hm, -⟩
  · simp only [Value.slice.injEq] at e
    obtain ⟨rfl, -, rfl⟩ := e
    have : K = [] := List.length_eq_zero_iff.1 h0
    subst this
    exact ⟨Nat.le_refl _, Nat.zero_le _, fun h => by simp [Fo.ofl, Fo.len] at h⟩
  · simp only [Value.slice.injEq] at e
    obtain ⟨rfl, rfl, rfl⟩ := e
    refine ⟨by rw [Fo.ofl_len]; omega, hm, fun _ => ⟨b, 0, rfl, hS b hb (Array.getElem?_eq_some_iff.1 hg).1, Fo.row_of (fun i d hi => ?_)⟩⟩
    rw [Fo.ofl_l] at hi
    exact h.at rfl hk i d hi

theorem nd_all (y : Nd) : ∀ u ∈ y.cells, u.oneCell' = true := fun u hu => by
  simp only [Nd.cells, List.mem_cons, List.not_mem_nil, or_false] at hu
  rcases hu with rfl | rfl | rfl | rfl <;> rfl

/-- One type more, where a region draws. -/
theorem nr_draw {ops : Array Oper} {o : Oper} {a : Act} {K : Act → World → Prop} {Q : Exit → Act → World → Prop} {E : Prop} (hgd : o.guard = none) (s x : Operand)
    (ho : o.op = .call { callee := .builtin .append, args := #[s, x], argTypes := #[27, 27] })
    (B : Nat) (w : World) (v : Value) (L : List Nd) (y : Nd) (bb c m : Nat) (hm : L.length = m) (hs : a.eval s = v) (hown : NR B w v L) (hx : a.eval x = .slice (some ⟨bb, 0, none⟩) 1 c) (hb : w.heap[bb]? = some (.cells #[.int .i64 y.k, .int .i64 y.ix, .string y.nm, .slice y.a y.ks.len y.cap] 29)) (hB : B ≤ w.heap.size) (hl : L.length < 2097152)
    (h : ∀ g cap w', NR B w' (.slice (some ⟨g, 0, none⟩) (m + 1) cap) (L ++ [y]) → w.grownBy w' v.ownBlock → (v.ownBlock = some g ∨ g = w.heap.size) → K (a.put o.dst (.slice (some ⟨g, 0, none⟩) (m + 1) cap)) w') :
    if Region.wanted o (yielded ops a.tmps) = true then Oper.wp Try.prog o a w K Q else E := by
  subst hm
  obtain ⟨i0, hi, hz0, hz1, hz2⟩ := info_parts Try.info29
  refine step_append_lies w hgd s x 27 ho B 29 i0 (.agg #[.int .i64 0, .int .i64 0, .string ⟨#[]⟩, .slice none 0 0]) 4 56 Try.underlying27 hi hz0 hz1 hz2 rfl (by decide) v L.length _ hs hown ⟨bb, 0, none⟩ 1 c [.int .i64 y.k, .int .i64 y.ix, .string y.nm, .slice y.a y.ks.len y.cap] hx rfl (World.news_of_block hb) (nd_all y) (by omega) (by unfold maxLen; omega) (by omega) hB w.heap.size rfl ?_
  intro g cap w' h1 h2 h3 h4
  refine h g cap w' ?_ h2 h3
  unfold NR
  rw [List.flatMap_append, List.length_append]
  exact h1

/-- A call by its contract, as one step of a region that draws. -/
theorem step_call {P : Program} {ops : Array Oper} {o : Oper} {a : Act} {w : World} {K : Act → World → Prop} {Q : Exit → Act → World → Prop} {E : Prop} (hgd : o.guard = none) (f : FuncId) (args : Array Value) (hrun : (execOp a.eval o).run P w = .ok (.enter f args) w) (post : Value → World → Prop)
    (hc : Calls P f args w fun e w'' => ∃ v, e = .returned v ∧ post v w'') (h : ∀ v w', post v w' → K (a.put o.dst v) w') :
    if Region.wanted o (yielded ops a.tmps) = true then Oper.wp P o a w K Q else E := by
  have hw : Region.wanted o (yielded ops a.tmps) = true := by simp [Region.wanted, hgd]
  rw [if_pos hw]
  unfold Oper.wp
  rw [hrun, Oper.upon_enter]
  refine hc.mono fun e w'' hh => ?_
  obtain ⟨v, rfl, hp⟩ := hh
  exact h v w'' hp

end Go.Proofs.Ytjlefdalobgdfaa
