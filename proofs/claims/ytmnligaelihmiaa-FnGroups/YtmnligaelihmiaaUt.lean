import Derived.Test.YtmnligaelihmiaaUr
import Derived.Deep.AppendLies
import Derived.Laws.OwnMore
import Derived.Maps.AppendAt
import Derived.Deep.DeepCutAuto
namespace Go.Proofs.Ytmnligaelihmiaa
open Go.RowKit Go.Joins

theorem heap_new (W : World) (o : Obj) : (W.alloc o).heap[W.heap.size]? = some o := (MapKept.heap_alloc W o).1

theorem list_ne {a b : ByteArray} (h : a ≠ b) : (a.toList == b.toList) = false := by
  rw [beq_eq_false_iff_ne]
  intro e
  rw [ByteArray.toList_eq, ByteArray.toList_eq] at e
  exact h (ByteArray.ext (Array.ext' e))

theorem Kept.grown {S : Nat → Prop} {A B : World} {row : Option Nat} (hg : A.grownBy B row) (h : ∀ k, row = some k → ¬ S k) : Kept S A B :=
  ⟨hg.os, hg.tape, hg.output, hg.size, fun k hk hs => hg.block k hk (fun e => h k e.symm hs)⟩

theorem Fit.one {E : Nat → List Fld} : ∀ {F : Fo} {fs : List Fld}, Fit E F fs → ∀ u ∈ F.vals, u.oneCell' = true := by
  intro F fs
  induction fs generalizing F with
  | nil => intro h; rw [fit_nil h]; intro u hu; simp [Fo.vals] at hu
  | cons f fs ih =>
    intro h u hu
    cases f with
    | i => obtain ⟨x, r, rfl, -, hr⟩ := fit_i h; rcases List.mem_cons.1 hu with rfl | hu; rfl; exact ih hr u hu
    | b => obtain ⟨x, r, rfl, hr⟩ := fit_b h; rcases List.mem_cons.1 hu with rfl | hu; rfl; exact ih hr u hu
    | u => obtain ⟨x, r, rfl, -, hr⟩ := fit_u h; rcases List.mem_cons.1 hu with rfl | hu; rfl; exact ih hr u hu
    | t => obtain ⟨x, r, rfl, -, hr⟩ := fit_t h; rcases List.mem_cons.1 hu with rfl | hu; rfl; exact ih hr u hu
    | s k => obtain ⟨a, n, cap, ks, r, rfl, -, hr⟩ := fit_s h; rcases List.mem_cons.1 hu with rfl | hu; rfl; exact ih hr u hu

/-- Kinds without slices. -/
theorem Fit.plain {E : Nat → List Fld} : ∀ {F : Fo} {fs : List Fld}, Fit E F fs → (∀ k, Fld.s k ∉ fs) → (∀ W S, F.Subs W S) ∧ F.inn = [] := by
  intro F fs
  induction fs generalizing F with
  | nil => intro h _; rw [fit_nil h]; exact ⟨fun _ _ => trivial, rfl⟩
  | cons f fs ih =>
    intro h hn
    have hn' : ∀ k, Fld.s k ∉ fs := fun k hk => hn k (List.mem_cons_of_mem _ hk)
    cases f with
    | i => obtain ⟨x, r, rfl, -, hr⟩ := fit_i h; exact ⟨fun W S => (ih hr hn').1 W S, (ih hr hn').2⟩
    | b => obtain ⟨x, r, rfl, hr⟩ := fit_b h; exact ⟨fun W S => (ih hr hn').1 W S, (ih hr hn').2⟩
    | u => obtain ⟨x, r, rfl, -, hr⟩ := fit_u h; exact ⟨fun W S => (ih hr hn').1 W S, (ih hr hn').2⟩
    | t => obtain ⟨x, r, rfl, -, hr⟩ := fit_t h; exact ⟨fun W S => (ih hr hn').1 W S, (ih hr hn').2⟩
    | s k => exact absurd List.mem_cons_self (hn k)

theorem rep_plain {fs : List Fld} (h : ∀ k, Fld.s k ∉ fs) : ∀ n k, Fld.s k ∉ rep fs n
  | 0, k => by simp [rep]
  | n + 1, k => by rw [rep, List.mem_append]; rintro (x | x); exact h k x; exact rep_plain h n k x

/-- A row of our own. -/
theorem own_slice {W : World} {B : Nat} {e : TypeId} {size n : Nat} {v : Value} {F : Fo} (h : W.ownsRow B e size v n F.vals) (hs : ∀ g, v.ownBlock = some g → F.Subs W (fun c => B ≤ c ∧ c < W.heap.size)) (hnd : ∀ g, v.ownBlock = some g → (g :: F.inn).Nodup ∧ Live W F.inn) :
    ∃ a cap, v = .slice a n cap ∧ Own B W (.s a n cap F .nil) := by
  have hl := h.1
  rcases h.2 with ⟨rfl, rfl⟩ | ⟨g, cap, cur, rfl, hb, hg, hnc, hcm, hcs, ht⟩
  · rw [Fo.vals_length, Nat.zero_mul] at hl
    have e := Fo.len_zero (F := F) (by omega)
    subst e
    exact ⟨none, 0, rfl, ⟨⟨⟨Nat.le_refl _, Nat.zero_le _, fun hl => by simp [Fo.len] at hl⟩, trivial⟩, by simp [Fo.inn, blk], fun c hc => by simp [Fo.inn, blk] at hc⟩⟩
  · have hlt := (Array.getElem?_eq_some_iff.1 hg).1
    obtain ⟨h1, h2⟩ := hnd g rfl
    refine ⟨_, cap, rfl, ⟨⟨⟨hnc, hcm, fun _ => ⟨g, 0, rfl, ⟨hb, hlt⟩, fun i u hu => ?_, hs g rfl⟩⟩, trivial⟩, ?_, ?_⟩⟩
    · have := h.cells (g := g) rfl i u hu
      rwa [addr_add] at this
    · simp only [Fo.inn, List.append_nil]
      cases hL : F.len with
      | zero => rw [blk_zero]; exact (List.nodup_cons.1 h1).2
      | succ m => exact h1
    · simp only [Fo.inn, List.append_nil]
      intro c hc j
      rcases List.mem_append.1 hc with hc | hc
      · have : c = g := by
          cases hL : F.len with
          | zero => rw [hL, blk_zero] at hc; simp at hc
          | succ m => rw [hL] at hc; simpa [blk] using hc
        subst this
        exact h.frozenAt j
      · exact h2 c hc j

theorem own_plain {E : Nat → List Fld} {W : World} {B : Nat} {e : TypeId} {n : Nat} {v : Value} {F : Fo} {fs : List Fld} (h : W.ownsRow B e fs.length v n F.vals) (hf : Fit E F (rep fs n)) (hp : ∀ k, Fld.s k ∉ fs) :
    ∃ a cap, v = .slice a n cap ∧ Own B W (.s a n cap F .nil) := by
  obtain ⟨h1, h2⟩ := hf.plain (rep_plain hp n)
  exact own_slice h (fun _ _ => h1 _ _) (fun g _ => by rw [h2]; exact ⟨by simp, fun c hc => by simp at hc⟩)

theorem ownsRow_kept {W V : World} {B : Nat} {e : TypeId} {size n : Nat} {v : Value} {xs : List Value} {S : Nat → Prop} (h : W.ownsRow B e size v n xs) (k : Kept S W V) (hS : ∀ c, v.ownBlock = some c → S c) : V.ownsRow B e size v n xs := by
  refine ⟨h.1, ?_⟩
  rcases h.2 with h2 | ⟨b, cap, cur, rfl, hb, hg, rest⟩
  · exact .inl h2
  · refine .inr ⟨b, cap, cur, rfl, hb, ?_, rest⟩
    have hlt : b < W.heap.size := (Array.getElem?_eq_some_iff.1 hg).1
    rw [k.block b hlt (hS b rfl)]
    exact hg

theorem run_append_zero {P : Program} {W : World} {t e ty : TypeId} {i : TypeInfo} {B size n : Nat} {v : Value} {xs : List Value} (ht : P.underlying t = some (.slice e)) (hi : P.info? e = some i) (hown : W.ownsRow B e size v n xs) (a2 : Option Addr) (c2 : Nat) :
    (Builtin.append_ #[t, t] ty #[v, .slice a2 0 c2]).run P W = .ok v W := by
  rcases hown.2 with ⟨rfl, h0⟩ | ⟨g, cap, cur, rfl, _, _, hnc, _⟩
  · cases a2 <;> simp [Builtin.append_, run_underlying ht, sizeOf, typeInfo, hi, Builtin.lenOf, Builtin.firstCells, loadCells, loadCellsFrom]
  · cases a2 <;> simp [Builtin.append_, run_underlying ht, sizeOf, typeInfo, hi, Builtin.lenOf, Builtin.firstCells, hnc, storeCells, loadCells, loadCellsFrom]

/-- A row behind a row of our own. -/
theorem ur_step {P : Program} {ops : Array Oper} {rest : List Oper} {o : Oper} {a : Act} {Q : Exit → Act → World → Prop} (hgd : o.guard = none) (s x : Operand) (t e : TypeId)
    (ho : o.op = .call { callee := .builtin .append, args := #[s, x], argTypes := #[t, t] }) {z : Value} {size bytes : Nat} (hinfo : (P.info? e).map (fun i => (i.zero, i.size, i.bytes)) = some (some z, size, bytes)) (ht : P.underlying t = some (.slice e)) (hzs : z.cells.size = size) (hsz : 0 < size)
    (B : Nat) (W : World) (v : Value) (n : Nat) (xs ys : List Value) (a2 : Option Addr) (m c2 : Nat) (hs : a.eval s = v) (hx : a.eval x = .slice a2 m c2) (hB : B ≤ W.heap.size) (hown : W.ownsRow B e size v n xs)
    (hk : 0 < m → ∃ b o, a2 = some ⟨b, o, none⟩ ∧ Cel W ys b o) (hl : ys.length = m * size) (h1 : ∀ u ∈ ys, u.oneCell' = true) (h63 : n + m ≤ maxLen) (hbytes : (n + m) * bytes ≤ 140737488355328)
    (h : ∀ v' W', W'.ownsRow B e size v' (n + m) (xs ++ ys) → W.grownBy W' v.ownBlock → wpList P ops Q rest (a.put o.dst v') W') : wpList P ops Q (o :: rest) a W := by
  obtain ⟨i0, hi, hz0, hz1, hz2⟩ := info_parts hinfo
  by_cases h0 : 0 < m
  · obtain ⟨b, oo, rfl, hc⟩ := hk h0
    refine wpList_append_own_at W hgd s x t ho B e i0 z size bytes ht hi hz0 hz1 hz2 hzs hsz v n xs hs hown ⟨b, oo, none⟩ m c2 ys hx hl (fun j u hu => by rw [addr_add]; exact hc j u hu) h1 h63 hbytes hB (fun v' W' h2 h3 _ _ => h v' W' h2 h3)
  · have e0 : m = 0 := by omega
    subst e0
    have e1 : ys = [] := List.length_eq_zero_iff.1 (by omega)
    subst e1
    refine wpList_plain hgd fun K1 hK => ?_
    have hr := run_append_zero (ty := o.type) ht hi hown a2 c2
    unfold Oper.wp execOp
    simp only [ho, resolve, invoke, builtin, Sem.run_bind, Sem.run_pure, Result.andThen_ok, List.map_toArray, List.map_cons, List.map_nil, hs, hx, hr]
    exact hK _ _ (h v W (by rw [List.append_nil]; exact hown) ⟨rfl, rfl, rfl, Nat.le_refl _, fun _ _ _ => rfl⟩)

/-- One element more, where a region draws. -/
theorem ur_draw {P : Program} {ops : Array Oper} {o : Oper} {a : Act} {K : Act → World → Prop} {Q : Exit → Act → World → Prop} {E : Prop} (hgd : o.guard = none) (s x : Operand) (t e : TypeId)
    (ho : o.op = .call { callee := .builtin .append, args := #[s, x], argTypes := #[t, t] }) {z : Value} {size bytes : Nat} (hinfo : (P.info? e).map (fun i => (i.zero, i.size, i.bytes)) = some (some z, size, bytes)) (ht : P.underlying t = some (.slice e)) (hzs : z.cells.size = size) (hsz : 0 < size)
    (B : Nat) (w : World) (v : Value) (n : Nat) (xs ys : List Value) (bb c : Nat) (hs : a.eval s = v) (hown : w.ownsRow B e size v n xs) (hx : a.eval x = .slice (some ⟨bb, 0, none⟩) 1 c) (hb : w.heap[bb]? = some (.cells ys.toArray e)) (hB : B ≤ w.heap.size) (hl : ys.length = size) (h1 : ∀ u ∈ ys, u.oneCell' = true) (h63 : n + 1 ≤ maxLen) (hbytes : (n + 1) * bytes ≤ 140737488355328)
    (h : ∀ g cap w', w'.ownsRow B e size (.slice (some ⟨g, 0, none⟩) (n + 1) cap) (n + 1) (xs ++ ys) → w.grownBy w' v.ownBlock → (v.ownBlock = some g ∨ g = w.heap.size) → K (a.put o.dst (.slice (some ⟨g, 0, none⟩) (n + 1) cap)) w') :
    if Region.wanted o (yielded ops a.tmps) = true then Oper.wp P o a w K Q else E := by
  obtain ⟨i0, hi, hz0, hz1, hz2⟩ := info_parts hinfo
  refine step_append_lies w hgd s x t ho B e i0 z size bytes ht hi hz0 hz1 hz2 hzs hsz v n xs hs hown ⟨bb, 0, none⟩ 1 c ys hx (by omega) (fun j u hu => ?_) h1 (by omega) h63 hbytes hB w.heap.size rfl (fun g cap w' h1 h2 h3 _ => h g cap w' h1 h2 h3)
  have := World.news_of_block hb j u (by simpa using hu)
  exact this

/-- A call by its contract, as one step of a region that draws. -/
theorem step_call {P : Program} {ops : Array Oper} {o : Oper} {a : Act} {w : World} {K : Act → World → Prop} {Q : Exit → Act → World → Prop} {E : Prop} (hgd : o.guard = none) (f : FuncId) (args : Array Value) (hrun : (execOp a.eval o).run P w = .ok (.enter f args) w) (post : Value → World → Prop)
    (hc : Calls P f args w fun e w'' => ∃ v, e = .returned v ∧ post v w'') (h : ∀ v w', post v w' → K (a.put o.dst v) w') :
    if Region.wanted o (yielded ops a.tmps) = true then Oper.wp P o a w K Q else E := by
  have hw : Region.wanted o (yielded ops a.tmps) = true := by simp [Region.wanted, hgd]
  rw [if_pos hw]
  unfold Oper.wp
  rw [hrun, Oper.upon_enter]
  refine hc.mono fun e w'' hh => ?_
  obtain ⟨v, rfl, hp⟩ := hh
  exact h v w'' hp

end Go.Proofs.Ytmnligaelihmiaa
