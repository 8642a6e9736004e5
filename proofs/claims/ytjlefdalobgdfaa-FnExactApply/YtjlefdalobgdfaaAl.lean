import Derived.Test.YtjlefdalobgdfaaAk
namespace Go.Proofs.Ytjlefdalobgdfaa
open Go.RowKit Go.Joins Go.MapKept Go.ChangeMaps

def pv (q : Nat) : Value := .pointer (some ⟨q, 0, none⟩)

/-- Rows of pointers of their own. -/
def PR (B : Nat) (w : World) (v : Value) (qs : List Nat) : Prop := w.ownsRow B 96 1 v qs.length (qs.map pv)

theorem PR.kept {B : Nat} {w w' : World} {v : Value} {L : List Nat} (h : PR B w v L) {S : Nat → Prop} (k : Kept S w w') (hS : ∀ c, v.ownBlock = some c → S c) : PR B w' v L := by
  obtain ⟨h1, h2⟩ := h
  refine ⟨h1, ?_⟩
  rcases h2 with h2 | ⟨b, cap, cur, rfl, hb, hg, rest⟩
  · exact .inl h2
  · refine .inr ⟨b, cap, cur, rfl, hb, ?_, rest⟩
    have hlt : b < w.heap.size := (Array.getElem?_eq_some_iff.1 hg).1
    rw [k.block b hlt (hS b rfl)]
    exact hg

theorem PR.nil (B : Nat) (w : World) : PR B w (.slice none 0 0) [] := ⟨rfl, .inl ⟨rfl, rfl⟩⟩

theorem PR.blk {B : Nat} {w : World} {v : Value} {L : List Nat} (h : PR B w v L) : ∀ c, v.ownBlock = some c → B ≤ c ∧ Ty w c 96 := fun c hc => by
  rcases h.2 with ⟨rfl, h0⟩ | ⟨b, cap, cur, rfl, hb, hg, -⟩
  · cases hc
  · simp only [Value.ownBlock, Option.some.injEq] at hc
    subst hc
    exact ⟨hb, ⟨cur, hg⟩⟩

theorem PR.pt {B : Nat} {w : World} {a : Option Addr} {n cap : Nat} {L : List Nat} (h : PR B w (.slice a n cap) L) (hn : n = L.length) : Pt w a cap L := by
  rcases id h.2 with ⟨e, h0⟩ | ⟨b, cap', cur, e, hb, hg, hc, hm, -⟩
  · simp only [Value.slice.injEq] at e
    obtain ⟨rfl, -, rfl⟩ := e
    exact ⟨by omega, Nat.zero_le _, fun h => by omega⟩
  · simp only [Value.slice.injEq] at e
    obtain ⟨rfl, rfl, rfl⟩ := e
    refine ⟨hc, hm, fun _ => ⟨b, rfl, ⟨cur, hg⟩, fun i q hq => ?_⟩⟩
    have hlt : i < L.length := (List.getElem?_eq_some_iff.1 hq).1
    have e0 := World.ownsRow.cellAt h i (by omega)
    refine e0.trans ?_
    rw [List.getElem?_map, hq]
    rfl

theorem info_ptr : (Try.prog.info? 96).map (fun i => (i.zero, i.size, i.bytes)) = some (some (.pointer none), 1, 8) := by kernel_rfl

/-- One pointer more, where a region draws. -/
theorem pr_draw {ops : Array Oper} {o : Oper} {a : Act} {K : Act → World → Prop} {Q : Exit → Act → World → Prop} {E : Prop} (hgd : o.guard = none) (s x : Operand)
    (ho : o.op = .call { callee := .builtin .append, args := #[s, x], argTypes := #[99, 99] })
    (B : Nat) (w : World) (v : Value) (L : List Nat) (y : Nat) (bb c m : Nat) (hm : L.length = m) (hs : a.eval s = v) (hown : PR B w v L) (hx : a.eval x = .slice (some ⟨bb, 0, none⟩) 1 c) (hb : w.heap[bb]? = some (.cells #[.pointer (some ⟨y, 0, none⟩)] 96)) (hB : B ≤ w.heap.size) (hl : L.length < 2097152)
    (h : ∀ g cap w', PR B w' (.slice (some ⟨g, 0, none⟩) (m + 1) cap) (L ++ [y]) → w.grownBy w' v.ownBlock → (v.ownBlock = some g ∨ g = w.heap.size) → K (a.put o.dst (.slice (some ⟨g, 0, none⟩) (m + 1) cap)) w') :
    if Region.wanted o (yielded ops a.tmps) = true then Oper.wp Try.prog o a w K Q else E := by
  subst hm
  obtain ⟨i0, hi, hz0, hz1, hz2⟩ := info_parts info_ptr
  refine step_append_lies w hgd s x 99 ho B 96 i0 (.pointer none) 1 8 Try.underlying99 hi hz0 hz1 hz2 rfl (by decide) v L.length _ hs hown ⟨bb, 0, none⟩ 1 c [.pointer (some ⟨y, 0, none⟩)] hx rfl (World.news_of_block hb) (fun u hu => by simp only [List.mem_singleton] at hu; subst hu; rfl) (by omega) (by unfold maxLen; omega) (by omega) hB w.heap.size rfl ?_
  intro g cap w' h1 h2 h3 h4
  refine h g cap w' ?_ h2 h3
  unfold PR
  rw [List.map_append, List.length_append]
  exact h1

/-- Nodes that were read from types; lo: the nodes, ro: the rows. -/
inductive RdL (lo ro : Nat → Prop) (env : List (Int × Nat)) (W : World) : List Nat → Fo → Prop
  | nil : RdL lo ro env W [] .nil
  | var {p : Nat} {ps : List Nat} {ix : Int} {a' : Option Addr} {cap' : Nat} {r : Fo} (hv : getE ix env = some p) (h2 : RdL lo ro env W ps r) : RdL lo ro env W (p :: ps) (.cons 1 ix ⟨#[]⟩ a' cap' .nil r)
  | con {p : Nat} {ps qs : List Nat} {k ix : Int} {nm : ByteArray} {a a' : Option Addr} {cap cap' : Nat} {ks r : Fo} (hk : k ≠ 1) (hl : lo p) (hr : ∀ b, (Value.slice a qs.length cap).ownBlock = some b → ro b) (nc : NC W p k ix nm a qs.length cap) (pt : Pt W a cap qs) (h1 : RdL lo ro env W qs ks) (h2 : RdL lo ro env W ps r) : RdL lo ro env W (p :: ps) (.cons k ix nm a' cap' ks r)

theorem RdL.mono {lo hi ro ho : Nat → Prop} {env env' : List (Int × Nat)} (h1 : ∀ f, lo f → hi f) (h2 : ∀ f, ro f → ho f) (h3 : Ext env env') {W : World} {ps : List Nat} {F : Fo} (h : RdL lo ro env W ps F) : RdL hi ho env' W ps F := by
  induction h with
  | nil => exact .nil
  | var hv _ i2 => exact .var (h3 _ _ hv) i2
  | con hk hl hr nc pt _ _ i1 i2 => exact .con hk (h1 _ hl) (fun b hb => h2 b (hr b hb)) nc pt i1 i2

theorem RdL.kept {lo ro : Nat → Prop} {env : List (Int × Nat)} {A B : World} {S : Nat → Prop} (k : Kept S A B) (h1 : ∀ f, lo f → S f) (h2 : ∀ f, ro f → S f) {ps : List Nat} {F : Fo} (h : RdL lo ro env A ps F) : RdL lo ro env B ps F := by
  induction h with
  | nil => exact .nil
  | var hv _ i2 => exact .var hv i2
  | @con p ps qs k' ix nm a a' cap cap' ks r hk hl hr nc pt _ _ i1 i2 =>
    refine .con hk hl hr (nc.kept k (h1 _ hl)) ⟨pt.le, pt.mx, fun hl => ?_⟩ i1 i2
    obtain ⟨b, e, ht, hc⟩ := pt.at_ hl
    have hs : S b := h2 b (hr b (by rw [e]; rfl))
    exact ⟨b, e, k.ty ht hs, fun i q hq => (k.cell (p := ⟨b, i, none⟩) ht.lt hs).trans (hc i q hq)⟩

theorem RdL.app {lo ro : Nat → Prop} {env : List (Int × Nat)} {W : World} {ps : List Nat} {F : Fo} (h : RdL lo ro env W ps F) {qs : List Nat} {G : Fo} (g : RdL lo ro env W qs G) : RdL lo ro env W (ps ++ qs) (F.app G) := by
  induction h with
  | nil => exact g
  | var hv _ i2 => exact .var hv i2
  | con hk hl hr nc pt h1 _ _ i2 => exact .con hk hl hr nc pt h1 i2

theorem Ext.refl (A : List (Int × Nat)) : Ext A A := fun _ _ h => h
theorem Ext.trans {A B C : List (Int × Nat)} (h : Ext A B) (k : Ext B C) : Ext A C := fun x p hp => k x p (h x p hp)
theorem Mor.refl (lo : Nat → Prop) (W : World) : Mor lo lo W := ⟨fun _ h => h, fun _ h => .inl h⟩
theorem Mor.trans {lo hi hj : Nat → Prop} {A B : World} (h : Mor lo hi A) (k : Mor hi hj B) (hs : A.heap.size ≤ B.heap.size) : Mor lo hj A := ⟨fun f hf => k.up f (h.up f hf), fun f hf => by
  rcases k.nw f hf with hf | hf
  · exact h.nw f hf
  · exact .inr (by omega)⟩

/-- A node that is being made. -/
structure NT (W : World) (f : Nat) (k ix : Int) (nm : ByteArray) (v : Value) : Prop where
  ty : Ty W f 103
  ab : W.cell? ⟨f, 0, none⟩ = some (.pointer none)
  c1 : W.cell? ⟨f, 1, none⟩ = some (.int .i64 k)
  c2 : W.cell? ⟨f, 2, none⟩ = some (.int .i64 ix)
  c3 : W.cell? ⟨f, 3, none⟩ = some (.string nm)
  c4 : W.cell? ⟨f, 4, none⟩ = some v
  c5 : W.cell? ⟨f, 5, none⟩ = some (.int .i64 0)
  c6 : W.cell? ⟨f, 6, none⟩ = some (.int .i64 0)
  c7 : W.cell? ⟨f, 7, none⟩ = some (.int .i64 0)

theorem NT.kept {A B : World} {S : Nat → Prop} {f : Nat} {k ix : Int} {nm : ByteArray} {v : Value} (h : NT A f k ix nm v) (s : Kept S A B) (hs : S f) : NT B f k ix nm v := by
  have hl := h.ty.lt
  have hc : ∀ j, B.cell? ⟨f, j, none⟩ = A.cell? ⟨f, j, none⟩ := fun j => s.cell (p := ⟨f, j, none⟩) hl hs
  exact ⟨s.ty h.ty hs, (hc 0).trans h.ab, (hc 1).trans h.c1, (hc 2).trans h.c2, (hc 3).trans h.c3, (hc 4).trans h.c4, (hc 5).trans h.c5, (hc 6).trans h.c6, (hc 7).trans h.c7⟩

theorem new_nt (W : World) (k ix : Int) (nm : ByteArray) : NT (W.alloc (.cells #[.pointer none, .int .i64 k, .int .i64 ix, .string nm, .slice none 0 0, .int .i64 0, .int .i64 0, .int .i64 0, .int .i64 0] 103)) W.heap.size k ix nm (.slice none 0 0) := by
  have h := (MapKept.heap_alloc W (.cells #[.pointer none, .int .i64 k, .int .i64 ix, .string nm, .slice none 0 0, .int .i64 0, .int .i64 0, .int .i64 0, .int .i64 0] 103)).1
  exact ⟨⟨_, h⟩, cell_of h rfl, cell_of h rfl, cell_of h rfl, cell_of h rfl, cell_of h rfl, cell_of h rfl, cell_of h rfl, cell_of h rfl⟩

theorem NT.set {W : World} {f : Nat} {k ix : Int} {nm : ByteArray} {v : Value} (h : NT W f k ix nm v) (x : Value) : NT (W.setCell ⟨f, 4, none⟩ x) f k ix nm x :=
  ⟨ty_set.2 h.ty, (World.cell?_setCell_other _ _ _ _ (by simp)).trans h.ab, (World.cell?_setCell_other _ _ _ _ (by simp)).trans h.c1, (World.cell?_setCell_other _ _ _ _ (by simp)).trans h.c2, (World.cell?_setCell_other _ _ _ _ (by simp)).trans h.c3,
    World.cell?_setCell_same' _ _ _ (by rw [h.c4]; rfl), (World.cell?_setCell_other _ _ _ _ (by simp)).trans h.c5, (World.cell?_setCell_other _ _ _ _ (by simp)).trans h.c6, (World.cell?_setCell_other _ _ _ _ (by simp)).trans h.c7⟩

/-- What a reader has read. -/
structure RdS (lo ro : Nat → Prop) (W : World) (M : Nat) (env : List (Int × Nat)) : Prop where
  rd : RdW lo W M env
  ro : ∀ b, ro b → Ty W b 96

theorem RdS.kept {lo ro : Nat → Prop} {A B : World} {M : Nat} {env : List (Int × Nat)} {S : Nat → Prop} (h : RdS lo ro A M env) (k : Kept S A B) (hM : S M) (h1 : ∀ c, lo c → S c) (h2 : ∀ c, ro c → S c) : RdS lo ro B M env :=
  ⟨h.rd.kept k hM h1, fun b hb => k.ty (h.ro b hb) (h2 b hb)⟩

/-- The variables of a row, one by one. -/
def Fo.vs : Fo → List Int
  | .nil => []
  | .cons k ix _ _ _ ks r => (if k = 1 then [ix] else ks.vs) ++ r.vs

theorem Fo.vs_app : ∀ F G : Fo, (F.app G).vs = F.vs ++ G.vs
  | .nil, _ => rfl
  | .cons k ix nm a cap ks r, G => by simp only [Fo.app, Fo.vs, Fo.vs_app r G, List.append_assoc]

/-- All that a reader knows more is of the row. -/
def Knw (env env' : List (Int × Nat)) (F : Fo) : Prop := ∀ y, (getE y env').isSome → (getE y env).isSome ∨ y ∈ F.vs

/-- What reading a type tells. -/
def RdP (lo ro : Nat → Prop) (M : Nat) (env : List (Int × Nat)) (F : Fo) (W W' : World) (p : Nat) : Prop :=
  ∃ hi ho env', RdL hi ho env' W' [p] F ∧ Ext env env' ∧ RdS hi ho W' M env' ∧ Mor lo hi W ∧ Mor ro ho W ∧ Kept (fun c => c ≠ M) W W' ∧ Knw env env' F

/-- What the loop of the reader knows; T: the node that is made. -/
structure RdI (lo ro : Nat → Prop) (M : Nat) (env : List (Int × Nat)) (W wr : World) (T : Nat) (k ix : Int) (nm : ByteArray) (a : Option Addr) (ks : Fo) (n0 i : Nat) (Fp r : Fo) (v : Value) (qs : List Nat) (hi ho : Nat → Prop) (env' : List (Int × Nat)) : Prop where
  app : Fp.app r = ks
  len : Fp.len = i
  kl : qs.length = i
  tl : W.heap.size ≤ T
  nt : NT wr T k ix nm v
  pr : PR (T + 1) wr v qs
  rl : RdL hi ho env' wr qs Fp
  rs : RdS hi ho wr M env'
  hn : ∀ f, hi f → f ≠ T
  hb : ∀ f, ho f → v.ownBlock ≠ some f
  ext : Ext env env'
  kn : Knw env env' Fp
  mh : Mor lo hi W
  mo : Mor ro ho W
  ke : Kept (fun c => c ≠ M ∧ c < W.heap.size) W wr
  row : 0 < r.len → ∃ b o, a = some ⟨b, o, none⟩ ∧ b < n0 ∧ r.Row wr (fun b => b < n0) b (o + i * 4)

theorem RdI.done {lo ro : Nat → Prop} {M : Nat} {env : List (Int × Nat)} {W wr : World} {T : Nat} {k ix : Int} {nm : ByteArray} {a pa : Option Addr} {ks : Fo} {n0 i pc : Nat} {Fp : Fo} {qs : List Nat} {hi ho : Nat → Prop} {env' : List (Int × Nat)} {cap : Nat} (hk : k ≠ 1) (h : RdI lo ro M env W wr T k ix nm a ks n0 i Fp .nil (.slice pa i pc) qs hi ho env') : RdP lo ro M env (.cons k ix nm a cap ks .nil) W wr T := by
  have e : Fp = ks := by have := h.app; rwa [Fo.app_nil] at this
  have hl := h.kl
  have hv : (Value.slice pa qs.length pc) = .slice pa i pc := by rw [hl]
  have hz := h.ke.size
  refine ⟨fun f => hi f ∨ f = T, fun b => ho b ∨ (Value.slice pa i pc).ownBlock = some b, env', ?_, h.ext, ⟨⟨h.rs.rd.vm, fun x hx => ⟨.inl (h.rs.rd.ok x hx).1, (h.rs.rd.ok x hx).2⟩, fun f hf => ?_⟩, fun b hb => ?_⟩, ⟨fun f hf => .inl (h.mh.up f hf), fun f hf => ?_⟩, ⟨fun f hf => .inl (h.mo.up f hf), fun f hf => ?_⟩, h.ke.mono (fun c hc h => ⟨h, hc⟩), fun y hy => by
    rcases h.kn y hy with h1 | h1
    · exact .inl h1
    · refine .inr ?_
      rw [e] at h1
      simp only [Fo.vs, if_neg hk, List.append_nil]
      exact h1⟩
  · refine .con hk (.inr rfl) (fun b hb => .inr (by rw [← hv]; exact hb)) ⟨h.nt.ty, h.nt.ab, h.nt.c1, h.nt.c2, h.nt.c3, by rw [hl]; exact h.nt.c4⟩ (h.pr.pt hl.symm) ?_ .nil
    rw [← e]
    exact h.rl.mono (fun _ h => .inl h) (fun _ h => .inl h) (Ext.refl _)
  · rcases hf with hf | rfl
    · exact h.rs.rd.zr f hf
    · exact ⟨h.nt.ty, h.nt.c5, h.nt.c6, h.nt.c7⟩
  · rcases hb with hb | hb
    · exact h.rs.ro b hb
    · exact (h.pr.blk b hb).2
  · rcases hf with hf | rfl
    · exact h.mh.nw f hf
    · exact .inr h.tl
  · rcases hf with hf | hf
    · exact h.mo.nw f hf
    · have := (h.pr.blk f hf).1
      have := h.tl
      exact .inr (by omega)

end Go.Proofs.Ytjlefdalobgdfaa
