import Derived.Test.YtjlefdalobgdfaaAj
namespace Go.Proofs.Ytjlefdalobgdfaa
open Go.RowKit Go.Joins Go.MapKept Go.ChangeMaps

/-- The node of a variable. -/
def getE (x : Int) : List (Int × Nat) → Option Nat
  | [] => none
  | p :: r => if p.1 = x then some p.2 else getE x r

theorem getE_app {x : Int} : ∀ {A : List (Int × Nat)} {B : List (Int × Nat)}, getE x (A ++ B) = (getE x A).or (getE x B)
  | [], B => by simp [getE]
  | p :: A, B => by
    simp only [List.cons_append, getE]
    split
    · simp
    · exact getE_app

theorem getE_mem {x : Int} : ∀ {A : List (Int × Nat)} {p : Nat}, getE x A = some p → (x, p) ∈ A
  | q :: A, p, h => by
    unfold getE at h
    split at h
    · rename_i hq
      have : q.2 = p := Option.some.inj h
      subst this
      subst hq
      exact List.mem_cons_self
    · exact List.mem_cons_of_mem _ (getE_mem h)

/-- A map from numbers to nodes. -/
def VM (w : World) (M : Nat) (env : List (Int × Nat)) : Prop :=
  ∃ es clock, w.heap[M]? = some (.map es clock) ∧ es.toList.map (fun e => (e.key, e.val)) = env.map (fun p => (Value.int .i64 p.1, Value.pointer (some ⟨p.2, 0, none⟩)))

section
variable {w : World} {M : Nat} {env : List (Int × Nat)}

theorem VM.lt (h : VM w M env) : M < w.heap.size := by
  obtain ⟨es, c, h1, -⟩ := h
  exact (Array.getElem?_eq_some_iff.1 h1).1

theorem VM.kept {w' : World} {S : Nat → Prop} (h : VM w M env) (k : Kept S w w') (hS : S M) : VM w' M env := by
  have hl := h.lt
  obtain ⟨es, c, h1, h2⟩ := h
  exact ⟨es, c, (k.block M hl hS).trans h1, h2⟩

theorem VM.start (w : World) : VM (w.alloc (.map #[] 0)) w.heap.size [] := ⟨#[], 0, (MapKept.heap_alloc w _).1, rfl⟩

theorem find_now (x : Int) : ∀ (es : List MapEntry) (env : List (Int × Nat)) (i : Nat), es.map (fun e => (e.key, e.val)) = env.map (fun p => (Value.int .i64 p.1, Value.pointer (some ⟨p.2, 0, none⟩))) → ∃ r, Instr.findNow (.int .i64) (.int .i64 x) es i = some r ∧ r.map Prod.snd = (getE x env).map (fun p => Value.pointer (some ⟨p, 0, none⟩))
  | [], env, i, h => by
    have e : env = [] := by
      cases env with
      | nil => rfl
      | cons _ _ => simp at h
    subst e
    exact ⟨none, rfl, rfl⟩
  | e :: es, env, i, h => by
    cases env with
    | nil => simp at h
    | cons p env =>
      simp only [List.map_cons, List.cons.injEq, Prod.mk.injEq] at h
      obtain ⟨⟨h1, h2⟩, h3⟩ := h
      obtain ⟨r, g1, g2⟩ := find_now x es env (i + 1) h3
      by_cases hx : p.1 = x
      · refine ⟨some (i, e.val), ?_, ?_⟩
        · have hb : (x == p.1) = true := by simp [hx]
          simp only [Instr.findNow, h1, Instr.sameNow, if_pos, hb]
        · simp only [getE, if_pos hx, Option.map_some, h2]
      · refine ⟨r, ?_, ?_⟩
        · have hb : (x == p.1) = false := by simp; exact fun e => hx e.symm
          simp only [Instr.findNow, h1, Instr.sameNow, if_pos, hb]
          exact g1
        · simp only [getE, if_neg hx]
          exact g2

theorem find_int (x : Int) (es : List MapEntry) (env : List (Int × Nat)) (h : es.map (fun e => (e.key, e.val)) = env.map (fun p => (Value.int .i64 p.1, Value.pointer (some ⟨p.2, 0, none⟩)))) : ∃ r, (Instr.findKey 2 (.int .i64 x) es).run Try.prog w = .ok r w ∧ r.map Prod.snd = (getE x env).map (fun p => Value.pointer (some ⟨p, 0, none⟩)) := by
  obtain ⟨r, g1, g2⟩ := find_now x es env 0 h
  refine ⟨r, ?_, g2⟩
  unfold Instr.findKey
  simp [run_underlying Try.underlying2, g1]

theorem check_int (x : Int) (em : Bool) : (Instr.checkKey em 10000 2 (.int .i64 x)).run Try.prog w = .ok () w := by
  have : ∀ n, (Instr.checkKey em (n + 1) 2 (.int .i64 x)).run Try.prog w = .ok () w := fun n => by simp [go_sem, Instr.checkKey]
  exact this 9999

theorem VM.hit (h : VM w M env) (x : Int) {p : Nat} (hv : getE x env = some p) (ok : Bool) : (Instr.lookup 95 (.map (some M)) (.int .i64 x) ok).run Try.prog w = .ok (if ok then .tuple #[.pointer (some ⟨p, 0, none⟩), .bool true] else .pointer (some ⟨p, 0, none⟩)) w := by
  obtain ⟨es, c, h1, h2⟩ := h
  obtain ⟨r, g1, g2⟩ := find_int (w := w) x es.toList env h2
  rw [hv] at g2
  cases r with
  | none => cases g2
  | some r =>
    have e : r.2 = .pointer (some ⟨p, 0, none⟩) := Option.some.inj g2
    unfold Instr.lookup
    cases ok <;> simp [run_underlying Try.underlying95, MapKept.run_getObj_map h1, check_int, g1, e]

theorem VM.miss (h : VM w M env) (x : Int) (hv : getE x env = none) (ok : Bool) : (Instr.lookup 95 (.map (some M)) (.int .i64 x) ok).run Try.prog w = .ok (if ok then .tuple #[.pointer none, .bool false] else .pointer none) w := by
  obtain ⟨es, c, h1, h2⟩ := h
  obtain ⟨r, g1, g2⟩ := find_int (w := w) x es.toList env h2
  rw [hv] at g2
  cases r with
  | some r => cases g2
  | none =>
    unfold Instr.lookup
    cases ok <;> simp [run_underlying Try.underlying95, MapKept.run_getObj_map h1, check_int, g1]

theorem VM.put (h : VM w M env) (x : Int) (hv : getE x env = none) (p : Nat) : ∃ w', (Instr.mapUpdate 95 (.map (some M)) (.int .i64 x) (.pointer (some ⟨p, 0, none⟩))).run Try.prog w = .ok () w' ∧ VM w' M (env ++ [(x, p)]) ∧ w.grownBy w' (some M) ∧ w'.heap.size = w.heap.size := by
  obtain ⟨es, c, h1, h2⟩ := h
  obtain ⟨r, g1, g2⟩ := find_int (w := w) x es.toList env h2
  rw [hv] at g2
  cases r with
  | some r => cases g2
  | none =>
    refine ⟨ChangeMaps.setBlock w M (.map (es.push { key := .int .i64 x, val := .pointer (some ⟨p, 0, none⟩), born := c }) (c + 1)), ?_, ?_, ?_, by simp [ChangeMaps.setBlock]⟩
    · unfold Instr.mapUpdate
      simp [run_underlying Try.underlying95, MapKept.run_getObj_map h1, check_int, g1, MapKept.run_setObj_map _ h1, Result.andThen, ChangeMaps.setBlock]
    · refine ⟨_, _, heap_setBlock_same h1 _, ?_⟩
      simp [h2]
    · exact ⟨rfl, rfl, rfl, by simp [ChangeMaps.setBlock], fun i _ hi => heap_setBlock_other h1 _ (fun e => hi (by rw [e]))⟩

end

/-- The variables of a reader are nodes that nothing stands for. -/
def EnvOK (lo : Nat → Prop) (W : World) (env : List (Int × Nat)) : Prop := ∀ x ∈ env, lo x.2 ∧ NC W x.2 1 x.1 ⟨#[]⟩ none 0 0

/-- Nodes have noted nothing. -/
def Zr (lo : Nat → Prop) (W : World) : Prop := ∀ f, lo f → Ty W f 103 ∧ W.cell? ⟨f, 5, none⟩ = some (.int .i64 0) ∧ W.cell? ⟨f, 6, none⟩ = some (.int .i64 0) ∧ W.cell? ⟨f, 7, none⟩ = some (.int .i64 0)

def Ext (A B : List (Int × Nat)) : Prop := ∀ x p, getE x A = some p → getE x B = some p

theorem NC.kept {A B : World} {S : Nat → Prop} {f : Nat} {k ix : Int} {nm : ByteArray} {a : Option Addr} {n cap : Nat} (h : NC A f k ix nm a n cap) (s : Kept S A B) (hs : S f) : NC B f k ix nm a n cap := by
  have hl := h.ty.lt
  exact ⟨s.ty h.ty hs, (s.cell (p := ⟨f, 0, none⟩) hl hs).trans h.ab, (s.cell (p := ⟨f, 1, none⟩) hl hs).trans h.c1, (s.cell (p := ⟨f, 2, none⟩) hl hs).trans h.c2, (s.cell (p := ⟨f, 3, none⟩) hl hs).trans h.c3, (s.cell (p := ⟨f, 4, none⟩) hl hs).trans h.c4⟩

theorem Pt.kept {A B : World} {S : Nat → Prop} {a : Option Addr} {cap : Nat} {qs : List Nat} (h : Pt A a cap qs) (s : Kept S A B) (hs : ∀ c, Ty A c 96 → S c) : Pt B a cap qs :=
  ⟨h.le, h.mx, fun hl => by
    obtain ⟨b, e, ht, hc⟩ := h.at_ hl
    exact ⟨b, e, s.ty ht (hs b ht), fun i q hq => (s.cell (p := ⟨b, i, none⟩) ht.lt (hs b ht)).trans (hc i q hq)⟩⟩

theorem cell_of {W : World} {f t j : Nat} {cur : Array Value} {v : Value} (h : W.heap[f]? = some (.cells cur t)) (hv : cur[j]? = some v) : W.cell? ⟨f, j, none⟩ = some v := by
  simp only [World.cell?, h]
  simpa using hv

theorem new_node (W : World) (k ix : Int) (nm : ByteArray) : NC (W.alloc (.cells #[.pointer none, .int .i64 k, .int .i64 ix, .string nm, .slice none 0 0, .int .i64 0, .int .i64 0, .int .i64 0, .int .i64 0] 103)) W.heap.size k ix nm none 0 0 := by
  have h := (MapKept.heap_alloc W (.cells #[.pointer none, .int .i64 k, .int .i64 ix, .string nm, .slice none 0 0, .int .i64 0, .int .i64 0, .int .i64 0, .int .i64 0] 103)).1
  exact ⟨⟨_, h⟩, cell_of h rfl, cell_of h rfl, cell_of h rfl, cell_of h rfl, cell_of h rfl⟩

theorem Zr.kept {lo : Nat → Prop} {A B : World} {S : Nat → Prop} (h : Zr lo A) (k : Kept S A B) (hS : ∀ c, Ty A c 103 → S c) : Zr lo B := fun f hf => by
  obtain ⟨ht, a, b, c⟩ := h f hf
  exact ⟨k.ty ht (hS f ht), (k.cell (p := ⟨f, 5, none⟩) ht.lt (hS f ht)).trans a, (k.cell (p := ⟨f, 6, none⟩) ht.lt (hS f ht)).trans b, (k.cell (p := ⟨f, 7, none⟩) ht.lt (hS f ht)).trans c⟩

theorem Zr.new {lo : Nat → Prop} {W : World} (h : Zr lo W) (k ix : Int) (nm : ByteArray) : Zr (fun f => lo f ∨ f = W.heap.size) (W.alloc (.cells #[.pointer none, .int .i64 k, .int .i64 ix, .string nm, .slice none 0 0, .int .i64 0, .int .i64 0, .int .i64 0, .int .i64 0] 103)) := fun f hf => by
  have hn := (MapKept.heap_alloc W (.cells #[.pointer none, .int .i64 k, .int .i64 ix, .string nm, .slice none 0 0, .int .i64 0, .int .i64 0, .int .i64 0, .int .i64 0] 103)).1
  rcases hf with hf | rfl
  · exact (h.kept (Kept.alloc (fun _ => True) _ _) (fun _ _ => trivial)) f hf
  · exact ⟨⟨_, hn⟩, cell_of hn rfl, cell_of hn rfl, cell_of hn rfl⟩

/-- What a reader keeps. -/
structure RdW (lo : Nat → Prop) (W : World) (M : Nat) (env : List (Int × Nat)) : Prop where
  vm : VM W M env
  ok : EnvOK lo W env
  zr : Zr lo W

theorem map_ty {w : World} {M : Nat} {env : List (Int × Nat)} (h : VM w M env) {t : Nat} : ¬ Ty w M t := fun ⟨cur, hc⟩ => by
  obtain ⟨es, c, h1, -⟩ := h
  rw [h1] at hc
  cases hc

theorem RdW.kept {lo : Nat → Prop} {A B : World} {M : Nat} {env : List (Int × Nat)} {S : Nat → Prop} (h : RdW lo A M env) (k : Kept S A B) (hM : S M) (hS : ∀ c, lo c → S c) : RdW lo B M env :=
  ⟨h.vm.kept k hM, fun x hx => ⟨(h.ok x hx).1, (h.ok x hx).2.kept k (hS _ (h.ok x hx).1)⟩, fun f hf => by
    obtain ⟨ht, a, b, c⟩ := h.zr f hf
    have hs := hS f hf
    exact ⟨k.ty ht hs, (k.cell (p := ⟨f, 5, none⟩) ht.lt hs).trans a, (k.cell (p := ⟨f, 6, none⟩) ht.lt hs).trans b, (k.cell (p := ⟨f, 7, none⟩) ht.lt hs).trans c⟩⟩

/-- More nodes, all new. -/
structure Mor (lo hi : Nat → Prop) (W : World) : Prop where
  up : ∀ f, lo f → hi f
  nw : ∀ f, hi f → lo f ∨ W.heap.size ≤ f

/-- What reading a variable tells. -/
def VarP (lo : Nat → Prop) (M : Nat) (env : List (Int × Nat)) (x : Int) (W W' : World) (p : Nat) : Prop :=
  ∃ hi env', getE x env' = some p ∧ Ext env env' ∧ RdW hi W' M env' ∧ Mor lo hi W ∧ Kept (fun c => c ≠ M) W W' ∧ ∀ y, (getE y env').isSome → (getE y env).isSome ∨ y = x

set_option maxHeartbeats 1000000 in
set_option maxRecDepth 100000 in
theorem var_any (lo : Nat → Prop) (M : Nat) (env : List (Int × Nat)) (x : Int) (W : World) (h : RdW lo W M env) :
    Calls Try.prog 80 #[.map (some M), .int .i64 x] W fun e W' => ∃ p, e = .returned (.pointer (some ⟨p, 0, none⟩)) ∧ VarP lo M env x W W' p := by
  cases hg : getE x env with
  | some p =>
    have hl1 := h.vm.hit x hg true
    have hl2 := h.vm.hit x hg false
    have H := hide h
    have HG := hide hg
    clear h hg
    go_enter Try.func80, Try.ntmps80
    go_wp2_with fail
    go_ret
    have HP : VarP lo M env x W W p := ⟨lo, env, HG.out, fun _ _ h => h, H.out, ⟨fun _ h => h, fun _ h => .inl h⟩, Kept.refl _ _, fun y h => .inl h⟩
    first | exact ⟨p, rfl, HP⟩ | exact HP
  | none =>
    have hl1 := h.vm.miss x hg true
    obtain ⟨V1, hV1⟩ : ∃ V, W.alloc (.cells #[.pointer none, .int .i64 1, .int .i64 x, .string ⟨#[]⟩, .slice none 0 0, .int .i64 0, .int .i64 0, .int .i64 0, .int .i64 0] 103) = V := ⟨_, rfl⟩
    have k1 : Kept (fun _ => True) W V1 := by rw [← hV1]; exact Kept.alloc _ _ _
    have nn := new_node W 1 x ⟨#[]⟩
    have zn := h.zr.new 1 x ⟨#[]⟩
    rw [hV1] at nn zn
    obtain ⟨V2, hpt, vm2, hg2, hz2⟩ := (h.vm.kept k1 trivial).put x hg W.heap.size
    have k2 : Kept (fun c => c ≠ M) V1 V2 := Kept.grown hg2 (fun b e h => h (Option.some.inj e).symm)
    have hl2 := vm2.hit x (p := W.heap.size) (by rw [getE_app, hg]; simp [getE]) false
    have hmt : ∀ c t, Ty V1 c t → c ≠ M := fun c t hc e => map_ty (h.vm.kept k1 trivial) (e ▸ hc)
    have HF : Hid (RdW (fun f => lo f ∨ f = W.heap.size) V2 M (env ++ [(x, W.heap.size)]) ∧ Kept (fun c => c ≠ M) W V2 ∧ Ext env (env ++ [(x, W.heap.size)]) ∧ getE x (env ++ [(x, W.heap.size)]) = some W.heap.size) := by
      refine ⟨⟨vm2, fun y hy => ?_, zn.kept k2 (fun c hc => hmt c _ hc)⟩, (k1.mono (fun _ _ _ => trivial)).trans k2, fun y q hq => by rw [getE_app, hq]; rfl, by rw [getE_app, hg]; simp [getE]⟩
      rcases List.mem_append.1 hy with hy | hy
      · obtain ⟨h1, h2⟩ := h.ok y hy
        have h3 := h2.kept k1 trivial
        exact ⟨.inl h1, h3.kept k2 (hmt _ _ h3.ty)⟩
      · have e : y = (x, W.heap.size) := by simpa using hy
        subst e
        exact ⟨.inr rfl, nn.kept k2 (hmt _ _ nn.ty)⟩
    have HV1 := hide hV1
    clear h hg nn zn vm2 hg2 k1 k2 hV1 hmt
    go_enter Try.func80, Try.ntmps80
    go_upto_region 3 with fail
    go_wp2_with (rw [HV1.out])
    go_ret
    have HP : VarP lo M env x W V2 W.heap.size := ⟨_, _, HF.out.2.2.2, HF.out.2.2.1, HF.out.1, ⟨fun _ h => .inl h, fun f h => by rcases h with h | h; exact .inl h; exact .inr (by omega)⟩, HF.out.2.1, fun y hy => by
      rw [getE_app] at hy
      cases hq : getE y env with
      | some z => exact .inl rfl
      | none =>
        rw [hq] at hy
        refine .inr ?_
        simp only [Option.none_or, getE] at hy
        split at hy
        · rename_i h; exact h.symm
        · cases hy⟩
    first | exact ⟨_, rfl, HP⟩ | exact HP

end Go.Proofs.Ytjlefdalobgdfaa
