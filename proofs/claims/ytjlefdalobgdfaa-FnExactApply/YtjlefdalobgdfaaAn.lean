import Derived.Test.YtjlefdalobgdfaaAm
namespace Go.Proofs.Ytjlefdalobgdfaa
open Go.RowKit Go.Joins Go.MapKept Go.ChangeMaps

/-- How much a variable is bound to. -/
def szL (L : List Bd) (x : Int) : Nat :=
  match lookB x L with
  | some e => 1 + e.ks.size
  | none => 0

theorem sum_erase (f : Int → Nat) : ∀ {Y : List Int} {x : Int}, x ∈ Y → (Y.map f).sum = f x + ((Y.erase x).map f).sum
  | y :: Y, x, h => by
    by_cases e : y = x
    · subst e
      simp
    · have hx : x ∈ Y := by
        rcases List.mem_cons.1 h with h | h
        · exact absurd h.symm e
        · exact h
      rw [List.erase_cons_tail (by simpa using e)]
      simp only [List.map_cons, List.sum_cons, sum_erase f hx]
      omega

theorem sum_sub (f : Int → Nat) : ∀ {X Y : List Int}, X.Nodup → (∀ x ∈ X, x ∈ Y) → (X.map f).sum ≤ (Y.map f).sum
  | [], Y, _, _ => by simp
  | x :: X, Y, hn, hs => by
    have hx := hs x List.mem_cons_self
    rw [sum_erase f hx]
    have hn' := List.nodup_cons.1 hn
    have := sum_sub f (X := X) (Y := Y.erase x) hn'.2 (fun y hy => (List.mem_erase_of_ne (fun e => hn'.1 (by rw [← e]; exact hy))).2 (hs y (List.mem_cons_of_mem _ hy)))
    simp only [List.map_cons, List.sum_cons]
    omega

theorem cn_vs (L : List Bd) : ∀ F : Fo, (F.vs.map (szL L)).sum ≤ F.cn L
  | .nil => by simp [Fo.vs]
  | .cons k ix nm a cap ks r => by
    have h1 := cn_vs L ks
    have h2 := cn_vs L r
    simp only [Fo.vs, Fo.cn, sb, List.map_append, List.sum_append]
    by_cases hk : k = 1
    · simp only [if_pos hk, List.map_cons, List.map_nil, List.sum_cons, List.sum_nil, szL]
      cases e : lookB ix L with
      | none => simp only []; omega
      | some x => simp only []; omega
    · simp only [if_neg hk]
      omega

theorem good_dep : ∀ (F : Fo) (d1 d : Nat), F.good d1 → d ≤ 201 → (F.good d ↔ F.dep + d ≤ 201)
  | .nil, d1, d, _, h => by simp only [Fo.good, Fo.dep, true_iff]; omega
  | .cons k ix nm a cap ks r, d1, d, ⟨_, ok, gk, gr⟩, h => by
    by_cases hd : d ≤ 200
    · have h1 := good_dep ks (d1 + 1) (d + 1) gk (by omega)
      have h2 := good_dep r d1 d gr h
      simp only [Fo.good, Fo.dep, h1, h2]
      exact ⟨fun ⟨_, _, a, b⟩ => by omega, fun hm => ⟨hd, ok, by omega, by omega⟩⟩
    · exact ⟨fun h => absurd h.1 hd, fun h => by simp only [Fo.dep] at h; omega⟩

theorem sb_mem {L : List Bd} {k ix : Int} {e : Nd} (h : sb L k ix = some e) : ∃ x ∈ L, x.d = e := by
  unfold sb at h
  split at h
  · obtain ⟨x, hx, h1, -⟩ := lookB_mem h
    exact ⟨x, hx, h1⟩
  · cases h

theorem gd_dep {L : List Bd} (hL : ∀ x ∈ L, TG x.d.k x.d.ix x.d.nm x.d.ks) : ∀ (F : Fo) (d : Nat), d ≤ 201 → (F.gd L d ↔ (F.ap L).dep + d ≤ 201)
  | .nil, d, h => by simp only [Fo.gd, Fo.ap, Fo.dep, true_iff]; omega
  | .cons k ix nm a cap ks r, d, h => by
    have h2 := gd_dep hL r d h
    simp only [Fo.gd, Fo.ap]
    cases e : sb L k ix with
    | some x =>
      obtain ⟨y, hy, rfl⟩ := sb_mem e
      have g : y.d.fo.good 1 := (hL y hy).1
      have h3 := good_dep _ 1 d g h
      have ed : y.d.fo.dep = 1 + y.d.ks.dep := by simp [Nd.fo, Fo.dep]
      simp only [h2, h3, Fo.dep]
      rw [ed]
      omega
    | none =>
      simp only [Fo.dep]
      by_cases hd : d ≤ 200
      · have h1 := gd_dep hL ks (d + 1) (by omega)
        rw [h1, h2]
        omega
      · omega

theorem Fo.Row.wfs {W : World} {S : Nat → Prop} : ∀ {F : Fo} {b o : Nat}, F.Row W S b o → F.wfs
  | .nil, _, _, _ => trivial
  | .cons k ix nm a cap ks r, b, o, ⟨h1, h2, h3, _, _, _, _, _, _, h4, h5⟩ => by
    refine ⟨h1, h2, h3, ?_, Fo.Row.wfs h5⟩
    cases ks with
    | nil => trivial
    | cons k' ix' nm' a' cap' ks' r' =>
      obtain ⟨b', o', _, _, h6⟩ := h4 (by simp [Fo.len])
      exact Fo.Row.wfs h6

theorem Fo.Sl.wfs {W : World} {S : Nat → Prop} {a : Option Addr} {cap : Nat} {F : Fo} (h : F.Sl W S a cap) : F.wfs := by
  cases F with
  | nil => trivial
  | cons k ix nm a' cap' ks r =>
    obtain ⟨b, o, _, _, h1⟩ := h.2.2 (by simp [Fo.len])
    exact h1.wfs

theorem Fo.ap_wfs {L : List Bd} (hL : ∀ x ∈ L, x.d.fo.wfs) : ∀ F : Fo, F.wfs → (F.ap L).wfs
  | .nil, _ => trivial
  | .cons k ix nm a cap ks r, ⟨h1, h2, h3, h4, h5⟩ => by
    simp only [Fo.ap]
    cases e : sb L k ix with
    | some x =>
      obtain ⟨y, hy, rfl⟩ := sb_mem e
      obtain ⟨g1, g2, g3, g4, -⟩ := hL y hy
      exact ⟨g1, g2, g3, g4, Fo.ap_wfs hL r h5⟩
    | none => exact ⟨h1, h2, h3, Fo.ap_wfs hL ks h4, Fo.ap_wfs hL r h5⟩

/-- A variable's node may be bound. -/
theorem RdL.set {lo ro : Nat → Prop} {env : List (Int × Nat)} {W : World} {p : Nat} (x : Value) (ht : Ty W p 103) (hp : W.cell? ⟨p, 1, none⟩ = some (.int .i64 1)) {ps : List Nat} {F : Fo} (h : RdL lo ro env W ps F) : RdL lo ro env (W.setCell ⟨p, 0, none⟩ x) ps F := by
  have k : Kept (fun c => c ≠ p) W (W.setCell ⟨p, 0, none⟩ x) := Kept.setCell _ _ _ _ (by simp)
  induction h with
  | nil => exact .nil
  | var hv _ i2 => exact .var hv i2
  | @con p' ps qs k' ix nm a a' cap cap' ks r hk hl hr nc pt _ _ i1 i2 =>
    have hne : p' ≠ p := fun e => by
      have := nc.c1
      rw [e, hp] at this
      simp only [Option.some.injEq, Value.int.injEq, true_and] at this
      exact hk this.symm
    exact .con hk hl hr (nc.kept k hne) (pt.kept k (fun c hc e => absurd (hc.uniq (e ▸ ht)) (by decide))) i1 i2

theorem Pt.nil (W : World) : Pt W none 0 [] := ⟨Nat.le_refl _, Nat.zero_le _, fun h => by simp at h⟩

theorem RdL.nv {hi ho : Nat → Prop} {env : List (Int × Nat)} {W : World} (he : EnvOK hi W env) {ps : List Nat} {F : Fo} (h : RdL hi ho env W ps F) : NvL hi W ps F := by
  induction h with
  | nil => exact .nil
  | var hv _ i2 =>
    obtain ⟨h1, h2⟩ := he _ (getE_mem hv)
    exact .cons h1 (.inl rfl) (qs := []) h2 (Pt.nil W) .nil i2
  | con hk hl hr nc pt _ _ i1 i2 => exact .cons hl (.inl rfl) nc pt i1 i2

theorem RdL.top {hi ho : Nat → Prop} {env : List (Int × Nat)} {W : World} (he : EnvOK hi W env) {q : Nat} {k ix : Int} {nm : ByteArray} {a' : Option Addr} {cap' : Nat} {ks : Fo} (h : RdL hi ho env W [q] (.cons k ix nm a' cap' ks .nil)) : ∃ a cap qs, hi q ∧ NC W q k ix nm a qs.length cap ∧ Pt W a cap qs ∧ NvL hi W qs ks := by
  cases h with
  | var hv _ =>
    obtain ⟨h1, h2⟩ := he _ (getE_mem hv)
    exact ⟨none, 0, [], h1, h2, Pt.nil W, .nil⟩
  | con hk hl hr nc pt h1 _ => exact ⟨_, _, _, hl, nc, pt, h1.nv he⟩

/-- What a variable of our own is bound to. -/
def OwnB (hi ho : Nat → Prop) (env2 : List (Int × Nat)) (W : World) (A : List Bd) (x : Int) (p : Nat) : Prop :=
  (lookB x A = none ∧ W.cell? ⟨p, 0, none⟩ = some (.pointer none)) ∨ ∃ d q, lookB x A = some d ∧ W.cell? ⟨p, 0, none⟩ = some (.pointer (some ⟨q, 0, none⟩)) ∧ RdL hi ho env2 W [q] d.fo

structure OwnV (lo hi ho : Nat → Prop) (env2 : List (Int × Nat)) (W : World) (A : List Bd) (x : Int) (p : Nat) : Prop where
  lo : lo p
  ty : Ty W p 103
  c1 : W.cell? ⟨p, 1, none⟩ = some (.int .i64 1)
  c2 : W.cell? ⟨p, 2, none⟩ = some (.int .i64 x)
  c3 : W.cell? ⟨p, 3, none⟩ = some (.string ⟨#[]⟩)
  c4 : W.cell? ⟨p, 4, none⟩ = some (.slice none 0 0)
  ob : OwnB hi ho env2 W A x p

theorem RdL.ap {lo ro hi ho : Nat → Prop} {env1 env2 : List (Int × Nat)} {W : World} {L : List Bd} (he : EnvOK hi W env2) (hv : ∀ x p, getE x env1 = some p → OwnV lo hi ho env2 W L x p) {ps : List Nat} {F : Fo} (h : RdL lo ro env1 W ps F) : NvL (fun f => lo f ∨ hi f) W ps (F.ap L) := by
  induction h with
  | nil => exact .nil
  | @var p ps ix a' cap' r hg _ i2 =>
    have o := hv _ _ hg
    have es : sb L 1 ix = lookB ix L := if_pos rfl
    rcases o.ob with ⟨e, c0⟩ | ⟨d, q, e, c0, hr⟩
    · simp only [Fo.ap, es, e]
      exact .cons (.inl o.lo) (.inl rfl) (qs := []) ⟨o.ty, c0, o.c1, o.c2, o.c3, o.c4⟩ (Pt.nil W) .nil i2
    · simp only [Fo.ap, es, e]
      obtain ⟨a, cap, qs, h1, h2, h3, h4⟩ := RdL.top he hr
      exact .cons (.inr h1) (.inr ⟨o.ty, c0⟩) h2 h3 (h4.mono (fun _ h => .inr h)) i2
  | @con p ps qs k ix nm a a' cap cap' ks r hk hl hr nc pt _ _ i1 i2 =>
    have es : sb L k ix = none := if_neg hk
    simp only [Fo.ap, es]
    exact .cons (.inl hl) (.inl rfl) nc pt i1 i2

/-- What the loop of Apply knows. -/
structure AqI (W wr : World) (M1 M2 root : Nat) (tF : Fo) (lo ro : Nat → Prop) (env1 : List (Int × Nat)) (A : List Bd) (hi ho : Nat → Prop) (env2 : List (Int × Nat)) (X : List Int) : Prop where
  vm : VM wr M1 env1
  zr : Zr lo wr
  rl : RdL lo ro env1 wr [root] tF
  ov : ∀ x p, getE x env1 = some p → OwnV lo hi ho env2 wr A x p
  r2 : RdS hi ho wr M2 env2
  dj : ∀ f, hi f → ¬ lo f
  rr : ∀ b, ro b → Ty wr b 96
  kn : ∀ y, (getE y env1).isSome → y ∈ tF.vs
  nx : X.Nodup
  xs : ∀ x ∈ X, (getE x env1).isSome ∧ (lookB x A).isSome
  l1 : ∀ f, lo f → W.heap.size ≤ f
  l2 : ∀ f, hi f → W.heap.size ≤ f
  m1 : W.heap.size ≤ M1
  m2 : W.heap.size ≤ M2
  mn : M1 ≠ M2
  be : Below W.heap.size W wr

theorem OwnV.kept {lo hi ho : Nat → Prop} {env2 : List (Int × Nat)} {A B : World} {L : List Bd} {x : Int} {p : Nat} (h : OwnV lo hi ho env2 A L x p) {S : Nat → Prop} (k : Kept S A B) (hp : S p) (h1 : ∀ f, hi f → S f) (h2 : ∀ f, ho f → S f) : OwnV lo hi ho env2 B L x p := by
  have hc : ∀ j, B.cell? ⟨p, j, none⟩ = A.cell? ⟨p, j, none⟩ := fun j => k.cell (p := ⟨p, j, none⟩) h.ty.lt hp
  refine ⟨h.lo, k.ty h.ty hp, (hc 1).trans h.c1, (hc 2).trans h.c2, (hc 3).trans h.c3, (hc 4).trans h.c4, ?_⟩
  rcases h.ob with ⟨e, c0⟩ | ⟨d, q, e, c0, hr⟩
  · exact .inl ⟨e, (hc 0).trans c0⟩
  · exact .inr ⟨d, q, e, (hc 0).trans c0, hr.kept k h1 h2⟩

theorem OwnV.look {lo hi ho : Nat → Prop} {env2 : List (Int × Nat)} {W : World} {A B : List Bd} {x : Int} {p : Nat} (h : OwnV lo hi ho env2 W A x p) (e : lookB x B = lookB x A) : OwnV lo hi ho env2 W B x p := by
  refine ⟨h.lo, h.ty, h.c1, h.c2, h.c3, h.c4, ?_⟩
  unfold OwnB
  rw [e]
  exact h.ob

theorem lookB_snoc {x : Int} {A : List Bd} {b : Bd} : lookB x (A ++ [b]) = if (lookB x A).isSome then lookB x A else if b.id = x then some b.d else none := by
  cases e : lookB x A with
  | none => rw [lookB_app e]; rfl
  | some d =>
    simp only [Option.isSome_some, if_true]
    induction A with
    | nil => cases e
    | cons y A ih =>
      simp only [List.cons_append, lookB] at e ⊢
      split
      · rename_i h; rw [if_pos h] at e; exact e
      · rename_i h; rw [if_neg h] at e; exact ih e

theorem AqI.kept {W wr w' : World} {M1 M2 root : Nat} {tF : Fo} {lo ro hi ho : Nat → Prop} {env1 env2 : List (Int × Nat)} {A : List Bd} {X : List Int} (h : AqI W wr M1 M2 root tF lo ro env1 A hi ho env2 X) (k : Kept (fun _ => True) wr w') : AqI W w' M1 M2 root tF lo ro env1 A hi ho env2 X :=
  ⟨h.vm.kept k trivial, h.zr.kept k (fun _ _ => trivial), h.rl.kept k (fun _ _ => trivial) (fun _ _ => trivial), fun x p hx => (h.ov x p hx).kept k trivial (fun _ _ => trivial) (fun _ _ => trivial), h.r2.kept k trivial (fun _ _ => trivial) (fun _ _ => trivial), h.dj, fun b hb => k.ty (h.rr b hb) trivial, h.kn, h.nx, h.xs, h.l1, h.l2, h.m1, h.m2, h.mn, Below.kept h.be k (fun _ _ => trivial) (Nat.le_refl _)⟩

/-- A bind of no use. -/
theorem AqI.skip {W wr : World} {M1 M2 root : Nat} {tF : Fo} {lo ro hi ho : Nat → Prop} {env1 env2 : List (Int × Nat)} {A : List Bd} {X : List Int} (h : AqI W wr M1 M2 root tF lo ro env1 A hi ho env2 X) (b : Bd) (hb : getE b.id env1 = none ∨ (lookB b.id A).isSome) : AqI W wr M1 M2 root tF lo ro env1 (A ++ [b]) hi ho env2 X := by
  have hl : ∀ x, (getE x env1).isSome → lookB x (A ++ [b]) = lookB x A := fun x hx => by
    rw [lookB_snoc]
    split
    · rfl
    · rename_i h1
      split
      · rename_i h2
        subst h2
        rcases hb with hb | hb
        · rw [hb] at hx; cases hx
        · exact absurd hb h1
      · cases e : lookB x A with
        | none => rfl
        | some d => rw [e] at h1; exact absurd rfl h1
  exact ⟨h.vm, h.zr, h.rl, fun x p hx => (h.ov x p hx).look (hl x (by rw [hx]; rfl)), h.r2, h.dj, h.rr, h.kn, h.nx, fun x hx => ⟨(h.xs x hx).1, by rw [hl x (h.xs x hx).1]; exact (h.xs x hx).2⟩, h.l1, h.l2, h.m1, h.m2, h.mn, h.be⟩

theorem OwnV.more {lo hi ho hi' ho' : Nat → Prop} {env2 env' : List (Int × Nat)} {W : World} {A : List Bd} {x : Int} {p : Nat} (h : OwnV lo hi ho env2 W A x p) (h1 : ∀ f, hi f → hi' f) (h2 : ∀ f, ho f → ho' f) (h3 : Ext env2 env') : OwnV lo hi' ho' env' W A x p := by
  refine ⟨h.lo, h.ty, h.c1, h.c2, h.c3, h.c4, ?_⟩
  rcases h.ob with h | ⟨d, q, e, c0, hr⟩
  · exact .inl h
  · exact .inr ⟨d, q, e, c0, hr.mono h1 h2 h3⟩

/-- A variable is bound. -/
theorem AqI.bind {W wr w4 : World} {M1 M2 root : Nat} {tF : Fo} {lo ro hi ho : Nat → Prop} {env1 env2 : List (Int × Nat)} {A : List Bd} {X : List Int} (h : AqI W wr M1 M2 root tF lo ro env1 A hi ho env2 X) (b : Bd) {p q : Nat} (hp : getE b.id env1 = some p) (hn : lookB b.id A = none) (hr : RdP hi ho M2 env2 b.d.fo wr w4 q) :
    ∃ hi' ho' env', AqI W (w4.setCell ⟨p, 0, none⟩ (.pointer (some ⟨q, 0, none⟩))) M1 M2 root tF lo ro env1 (A ++ [b]) hi' ho' env' (b.id :: X) := by
  obtain ⟨hi', ho', env', rl4, ex, rs4, mh, mo, k4, -⟩ := hr
  obtain ⟨w5, hw5⟩ : ∃ w5, w4.setCell ⟨p, 0, none⟩ (.pointer (some ⟨q, 0, none⟩)) = w5 := ⟨_, rfl⟩
  have k5 : Kept (fun c => c ≠ p) w4 w5 := by rw [← hw5]; exact Kept.setCell _ _ _ _ (by simp)
  have ovp := h.ov _ _ hp
  have hM2 : ∀ c t, Ty wr c t → c ≠ M2 := fun c t hc e => map_ty h.r2.rd.vm (e ▸ hc)
  have hM1 : ∀ c t, Ty wr c t → c ≠ M1 := fun c t hc e => map_ty h.vm (e ▸ hc)
  have hty : Ty w4 p 103 := k4.ty ovp.ty (hM2 _ _ ovp.ty)
  have hc1 : w4.cell? ⟨p, 1, none⟩ = some (.int .i64 1) := (k4.cell (p := ⟨p, 1, none⟩) ovp.ty.lt (hM2 _ _ ovp.ty)).trans ovp.c1
  have dj : ∀ f, hi' f → ¬ lo f := fun f hf hl => by
    rcases mh.nw f hf with h1 | h1
    · exact h.dj f h1 hl
    · have := (h.zr f hl).1.lt
      omega
  have hip : ∀ f, hi' f → f ≠ p := fun f hf e => dj f hf (e ▸ ovp.lo)
  have hop : ∀ f, ho' f → f ≠ p := fun f hf e => absurd ((rs4.ro f hf).uniq (e ▸ hty)) (by decide)
  have hl4 : ∀ x p', getE x env1 = some p' → OwnV lo hi' ho' env' w4 A x p' := fun x p' hx =>
    ((h.ov x p' hx).kept k4 (hM2 _ _ (h.ov x p' hx).ty) (fun f hf => hM2 _ _ (h.r2.rd.zr f hf).1) (fun f hf => hM2 _ _ (h.r2.ro f hf))).more mh.up mo.up ex
  have rl5 : ∀ {ps F}, RdL hi' ho' env' w4 ps F → RdL hi' ho' env' w5 ps F := fun hr => hr.kept k5 hip hop
  have hbe := h.be.size
  refine ⟨hi', ho', env', ?_⟩
  rw [hw5]
  refine ⟨(h.vm.kept k4 h.mn).kept k5 (fun e => hM1 _ _ ovp.ty e.symm), fun f hf => ?_, ?_, fun x p' hx => ?_, rs4.kept k5 (fun e => hM2 _ _ ovp.ty e.symm) hip hop, dj, fun c hc => by rw [← hw5]; exact ty_set.2 (k4.ty (h.rr c hc) (hM2 _ _ (h.rr c hc))), h.kn, List.nodup_cons.2 ⟨fun hx => (by have := (h.xs _ hx).2; rw [hn] at this; cases this), h.nx⟩, fun x hx => ?_, h.l1, fun f hf => ?_, h.m1, h.m2, h.mn, Below.kept (Below.kept h.be k4 (fun c hc e => by have := h.m2; omega) (Nat.le_refl _)) k5 (fun c hc e => by have := h.l1 p ovp.lo; omega) (Nat.le_refl _)⟩
  · obtain ⟨ht, z5, z6, z7⟩ := h.zr f hf
    have hc : ∀ j, w4.cell? ⟨f, j, none⟩ = wr.cell? ⟨f, j, none⟩ := fun j => k4.cell (p := ⟨f, j, none⟩) ht.lt (hM2 _ _ ht)
    rw [← hw5]
    exact ⟨ty_set.2 (k4.ty ht (hM2 _ _ ht)), (World.cell?_setCell_other _ _ _ _ (by simp)).trans ((hc 5).trans z5), (World.cell?_setCell_other _ _ _ _ (by simp)).trans ((hc 6).trans z6), (World.cell?_setCell_other _ _ _ _ (by simp)).trans ((hc 7).trans z7)⟩
  · rw [← hw5]
    exact RdL.set _ hty hc1 (h.rl.kept k4 (fun f hf => hM2 _ _ (h.zr f hf).1) (fun f hf => hM2 _ _ (h.rr f hf)))
  · have o4 := hl4 x p' hx
    by_cases e : x = b.id
    · subst e
      rw [hp] at hx
      have : p = p' := Option.some.inj hx
      subst this
      have hc : ∀ j v, j ≠ 0 → w4.cell? ⟨p, j, none⟩ = some v → w5.cell? ⟨p, j, none⟩ = some v := fun j v hj hv => by
        rw [← hw5]
        exact (World.cell?_setCell_other _ _ _ _ (by simp)).trans hv
      have h0 : w4.cell? ⟨p, 0, none⟩ = some (.pointer none) := by
        rcases o4.ob with ⟨-, c0⟩ | ⟨d, q', e, -⟩
        · exact c0
        · rw [hn] at e; cases e
      refine ⟨o4.lo, by rw [← hw5]; exact ty_set.2 o4.ty, hc 1 _ (by decide) o4.c1, hc 2 _ (by decide) o4.c2, hc 3 _ (by decide) o4.c3, hc 4 _ (by decide) o4.c4, .inr ⟨b.d, q, ?_, ?_, rl5 rl4⟩⟩
      · rw [lookB_snoc, hn]
        simp
      · rw [← hw5]
        exact World.cell?_setCell_same' _ _ _ (by rw [h0]; rfl)
    · have hpp : p' ≠ p := fun e' => by
        have h1 := (h.ov x p' hx).c2
        rw [e', ovp.c2] at h1
        simp only [Option.some.injEq, Value.int.injEq, true_and] at h1
        exact e h1.symm
      refine (o4.kept k5 hpp hip hop).look ?_
      rw [lookB_snoc]
      split
      · rfl
      · rename_i h1
        rw [if_neg (fun h2 => e h2.symm)]
        cases e2 : lookB x A with
        | none => rfl
        | some d => rw [e2] at h1; exact absurd rfl h1
  · rcases List.mem_cons.1 hx with rfl | hx
    · exact ⟨by rw [hp]; rfl, by rw [lookB_snoc, hn]; simp⟩
    · refine ⟨(h.xs x hx).1, ?_⟩
      rw [lookB_snoc, if_pos (h.xs x hx).2]
      exact (h.xs x hx).2
  · rcases mh.nw f hf with h1 | h1
    · exact h.l2 f h1
    · omega

/-- How much the bound ones make. -/
theorem AqI.sum {W wr : World} {M1 M2 root : Nat} {tF : Fo} {lo ro hi ho : Nat → Prop} {env1 env2 : List (Int × Nat)} {A : List Bd} {X : List Int} (h : AqI W wr M1 M2 root tF lo ro env1 A hi ho env2 X) (L : List Bd) : (X.map (szL L)).sum ≤ tF.cn L :=
  Nat.le_trans (sum_sub (szL L) h.nx (fun x hx => h.kn x (h.xs x hx).1)) (cn_vs L tF)

end Go.Proofs.Ytjlefdalobgdfaa
