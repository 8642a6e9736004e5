import Derived.Test.YtjlefdalobgdfaaAh
namespace Go.Proofs.Ytjlefdalobgdfaa
open Go.RowKit Go.Joins

/-- How deep a row is. -/
def Fo.dep : Fo → Nat
  | .nil => 0
  | .cons _ _ _ _ _ ks r => max (1 + ks.dep) r.dep

theorem Fo.dep_app : ∀ F G : Fo, (F.app G).dep = max F.dep G.dep
  | .nil, G => by simp [Fo.app, Fo.dep]
  | .cons _ _ _ _ _ ks r, G => by simp only [Fo.app, Fo.dep, r.dep_app G]; omega

/-- What a node has noted. -/
def Me (W : World) (f : Nat) (ks : Fo) : Prop :=
  ∃ s d rn : Int, W.cell? ⟨f, 5, none⟩ = some (.int .i64 s) ∧ W.cell? ⟨f, 6, none⟩ = some (.int .i64 d) ∧ W.cell? ⟨f, 7, none⟩ = some (.int .i64 rn) ∧ (rn = 0 ∨ (rn = 1 ∧ s = 1 + ks.size ∧ d = 1 + ks.dep ∧ 1 + ks.size ≤ 20000))

/-- All nodes have noted what is so. -/
def MM (lo : Nat → Prop) (W : World) : Prop :=
  ∀ (f : Nat) (k ix : Int) (nm : ByteArray) (a : Option Addr) (cap : Nat) (qs : List Nat) (ks : Fo), lo f → NC W f k ix nm a qs.length cap → Pt W a cap qs → NvL lo W qs ks → Me W f ks

theorem Pt.uniq {W : World} {a : Option Addr} {cap : Nat} {qs qs' : List Nat} (h : Pt W a cap qs) (g : Pt W a cap qs') (hl : qs.length = qs'.length) : qs = qs' := by
  apply List.ext_getElem?
  intro i
  by_cases hi : i < qs.length
  · obtain ⟨b, e, -, hc⟩ := h.at_ (by omega)
    obtain ⟨b', e', -, hc'⟩ := g.at_ (by omega)
    rw [e] at e'
    cases e'
    have h1 := hc i qs[i] (List.getElem?_eq_getElem hi)
    have h2 := hc' i qs'[i] (List.getElem?_eq_getElem (by omega))
    rw [h1] at h2
    simp only [Option.some.injEq, Value.pointer.injEq, Addr.mk.injEq] at h2
    rw [List.getElem?_eq_getElem hi, List.getElem?_eq_getElem (by omega), h2.1]
  · rw [List.getElem?_eq_none (by omega), List.getElem?_eq_none (by omega)]

theorem Fn.uniq {W : World} {p f g : Nat} (h : Fn W p f) (h' : Fn W p g) (hf : W.cell? ⟨f, 0, none⟩ = some (.pointer none)) (hg : W.cell? ⟨g, 0, none⟩ = some (.pointer none)) : f = g := by
  rcases h with h | ⟨-, h⟩
  · subst h
    rcases h' with h' | ⟨-, h'⟩
    · exact h'
    · rw [hf] at h'
      cases h'
  · rcases h' with h' | ⟨-, h'⟩
    · subst h'
      rw [hg] at h
      cases h
    · rw [h] at h'
      simp only [Option.some.injEq, Value.pointer.injEq, Addr.mk.injEq] at h'
      exact h'.1

theorem NvL.uniq {lo : Nat → Prop} {W : World} {ps : List Nat} {F : Fo} (h : NvL lo W ps F) : ∀ {G : Fo}, NvL lo W ps G → F.size = G.size ∧ F.dep = G.dep := by
  induction h with
  | nil =>
    intro G g
    cases g
    exact ⟨rfl, rfl⟩
  | cons hl fn nc pt h1 h2 i1 i2 =>
    intro G g
    cases g with
    | cons hl' fn' nc' pt' h1' h2' =>
      have e := fn.uniq fn' nc.ab nc'.ab
      subst e
      have e4 := nc.c4.symm.trans nc'.c4
      simp only [Option.some.injEq, Value.slice.injEq] at e4
      obtain ⟨rfl, e5, rfl⟩ := e4
      have := pt.uniq pt' e5
      subst this
      obtain ⟨j1, j2⟩ := i1 h1'
      obtain ⟨j3, j4⟩ := i2 h2'
      simp only [Fo.size, Fo.dep, j1, j2, j3, j4, and_self]

theorem ty_set {A : World} {f j : Nat} {v : Value} {c t : Nat} : Ty (A.setCell ⟨f, j, none⟩ v) c t ↔ Ty A c t := by
  unfold Ty World.setCell
  simp only [Array.getElem?_modify]
  by_cases e : f = c
  · subst e
    cases h : A.heap[f]? with
    | none => simp
    | some ob => cases ob <;> simp
  · simp [e]

theorem sk_set (A : World) (f j : Nat) (v : Value) (h : Ty A f 103) (hj : 5 ≤ j) : SK A (A.setCell ⟨f, j, none⟩ v) ∧ SK (A.setCell ⟨f, j, none⟩ v) A := by
  have hb : ∀ c, c ≠ f → (A.setCell ⟨f, j, none⟩ v).heap[c]? = A.heap[c]? := fun c hc => Below.heap_setCell _ _ _ _ hc
  have hz : (A.setCell ⟨f, j, none⟩ v).heap.size = A.heap.size := by simp [World.setCell]
  have hc : ∀ c i, i < 5 → (A.setCell ⟨f, j, none⟩ v).cell? ⟨c, i, none⟩ = A.cell? ⟨c, i, none⟩ := fun c i hi => World.cell?_setCell_other _ _ _ _ (fun e => by
    have := congrArg Addr.off e
    simp only at this
    omega)
  refine ⟨⟨rfl, rfl, rfl, by omega, fun c _ hn => hb c (fun e => hn (e ▸ h)), fun c ht => ⟨ty_set.2 ht, fun i w hi hw => (hc c i hi).trans hw⟩⟩, ⟨rfl, rfl, rfl, by omega, fun c _ hn => (hb c (fun e => hn (ty_set.2 (e ▸ h)))).symm, fun c ht => ⟨ty_set.1 ht, fun i w hi hw => (hc c i hi).symm.trans hw⟩⟩⟩

theorem MM.back {lo : Nat → Prop} {A B : World} (h : MM lo A) (s : SK B A) (hm : ∀ f, Ty A f 103 → ∀ j, 5 ≤ j → B.cell? ⟨f, j, none⟩ = A.cell? ⟨f, j, none⟩) : MM lo B := fun f k ix nm a cap qs ks hl nc pt nv => by
  have nc' := nc.sk s
  obtain ⟨x, d, rn, e1, e2, e3, e4⟩ := h f k ix nm a cap qs ks hl nc' (pt.sk s) (nv.sk s)
  exact ⟨x, d, rn, (hm f nc'.ty 5 (by omega)).trans e1, (hm f nc'.ty 6 (by omega)).trans e2, (hm f nc'.ty 7 (by omega)).trans e3, e4⟩

/-- A node notes what is so. -/
theorem MM.note {lo : Nat → Prop} {A : World} (h : MM lo A) {f : Nat} {k ix : Int} {nm : ByteArray} {a : Option Addr} {cap : Nat} {qs : List Nat} {ks : Fo} (nc : NC A f k ix nm a qs.length cap) (pt : Pt A a cap qs) (nv : NvL lo A qs ks) (hs : 1 + ks.size ≤ 20000) (hlo : lo f) {S D : Int} (hS : S = 1 + ks.size) (hD : D = 1 + ks.dep) :
    SK A (((A.setCell ⟨f, 5, none⟩ (.int .i64 S)).setCell ⟨f, 6, none⟩ (.int .i64 D)).setCell ⟨f, 7, none⟩ (.int .i64 1)) ∧ MM lo (((A.setCell ⟨f, 5, none⟩ (.int .i64 S)).setCell ⟨f, 6, none⟩ (.int .i64 D)).setCell ⟨f, 7, none⟩ (.int .i64 1)) ∧
      (((A.setCell ⟨f, 5, none⟩ (.int .i64 S)).setCell ⟨f, 6, none⟩ (.int .i64 D)).setCell ⟨f, 7, none⟩ (.int .i64 1)).cell? ⟨f, 5, none⟩ = some (.int .i64 S) ∧
      (((A.setCell ⟨f, 5, none⟩ (.int .i64 S)).setCell ⟨f, 6, none⟩ (.int .i64 D)).setCell ⟨f, 7, none⟩ (.int .i64 1)).cell? ⟨f, 6, none⟩ = some (.int .i64 D) := by
  obtain ⟨x, d, rn, m1, m2, m3, -⟩ := h f k ix nm a cap qs ks hlo nc pt nv
  obtain ⟨B1, hB1⟩ : ∃ B, A.setCell ⟨f, 5, none⟩ (.int .i64 S) = B := ⟨_, rfl⟩
  obtain ⟨B2, hB2⟩ : ∃ B, B1.setCell ⟨f, 6, none⟩ (.int .i64 D) = B := ⟨_, rfl⟩
  obtain ⟨B3, hB3⟩ : ∃ B, B2.setCell ⟨f, 7, none⟩ (.int .i64 1) = B := ⟨_, rfl⟩
  rw [hB1, hB2, hB3]
  obtain ⟨s1, r1⟩ := sk_set A f 5 (.int .i64 S) nc.ty (by omega)
  rw [hB1] at s1 r1
  obtain ⟨s2, r2⟩ := sk_set B1 f 6 (.int .i64 D) (s1.ty nc.ty) (by omega)
  rw [hB2] at s2 r2
  obtain ⟨s3, r3⟩ := sk_set B2 f 7 (.int .i64 1) (s2.ty (s1.ty nc.ty)) (by omega)
  rw [hB3] at s3 r3
  have oth : ∀ (V : World) (w : Value) (i j c : Nat), i ≠ j → (V.setCell ⟨f, i, none⟩ w).cell? ⟨c, j, none⟩ = V.cell? ⟨c, j, none⟩ := fun V w i j c hne => World.cell?_setCell_other _ _ _ _ (fun e => hne (congrArg Addr.off e))
  have ne : ∀ (V : World) (w : Value) (i j c : Nat), f ≠ c → (V.setCell ⟨f, i, none⟩ w).cell? ⟨c, j, none⟩ = V.cell? ⟨c, j, none⟩ := fun V w i j c hne => World.cell?_setCell_other _ _ _ _ (fun e => hne (congrArg Addr.block e))
  have e5 : B3.cell? ⟨f, 5, none⟩ = some (.int .i64 S) := by
    rw [← hB3, oth _ _ _ _ _ (by omega), ← hB2, oth _ _ _ _ _ (by omega), ← hB1]
    exact World.cell?_setCell_same' _ _ _ (by rw [m1]; rfl)
  have e6 : B3.cell? ⟨f, 6, none⟩ = some (.int .i64 D) := by
    rw [← hB3, oth _ _ _ _ _ (by omega), ← hB2]
    exact World.cell?_setCell_same' _ _ _ (by rw [← hB1, oth _ _ _ _ _ (by omega), m2]; rfl)
  have e7 : B3.cell? ⟨f, 7, none⟩ = some (.int .i64 1) := by
    rw [← hB3]
    exact World.cell?_setCell_same' _ _ _ (by rw [← hB2, oth _ _ _ _ _ (by omega), ← hB1, oth _ _ _ _ _ (by omega), m3]; rfl)
  have s := (s1.trans s2).trans s3
  have r := (r3.trans r2).trans r1
  refine ⟨s, fun f' k' ix' nm' a' cap' qs' ks' hl' nc' pt' nv' => ?_, e5, e6⟩
  by_cases hf : f = f'
  · subst hf
    have ncA := nc'.sk r
    have e4 := nc.c4.symm.trans ncA.c4
    simp only [Option.some.injEq, Value.slice.injEq] at e4
    obtain ⟨rfl, e5', rfl⟩ := e4
    have := pt.uniq (pt'.sk r) e5'
    subst this
    obtain ⟨j1, j2⟩ := nv.uniq (nv'.sk r)
    exact ⟨S, D, 1, e5, e6, e7, .inr ⟨rfl, by rw [hS, j1], by rw [hD, j2], by rw [← j1]; exact hs⟩⟩
  · obtain ⟨x', d', rn', g1, g2, g3, g4⟩ := h f' k' ix' nm' a' cap' qs' ks' hl' (nc'.sk r) (pt'.sk r) (nv'.sk r)
    have hc : ∀ j, B3.cell? ⟨f', j, none⟩ = A.cell? ⟨f', j, none⟩ := fun j => by
      rw [← hB3, ne _ _ _ _ _ hf, ← hB2, ne _ _ _ _ _ hf, ← hB1, ne _ _ _ _ _ hf]
    exact ⟨x', d', rn', (hc 5).trans g1, (hc 6).trans g2, (hc 7).trans g3, g4⟩

end Go.Proofs.Ytjlefdalobgdfaa
