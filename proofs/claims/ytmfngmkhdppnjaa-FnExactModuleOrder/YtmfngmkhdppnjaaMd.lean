import Derived.Test.YtmfngmkhdppnjaaOb
namespace Go.Proofs.Ytmfngmkhdppnjaa
open Go.RowKit Go.Joins

/-- A node of a row. -/
structure Nd where
  k : Int
  nm : ByteArray
  a : Option Addr
  cap : Nat
  ks : Fo

def Fo.l : Fo → List Nd
  | .nil => []
  | .cons k nm a cap ks r => ⟨k, nm, a, cap, ks⟩ :: r.l

theorem Fo.l_length : ∀ F : Fo, F.l.length = F.len
  | .nil => rfl
  | .cons _ _ _ _ _ r => by simp only [Fo.l, List.length_cons, Fo.len, r.l_length]

/-- What memory says of a node. -/
structure Nd.At (d : Nd) (W : World) (S : Nat → Prop) (b o : Nat) : Prop where
  wf : (Lit.int .i64 d.k).wf = true
  nm : d.nm.size ≤ maxLen
  c0 : W.cell? ⟨b, o, none⟩ = some (.int .i64 d.k)
  c1 : W.cell? ⟨b, o + 1, none⟩ = some (.string d.nm)
  c2 : W.cell? ⟨b, o + 2, none⟩ = some (.slice d.a d.ks.len d.cap)
  sl : d.ks.Sl W S d.a d.cap

theorem Fo.Row.get {W : World} {S : Nat → Prop} : ∀ {F : Fo} {b o : Nat}, F.Row W S b o → ∀ (i : Nat) (d : Nd), F.l[i]? = some d → d.At W S b (o + i * 3)
  | .nil, _, _, _, i, d, h => by simp [Fo.l] at h
  | .cons _ _ _ _ _ r, b, o, ⟨hk, hn, c1, c2, c3, h4, h5, h6, h7⟩, i, d, h => by
    cases i with
    | zero =>
      simp only [Fo.l, List.getElem?_cons_zero, Option.some.injEq] at h
      subst h
      simp only [Nat.zero_mul, Nat.add_zero]
      exact ⟨hk, hn, c1, c2, c3, h4, h5, h6⟩
    | succ i =>
      simp only [Fo.l, List.getElem?_cons_succ] at h
      have := Fo.Row.get h7 i d h
      rw [show o + (i + 1) * 3 = o + 3 + i * 3 by omega]
      exact this

/-- The names that kids of the kind of imports have. -/
def Fo.ims : Fo → List ByteArray
  | .nil => []
  | .cons k nm _ _ _ r => if k = 67 then nm :: r.ims else r.ims

theorem Fo.ims_l : ∀ F : Fo, F.ims = (F.l.filter fun d => decide (d.k = 67)).map (·.nm)
  | .nil => rfl
  | .cons k _ _ _ _ r => by
    simp only [Fo.ims, Fo.l, List.filter_cons, r.ims_l]
    by_cases h : k = 67 <;> simp [h]

structure Md where
  k : Int
  nm : ByteArray
  im : List ByteArray

def Fo.md : Fo → List Md
  | .nil => []
  | .cons k nm _ _ ks r => ⟨k, nm, ks.ims⟩ :: r.md

theorem Fo.md_l : ∀ F : Fo, F.md = F.l.map fun d => ⟨d.k, d.nm, d.ks.ims⟩
  | .nil => rfl
  | .cons _ _ _ _ _ r => by simp only [Fo.md, Fo.l, List.map_cons, r.md_l]

theorem Fo.sim.ims : ∀ {F G : Fo}, F.sim G → F.ims = G.ims
  | .nil, .nil, _ => rfl
  | .cons _ _ _ _ _ _, .cons _ _ _ _ _ _, ⟨rfl, rfl, _, d⟩ => by simp only [Fo.ims, d.ims]
  | .nil, .cons _ _ _ _ _ _, h => h.elim
  | .cons _ _ _ _ _ _, .nil, h => h.elim
theorem Fo.sim.md : ∀ {F G : Fo}, F.sim G → F.md = G.md
  | .nil, .nil, _ => rfl
  | .cons _ _ _ _ _ _, .cons _ _ _ _ _ _, ⟨rfl, rfl, c, d⟩ => by simp only [Fo.md, d.md, c.ims]
  | .nil, .cons _ _ _ _ _ _, h => h.elim
  | .cons _ _ _ _ _ _, .nil, h => h.elim

/-- The first of this name. -/
def atN (N : List ByteArray) (t : ByteArray) : Option Nat := N.findIdx? fun u => decide (u = t)

theorem atN_app (N : List ByteArray) (x t : ByteArray) : atN (N ++ [x]) t = (atN N t).or (if x = t then some N.length else none) := by
  unfold atN
  rw [List.findIdx?_append]
  by_cases e : x = t <;> simp [e, List.findIdx?_cons]

theorem atN_lt {N : List ByteArray} {t : ByteArray} {i : Nat} (h : atN N t = some i) : i < N.length ∧ N[i]? = some t ∧ ∀ j, j < i → N[j]? ≠ some t := by
  unfold atN at h
  rw [List.findIdx?_eq_some_iff_getElem] at h
  obtain ⟨h1, h2, h3⟩ := h
  refine ⟨h1, by simpa [h1] using h2, fun j hj e => ?_⟩
  have h4 := h3 j hj
  rw [List.getElem?_eq_getElem (by omega)] at e
  simp only [Option.some.injEq] at e
  simp [e] at h4

theorem atN_none {N : List ByteArray} {t : ByteArray} (h : atN N t = none) : t ∉ N := by
  unfold atN at h
  rw [List.findIdx?_eq_none_iff] at h
  intro hm
  simpa using h t hm

theorem atN_some {N : List ByteArray} {t : ByteArray} (h : t ∈ N) : (atN N t).isSome = true := by
  cases e : atN N t with
  | some i => rfl
  | none => exact absurd h (atN_none e)

def nms (ms : List Md) : List ByteArray := ms.map (·.nm)
def Good (ms : List Md) : Prop := (∀ d ∈ ms, d.k = 68) ∧ (nms ms).Nodup ∧ ∀ d ∈ ms, ∀ t ∈ d.im, t ∈ nms ms

def dep (ms : List Md) (i : Nat) : List Nat := match ms[i]? with
  | some d => d.im.map fun t => (atN (nms ms) t).getD 0
  | none => []

open Classical in
noncomputable def ordF (ms : List Md) : List Nat := if Good ms then (if (run (dep ms) ms.length ms.length []).length < ms.length then [] else run (dep ms) ms.length ms.length []) else []

theorem ordF_bad {ms : List Md} (h : ¬ Good ms) : ordF ms = [] := if_neg h
theorem ordF_short {ms : List Md} (h : Good ms) (h2 : (run (dep ms) ms.length ms.length []).length < ms.length) : ordF ms = [] := by unfold ordF; rw [if_pos h, if_pos h2]
theorem ordF_full {ms : List Md} (h : Good ms) (h2 : ¬ (run (dep ms) ms.length ms.length []).length < ms.length) : ordF ms = run (dep ms) ms.length ms.length [] := by unfold ordF; rw [if_pos h, if_neg h2]

theorem dep_some {ms : List Md} {i : Nat} {d : Md} (h : ms[i]? = some d) : dep ms i = d.im.map fun t => (atN (nms ms) t).getD 0 := by unfold dep; rw [h]

theorem Good.dep_lt {ms : List Md} (h : Good ms) (i j : Nat) (hj : j ∈ dep ms i) : j < ms.length := by
  unfold dep at hj
  split at hj
  · next d e =>
    simp only [List.mem_map] at hj
    obtain ⟨t, ht, rfl⟩ := hj
    have hd : d ∈ ms := List.mem_of_getElem? e
    have h1 := atN_some (h.2.2 d hd t ht)
    cases e2 : atN (nms ms) t with
    | none => rw [e2] at h1; cases h1
    | some q =>
      have := (atN_lt e2).1
      simp only [nms, List.length_map] at this
      simpa using this
  · simp at hj

end Go.Proofs.Ytmfngmkhdppnjaa
