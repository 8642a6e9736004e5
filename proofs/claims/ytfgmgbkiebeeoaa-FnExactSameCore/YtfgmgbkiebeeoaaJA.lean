import Derived.Test.YtfgmgbkiebeeoaaYa
import Derived.Test.YtfgmgbkiebeeoaaVb
import Derived.Deep.RegionLaw
namespace Go.Proofs.Ytfgmgbkiebeeoaa.K
open Go.RowKit Go.Joins
variable {O : Nat → Nat}

/-- What the map has of strips (block, how many). -/
def ents (O : Nat → Nat) : Nat → List (Nat × Nat) → List ((Nat × Nat) × (Nat × Nat))
  | _, [] => []
  | i, e :: r => (List.range e.2).map (fun j => ((e.1, O e.1 + j * 7), (i, j))) ++ ents O (i + 1) r

theorem ents_app : ∀ (i : Nat) (K L : List (Nat × Nat)), ents O i (K ++ L) = ents O i K ++ ents O (i + K.length) L
  | i, [], L => by simp [ents]
  | i, e :: K, L => by
    have := ents_app (i + 1) K L
    simp only [List.cons_append, ents, this, List.append_assoc, List.length_cons]
    have e1 : i + 1 + K.length = i + (K.length + 1) := by omega
    rw [e1]

theorem ents_more (K : List (Nat × Nat)) (b n : Nat) : ents O 0 (K ++ [(b, n + 1)]) = ents O 0 (K ++ [(b, n)]) ++ [((b, O b + n * 7), (K.length, n))] := by
  rw [ents_app, ents_app]
  simp [ents, List.range_succ]

theorem ents_zero (K : List (Nat × Nat)) (b : Nat) : ents O 0 (K ++ [(b, 0)]) = ents O 0 K := by
  rw [ents_app]
  simp [ents]

theorem ents_mem : ∀ (i : Nat) (K : List (Nat × Nat)) (p : (Nat × Nat) × (Nat × Nat)), p ∈ ents O i K → ∃ k e, K[k]? = some e ∧ p.1.1 = e.1 ∧ p.2.1 = i + k ∧ p.2.2 < e.2 ∧ p.1.2 = O p.1.1 + p.2.2 * 7
  | i, [], p, h => by simp [ents] at h
  | i, e :: K, p, h => by
    simp only [ents, List.mem_append, List.mem_map, List.mem_range] at h
    rcases h with ⟨j, hj, rfl⟩ | h
    · exact ⟨0, e, rfl, rfl, rfl, hj, rfl⟩
    · obtain ⟨k, e', h1, h2, h3, h4, h5⟩ := ents_mem (i + 1) K p h
      exact ⟨k + 1, e', by simpa using h1, h2, by omega, h4, h5⟩

theorem getP_none {x : Nat × Nat} : ∀ (kv : List ((Nat × Nat) × (Nat × Nat))), (∀ p ∈ kv, p.1 ≠ x) → getP x kv = none
  | [], _ => rfl
  | p :: r, h => by
    unfold getP
    rw [if_neg (h p List.mem_cons_self)]
    exact getP_none r (fun q hq => h q (List.mem_cons_of_mem _ hq))

theorem ents_new {K : List (Nat × Nat)} {b : Nat} (h : ∀ e ∈ K, e.1 ≠ b) (o : Nat) : getP (b, o) (ents O 0 K) = none := getP_none _ (fun p hp e => by
  obtain ⟨k, e', h1, h2, -⟩ := ents_mem 0 K p hp
  rw [e] at h2
  exact h e' (List.mem_of_getElem? h1) h2.symm)

theorem ents_next {K : List (Nat × Nat)} {b n : Nat} (h : ∀ e ∈ K, e.1 ≠ b) : getP (b, O b + n * 7) (ents O 0 (K ++ [(b, n)])) = none := getP_none _ (fun p hp e => by
  obtain ⟨k, e', h1, h2, -, h4, h5⟩ := ents_mem 0 _ p hp
  rw [e] at h2 h5
  rcases List.mem_append.1 (List.mem_of_getElem? h1) with h6 | h6
  · exact h e' h6 h2.symm
  · have : e' = (b, n) := by simpa using h6
    rw [this] at h4
    have h7 : O b + n * 7 = O b + p.2.2 * 7 := h5
    have h8 : p.2.2 < n := h4
    omega)

theorem getP_some {x : Nat × Nat} {v : Nat × Nat} : ∀ (kv : List ((Nat × Nat) × (Nat × Nat))), (x, v) ∈ kv → (∀ p ∈ kv, ∀ q ∈ kv, p.1 = q.1 → p.2 = q.2) → getP x kv = some v
  | [], h, _ => by cases h
  | p :: r, h, hu => by
    unfold getP
    by_cases e : p.1 = x
    · rw [if_pos e, hu p List.mem_cons_self (x, v) h e]
    · rw [if_neg e]
      refine getP_some r ?_ (fun a ha b hb => hu a (List.mem_cons_of_mem _ ha) b (List.mem_cons_of_mem _ hb))
      rcases List.mem_cons.1 h with h | h
      · exact absurd (by rw [← h]) e
      · exact h

theorem ents_get {K : List (Nat × Nat)} (hn : (K.map Prod.fst).Nodup) {i : Nat} {e : Nat × Nat} (h : K[i]? = some e) {j : Nat} (hj : j < e.2) : getP (e.1, O e.1 + j * 7) (ents O 0 K) = some (i, j) := by
  have hmem : ∀ (s : Nat) (K : List (Nat × Nat)) (i : Nat), K[i]? = some e → ((e.1, O e.1 + j * 7), (s + i, j)) ∈ ents O s K := by
    intro s K
    induction K generalizing s with
    | nil => intro i h; simp at h
    | cons a K ih =>
      intro i h
      cases i with
      | zero =>
        have : a = e := by simpa using h
        subst this
        simp only [ents, List.mem_append, List.mem_map, List.mem_range]
        exact .inl ⟨j, hj, rfl⟩
      | succ i =>
        have := ih (s + 1) i (by simpa using h)
        simp only [ents, List.mem_append]
        have e1 : s + 1 + i = s + (i + 1) := by omega
        rw [e1] at this
        exact .inr this
  have h1 := hmem 0 K i h
  rw [Nat.zero_add] at h1
  refine getP_some _ h1 (fun p hp q hq hpq => ?_)
  obtain ⟨k, a, p1, p2, p3, p4, p5⟩ := ents_mem 0 K p hp
  obtain ⟨k', a', q1, q2, q3, q4, q5⟩ := ents_mem 0 K q hq
  have hb : a.1 = a'.1 := by rw [← p2, ← q2, hpq]
  have hk : k = k' := by
    have l1 := (List.getElem?_eq_some_iff.1 p1).1
    have l2 := (List.getElem?_eq_some_iff.1 q1).1
    have m1 : (K.map Prod.fst)[k]? = some a.1 := by rw [List.getElem?_map, p1]; rfl
    have m2 : (K.map Prod.fst)[k']? = some a'.1 := by rw [List.getElem?_map, q1]; rfl
    rw [hb, ← m2] at m1
    exact (List.getElem?_inj (by simpa using l1) hn).1 m1
  have hj2 : O p.1.1 + p.2.2 * 7 = O p.1.1 + q.2.2 * 7 := by rw [← p5, hpq, ← q5]
  have e1 : p.2.2 = q.2.2 := by omega
  exact Prod.ext (by rw [p3, q3, hk]) e1

/-- The row of strips. -/
def strs (fs : Nat → Int) : Nat → List (Nat × Nat) → List Value
  | _, [] => []
  | i, e :: r => [.int .i64 i, .int .i64 0, .int .i64 0, .int .i64 e.2, .int .i64 (fs i)] ++ strs fs (i + 1) r

theorem strs_app (fs : Nat → Int) : ∀ (i : Nat) (K L : List (Nat × Nat)), strs fs i (K ++ L) = strs fs i K ++ strs fs (i + K.length) L
  | i, [], L => by simp [strs]
  | i, e :: K, L => by
    have := strs_app fs (i + 1) K L
    simp only [List.cons_append, strs, this, List.append_assoc, List.length_cons]
    have e1 : i + 1 + K.length = i + (K.length + 1) := by omega
    rw [e1]
theorem strs_len (fs : Nat → Int) : ∀ (i : Nat) (K : List (Nat × Nat)), (strs fs i K).length = K.length * 5
  | _, [] => rfl
  | i, e :: K => by
    simp only [strs, List.length_append, strs_len fs (i + 1) K, List.length_cons, List.length_nil]
    omega
theorem strs_get (fs : Nat → Int) {K : List (Nat × Nat)} {i : Nat} {e : Nat × Nat} (h : K[i]? = some e) {j : Nat} {v : Value} (hv : [Value.int .i64 i, .int .i64 0, .int .i64 0, .int .i64 e.2, .int .i64 (fs i)][j]? = some v) : (strs fs 0 K)[i * 5 + j]? = some v := by
  have hl := (List.getElem?_eq_some_iff.1 h).1
  have hK : K = K.take i ++ e :: K.drop (i + 1) := by
    have h1 := List.take_append_drop i K
    have h2 : K.drop i = e :: K.drop (i + 1) := by
      rw [List.drop_eq_getElem_cons hl]
      congr 1
      exact (List.getElem?_eq_some_iff.1 h).2
    rw [← h2]
    exact h1.symm
  have hj : j < 5 := by
    have := (List.getElem?_eq_some_iff.1 hv).1
    simpa using this
  have ht : (K.take i).length = i := by rw [List.length_take]; omega
  rw [hK, strs_app, List.getElem?_append_right (by rw [strs_len, ht]; omega), strs_len, ht, Nat.zero_add, strs, List.getElem?_append_left (by simp; omega)]
  have e1 : i * 5 + j - i * 5 = j := by omega
  rw [e1]
  exact hv
end Go.Proofs.Ytfgmgbkiebeeoaa.K

namespace Go.Proofs.Ytfgmgbkiebeeoaa.K
open Go.RowKit Go.Joins
variable {O : Nat → Nat}

/-- The ground in memory: km: the strips that the map has, ks: those that are noted. -/
structure GS (O : Nat → Nat) (lo G : Nat) (V : World) (km ks : List (Nat × Nat)) (mv sv : Value) (fs : Nat → Int) : Prop where
  gm : V.cell? ⟨G, 0, none⟩ = some mv
  gs : V.cell? ⟨G, 1, none⟩ = some sv
  gf : ∀ j, V.frozen? ⟨G, j, none⟩ = false
  mp : (km = [] ∧ mv = .map none) ∨ ∃ M, mv = .map (some M) ∧ MP V M (ents O 0 km) ∧ lo ≤ M
  ow : V.ownsRow lo 122 5 sv ks.length (strs fs 0 ks)
  lv : ∀ e ∈ km, LiveB V e.1 ∧ e.1 < lo ∧ e.1 ≠ G
  hv : lo ≤ V.heap.size
  hg : G < lo

section
variable {lo G : Nat} {V : World} {km ks : List (Nat × Nat)} {mv sv : Value} {fs : Nat → Int}

theorem GS.kept (h : GS O lo G V km ks mv sv fs) {V' : World} (k : Kept (fun _ => True) V V') : GS O lo G V' km ks mv sv fs := by
  have hg := h.hg
  have hv := h.hv
  refine ⟨?_, ?_, fun j => ?_, ?_, ownsRow_kept h.ow k (fun _ _ => trivial), fun e he => ⟨(h.lv e he).1.all k, (h.lv e he).2⟩, by have := k.size; omega, hg⟩
  · rw [k.cell (p := ⟨G, 0, none⟩) (by show G < _; omega) trivial]; exact h.gm
  · rw [k.cell (p := ⟨G, 1, none⟩) (by show G < _; omega) trivial]; exact h.gs
  · rw [k.frozen (p := ⟨G, j, none⟩) (by show G < _; omega) trivial]; exact h.gf j
  · rcases h.mp with h1 | ⟨M, h1, h2, h3⟩
    · exact .inl h1
    · exact .inr ⟨M, h1, h2.kept k trivial, h3⟩

/-- What goes on in other cells of G and in other blocks. -/
theorem GS.other (h : GS O lo G V km ks mv sv fs) {V' : World} (k : Kept (fun d => d ≠ G) V V') (h0 : V'.cell? ⟨G, 0, none⟩ = some mv) (h1 : V'.cell? ⟨G, 1, none⟩ = some sv) (h2 : ∀ j, V'.frozen? ⟨G, j, none⟩ = false) : GS O lo G V' km ks mv sv fs := by
  have hg := h.hg
  have hv := h.hv
  refine ⟨h0, h1, h2, ?_, ownsRow_kept h.ow k (fun b e => by have := ownsRow_blk h.ow b e; omega), fun e he => ⟨(h.lv e he).1.kept k (h.lv e he).1.lt (h.lv e he).2.2, (h.lv e he).2⟩, by have := k.size; omega, hg⟩
  rcases h.mp with h1 | ⟨M, h1, h2, h3⟩
  · exact .inl h1
  · exact .inr ⟨M, h1, h2.kept k (by omega), h3⟩

theorem GS.frame (h : GS O lo G V km ks mv sv fs) {V' : World} {S : Nat → Prop} (k : Kept S V V') (hL : ∀ e ∈ km, S e.1) (hS : ∀ d, mv = .map (some d) ∨ sv.ownBlock = some d → S d) (h0 : V'.cell? ⟨G, 0, none⟩ = some mv) (h1 : V'.cell? ⟨G, 1, none⟩ = some sv) (h2 : ∀ j, V'.frozen? ⟨G, j, none⟩ = false) : GS O lo G V' km ks mv sv fs := by
  have hg := h.hg
  have hv := h.hv
  refine ⟨h0, h1, h2, ?_, ownsRow_kept h.ow k (fun b e => hS b (.inr e)), fun e he => ⟨(h.lv e he).1.kept k (h.lv e he).1.lt (hL e he), (h.lv e he).2⟩, by have := k.size; omega, hg⟩
  rcases h.mp with h1 | ⟨M, h1, h2, h3⟩
  · exact .inl h1
  · exact .inr ⟨M, h1, h2.kept k (hS M (.inl h1)), h3⟩

theorem GS.mapNe (h : GS O lo G V km ks mv sv fs) {M b : Nat} {n cap : Nat} (hm : mv = .map (some M)) (hs : sv = .slice (some ⟨b, 0, none⟩) n cap) : M ≠ b := fun e => by
  rcases h.mp with ⟨-, h1⟩ | ⟨M', h1, ⟨es, c, h2, -⟩, -⟩
  · rw [hm] at h1; cases h1
  · rw [hm] at h1
    cases h1
    have ho := h.ow
    rcases ho.2 with ⟨h3, -⟩ | ⟨b', cap', cur, h3, hb, hg', -⟩
    · rw [hs] at h3; cases h3
    · rw [hs] at h3
      cases h3
      rw [← e, h2] at hg'
      cases hg'

/-- The first thing: a map is made. -/
theorem GS.newmap (h : GS O lo G V km ks (.map none) sv fs) : GS O lo G ((V.alloc (.map #[] 0)).setCell ⟨G, 0, none⟩ (.map (some V.heap.size))) km ks (.map (some V.heap.size)) sv fs := by
  have hkm : km = [] := by
    rcases h.mp with ⟨h1, -⟩ | ⟨M, h1, -⟩
    · exact h1
    · cases h1
  subst hkm
  have hg := h.hg
  have hv := h.hv
  have k1 : Kept (fun _ => True) V (V.alloc (.map #[] 0)) := Kept.alloc _ _ _
  have h1 := h.kept k1
  have k2 : Kept (fun d => d ≠ G) (V.alloc (.map #[] 0)) ((V.alloc (.map #[] 0)).setCell ⟨G, 0, none⟩ (.map (some V.heap.size))) := Kept.setCell _ _ _ _ (by simp)
  refine ⟨World.cell?_setCell_same _ _ _ h1.gm, ?_, fun j => ?_, .inr ⟨_, rfl, ?_, hv⟩, ownsRow_kept h1.ow k2 (fun b e => by have := ownsRow_blk h1.ow b e; omega), fun e he => (by cases he), by have := k2.size; have := k1.size; omega, hg⟩
  · rw [World.cell?_setCell_other _ _ _ _ (by simp)]; exact h1.gs
  · rw [World.frozen?_setCell]; exact h1.gf j
  · exact (MP.start V).kept k2 (by omega)

/-- A strip more, or the row with other cells. -/
theorem GS.strips (h : GS O lo G V km ks mv sv fs) {V' : World} (k : Kept (fun d => d < lo ∨ (∃ M, mv = .map (some M) ∧ d = M)) V V') {ks' : List (Nat × Nat)} {sv' : Value} (ho : V'.ownsRow lo 122 5 sv' ks'.length (strs fs 0 ks')) : GS O lo G (V'.setCell ⟨G, 1, none⟩ sv') km ks' mv sv' fs := by
  have hg := h.hg
  have hv := h.hv
  have k2 : Kept (fun d => d ≠ G) V' (V'.setCell ⟨G, 1, none⟩ sv') := Kept.setCell _ _ _ _ (by simp)
  have c1 : V'.cell? ⟨G, 1, none⟩ = some sv := by rw [k.cell (p := ⟨G, 1, none⟩) (by show G < _; omega) (.inl hg)]; exact h.gs
  have z := k.size
  refine ⟨?_, World.cell?_setCell_same _ _ _ c1, fun j => ?_, ?_, ownsRow_kept ho k2 (fun b e => by have := ownsRow_blk ho b e; omega), fun e he => ?_, by have := k2.size; omega, hg⟩
  · rw [World.cell?_setCell_other _ _ _ _ (by simp), k.cell (p := ⟨G, 0, none⟩) (by show G < _; omega) (.inl hg)]; exact h.gm
  · rw [World.frozen?_setCell, k.frozen (p := ⟨G, j, none⟩) (by show G < _; omega) (.inl hg)]; exact h.gf j
  · rcases h.mp with h1 | ⟨M, h1, h2, h3⟩
    · exact .inl h1
    · exact .inr ⟨M, h1, (h2.kept k (.inr ⟨M, h1, rfl⟩)).kept k2 (by omega), h3⟩
  · obtain ⟨h1, h2, h3⟩ := h.lv e he
    exact ⟨(h1.kept k h1.lt (.inl h2)).kept k2 (by omega) h3, h2, h3⟩

/-- The map has one more. -/
theorem GS.mapput (h : GS O lo G V km ks mv sv fs) {V' : World} {M : Nat} (hm : mv = .map (some M)) (hM : lo ≤ M) (hg' : V.grownBy V' (some M)) {km' : List (Nat × Nat)} (hp : MP V' M (ents O 0 km')) (hl : ∀ e ∈ km', LiveB V e.1 ∧ e.1 < lo ∧ e.1 ≠ G) : GS O lo G V' km' ks mv sv fs := by
  have hg := h.hg
  have hv := h.hv
  have k : Kept (fun d => d ≠ M) V V' := Kept.grown hg' (fun b e hb => hb (Option.some.inj e).symm)
  refine ⟨?_, ?_, fun j => ?_, .inr ⟨M, hm, hp, hM⟩, ownsRow_kept h.ow k (fun b e => ?_), fun e he => ?_, by have := k.size; omega, hg⟩
  · rw [k.cell (p := ⟨G, 0, none⟩) (by show G < _; omega) (by show G ≠ M; omega)]; exact h.gm
  · rw [k.cell (p := ⟨G, 1, none⟩) (by show G < _; omega) (by show G ≠ M; omega)]; exact h.gs
  · rw [k.frozen (p := ⟨G, j, none⟩) (by show G < _; omega) (by show G ≠ M; omega)]; exact h.gf j
  · rcases h.ow.2 with ⟨h3, -⟩ | ⟨b', cap', cur, h3, -⟩
    · rw [h3] at e; simp [Value.ownBlock] at e
    · have e1 : b' = b := by rw [h3] at e; exact Option.some.inj e
      rw [← e1]
      exact fun e2 => h.mapNe hm h3 e2.symm
  · obtain ⟨h1, h2, h3⟩ := hl e he
    exact ⟨h1.kept k h1.lt (by omega), h2, h3⟩

/-- A cell of the row of strips is written. -/
theorem GS.rowset {b n cap : Nat} (h : GS O lo G V km ks mv (.slice (some ⟨b, 0, none⟩) n cap) fs) {V' : World} (k : Kept (fun d => d ≠ b) V V') {ks' : List (Nat × Nat)} {fs' : Nat → Int} (ho : V'.ownsRow lo 122 5 (.slice (some ⟨b, 0, none⟩) n cap) ks'.length (strs fs' 0 ks')) : GS O lo G V' km ks' mv (.slice (some ⟨b, 0, none⟩) n cap) fs' := by
  have hg := h.hg
  have hv := h.hv
  have hb := ownsRow_blk h.ow b rfl
  refine ⟨?_, ?_, fun j => ?_, ?_, ho, fun e he => ?_, by have := k.size; omega, hg⟩
  · rw [k.cell (p := ⟨G, 0, none⟩) (by show G < _; omega) (by show G ≠ b; omega)]; exact h.gm
  · rw [k.cell (p := ⟨G, 1, none⟩) (by show G < _; omega) (by show G ≠ b; omega)]; exact h.gs
  · rw [k.frozen (p := ⟨G, j, none⟩) (by show G < _; omega) (by show G ≠ b; omega)]; exact h.gf j
  · rcases h.mp with h1 | ⟨M, h1, h2, h3⟩
    · exact .inl h1
    · exact .inr ⟨M, h1, h2.kept k (h.mapNe h1 rfl), h3⟩
  · obtain ⟨h1, h2, h3⟩ := h.lv e he
    exact ⟨h1.kept k h1.lt (by omega), h2, h3⟩
end
end Go.Proofs.Ytfgmgbkiebeeoaa.K

namespace Go.Proofs.Ytfgmgbkiebeeoaa.K
open Go.RowKit Go.Joins
variable {O : Nat → Nat}

theorem GS.slice {lo G : Nat} {V : World} {km ks : List (Nat × Nat)} {mv sv : Value} {fs : Nat → Int} (h : GS O lo G V km ks mv sv fs) (hn : 0 < ks.length) : ∃ b cap, sv = .slice (some ⟨b, 0, none⟩) ks.length cap ∧ lo ≤ b ∧ b < V.heap.size ∧ ks.length ≤ cap := by
  rcases h.ow.2 with ⟨-, h2⟩ | ⟨b, cap, cur, h1, h2, h3, h4, -⟩
  · omega
  · exact ⟨b, cap, h1, h2, (Array.getElem?_eq_some_iff.1 h3).1, h4⟩

set_option maxHeartbeats 2000000 in
set_option maxRecDepth 100000 in
theorem i_whole {lo G : Nat} {V : World} {km ks : List (Nat × Nat)} {mv sv : Value} {fs : Nat → Int} (h : GS O lo G V km ks mv sv fs) (i j : Nat) (hi : i < ks.length) (hl : ks.length ≤ 10000000) :
    Calls Try.prog 55 #[.pointer (some ⟨G, 0, none⟩), .agg #[.int .i64 i, .int .i64 j]] V fun e V' => e = .returned (.agg #[.int .i64 i, .int .i64 j]) ∧ Kept (fun _ => True) V V' := by
  obtain ⟨b, cap, rfl, -, -, hcap⟩ := h.slice (by omega)
  have hic : i < cap := by omega
  obtain ⟨V2, hV2⟩ : ∃ V2, (V.alloc (.cells #[.int .i64 i, .int .i64 j] 116)).alloc (.cells #[.int .i64 0, .int .i64 0] 116) = V2 := ⟨_, rfl⟩
  have k2 : Kept (fun _ => True) V V2 := by rw [← hV2]; exact (Kept.alloc _ _ _).trans (Kept.alloc _ _ _)
  have q3 : Bx V2 V.heap.size [.int .i64 i, .int .i64 j] := by rw [← hV2]; exact (Bx.new _ _ _).kept (Kept.alloc (fun _ => True) _ _) trivial
  have q4 : Bx V2 (V.heap.size + 1) [.int .i64 0, .int .i64 0] := by
    rw [← hV2]
    have := Bx.new (V.alloc (.cells #[.int .i64 i, .int .i64 j] 116)) [.int .i64 0, .int .i64 0] 116
    rwa [World.size_alloc] at this
  obtain ⟨e, he⟩ : ∃ e, ks[i]? = some e := ⟨ks[i], by simp [hi]⟩
  have HFA : Hid (∀ V', Kept (fun _ => True) V2 V' → (V'.cell? ⟨G, 1, none⟩ = some (.slice (some ⟨b, 0, none⟩) ks.length cap) ∧ V'.cell? ⟨b, i * 5, none⟩ = some (.int .i64 i)) ∧ (V'.cell? ⟨V.heap.size, 0, none⟩ = some (.int .i64 i) ∧ V'.cell? ⟨V.heap.size, 1, none⟩ = some (.int .i64 j)) ∧ (V'.cell? ⟨V.heap.size + 1, 0, none⟩ = some (.int .i64 0) ∧ V'.cell? ⟨V.heap.size + 1, 1, none⟩ = some (.int .i64 0)) ∧ V'.frozen? ⟨V.heap.size + 1, 0, none⟩ = false ∧ V'.frozen? ⟨V.heap.size + 1, 1, none⟩ = false) := fun V' k => by
    have h' := h.kept (k2.trans k)
    have r3 := q3.kept k trivial
    have r4 := q4.kept k trivial
    exact ⟨⟨h'.gs, ownsRow_cell h'.ow (i * 5) _ (strs_get fs he (j := 0) rfl)⟩, ⟨r3.cel 0 _ rfl, r3.cel 1 _ rfl⟩, ⟨r4.cel 0 _ rfl, r4.cel 1 _ rfl⟩, r4.live 0, r4.live 1⟩
  have HV2 := hide hV2
  have HK2 := hide k2
  have f0 := HFA.out V2 (Kept.refl _ _)
  have f1 := HFA.out V2.drew (Kept.drew _ _)
  clear hV2 k2 q3 q4 h he e
  go_enter Try.func55, Try.ntmps55
  go_wp2_with fail
  rw [HV2.out]
  go_loopw [17] (fun _ wr => wr = V2) (fun _ _ => 0)
  case atStart => rfl
  case round =>
    obtain rfl : V2 = wr := hrel.symm
    clear hrel
    have HFI : Hid (∀ V', Kept (fun _ => True) V2 V' → Kept (fun _ => True) V ((V'.setCell ⟨V.heap.size + 1, 0, none⟩ (.int .i64 i)).setCell ⟨V.heap.size + 1, 1, none⟩ (.int .i64 j))) := fun V' k => by
      have kk := HK2.out.trans k
      have k3 : Kept (fun d => d < V.heap.size) V' ((V'.setCell ⟨V.heap.size + 1, 0, none⟩ (.int .i64 i)).setCell ⟨V.heap.size + 1, 1, none⟩ (.int .i64 j)) := ((Kept.refl _ _).set (by simp)).set (by simp)
      have k4 : Kept (fun d => d < V.heap.size) V ((V'.setCell ⟨V.heap.size + 1, 0, none⟩ (.int .i64 i)).setCell ⟨V.heap.size + 1, 1, none⟩ (.int .i64 j)) := (kk.mono (fun _ _ _ => trivial)).trans k3
      exact k4.mono (fun b hb _ => hb)
    go_upto_region 1 with fail
    go_region
    all_goals
      go_wp2_with fail
      refine bodyPost_ret (v := .agg #[.int .i64 i, .int .i64 j]) (by simp [results, Try.results55, go_sem, f0]) rfl ⟨rfl, ?_⟩
      first | exact HFI.out V2 (Kept.refl _ _) | exact HFI.out V2.drew (Kept.drew _ _)
end Go.Proofs.Ytfgmgbkiebeeoaa.K

namespace Go.Proofs.Ytfgmgbkiebeeoaa.K
open Go.RowKit Go.Joins
variable {O : Nat → Nat}

theorem GS.off {lo G : Nat} {V V' : World} {km ks : List (Nat × Nat)} {mv sv : Value} {fs : Nat → Int} (h : GS O lo G V km ks mv sv fs) {x : Nat} (k : Kept (fun d => d ≠ x) V V') (hx : lo ≤ x) (hm : ∀ M, mv = .map (some M) → M ≠ x) (hr : ∀ b, sv.ownBlock = some b → b ≠ x) : GS O lo G V' km ks mv sv fs := by
  have hg := h.hg
  have hv := h.hv
  refine ⟨?_, ?_, fun j => ?_, ?_, ownsRow_kept h.ow k (fun b e => hr b e), fun e he => ?_, by have := k.size; omega, hg⟩
  · rw [k.cell (p := ⟨G, 0, none⟩) (by show G < _; omega) (by show G ≠ x; omega)]; exact h.gm
  · rw [k.cell (p := ⟨G, 1, none⟩) (by show G < _; omega) (by show G ≠ x; omega)]; exact h.gs
  · rw [k.frozen (p := ⟨G, j, none⟩) (by show G < _; omega) (by show G ≠ x; omega)]; exact h.gf j
  · rcases h.mp with h1 | ⟨M, h1, h2, h3⟩
    · exact .inl h1
    · exact .inr ⟨M, h1, h2.kept k (hm M h1), h3⟩
  · obtain ⟨h1, h2, h3⟩ := h.lv e he
    exact ⟨h1.kept k h1.lt (by omega), h2, h3⟩

/-- The cells of the map and of the row of strips. -/
theorem GS.map {lo G : Nat} {V : World} {km ks : List (Nat × Nat)} {sv : Value} {fs : Nat → Int} {M : Nat} (h : GS O lo G V km ks (.map (some M)) sv fs) : MP V M (ents O 0 km) ∧ lo ≤ M ∧ M < V.heap.size := by
  rcases h.mp with ⟨-, h1⟩ | ⟨M', h1, h2, h3⟩
  · cases h1
  · cases h1
    exact ⟨h2, h3, h2.lt⟩

theorem run_eqm (M : Nat) (w : World) : (binOp .eql 63 (.map (some M)) (.map none)).run Try.prog w = .ok (.bool false) w := by kernel_rfl
theorem run_eqn (w : World) : (binOp .eql 63 (.map none) (.map none)).run Try.prog w = .ok (.bool true) w := by kernel_rfl

theorem strs_upd (fs : Nat → Int) (K : List (Nat × Nat)) (b n n' : Nat) : ∃ xs ys, strs fs 0 (K ++ [(b, n)]) = xs ++ .int .i64 n :: ys ∧ strs fs 0 (K ++ [(b, n')]) = xs ++ .int .i64 n' :: ys ∧ xs.length = K.length * 5 + 3 := by
  refine ⟨strs fs 0 K ++ [.int .i64 K.length, .int .i64 0, .int .i64 0], [.int .i64 (fs K.length)], ?_, ?_, ?_⟩
  · rw [strs_app]; simp [strs]
  · rw [strs_app]; simp [strs]
  · simp [strs_len]

/-- What is read and left from where the strip is known on. -/
structure PT (O : Nat → Nat) (lo G : Nat) (X : World) (K : List (Nat × Nat)) (b n i M r cap x6 : Nat) (fs : Nat → Int) (V3 : World) : Prop where
  run : (Instr.mapUpdate 63 (.map (some M)) (.pointer (some ⟨b, O b + n * 7, none⟩)) (.agg #[.int .i64 i, .int .i64 n])).run Try.prog (X.alloc (.cells #[.int .i64 i, .int .i64 n] 116)).drew = .ok () V3
  a1 : X.cell? ⟨G, 1, none⟩ = some (.slice (some ⟨r, 0, none⟩) (i + 1) cap)
  a2 : X.cell? ⟨r, i * 5 + 3, none⟩ = some (.int .i64 n)
  b0 : (X.alloc (.cells #[.int .i64 i, .int .i64 n] 116)).cell? ⟨G, 0, none⟩ = some (.map (some M))
  b0' : (X.alloc (.cells #[.int .i64 i, .int .i64 n] 116)).drew.cell? ⟨G, 0, none⟩ = some (.map (some M))
  d1 : V3.cell? ⟨G, 1, none⟩ = some (.slice (some ⟨r, 0, none⟩) (i + 1) cap)
  d2 : V3.cell? ⟨r, i * 5 + 3, none⟩ = some (.int .i64 n)
  d3 : V3.frozen? ⟨r, i * 5 + 3, none⟩ = false
  f0 : (V3.setCell ⟨r, i * 5 + 3, none⟩ (.int .i64 ((n : Int) + 1))).cell? ⟨X.heap.size, 0, none⟩ = some (.int .i64 i)
  f1 : (V3.setCell ⟨r, i * 5 + 3, none⟩ (.int .i64 ((n : Int) + 1))).cell? ⟨X.heap.size, 1, none⟩ = some (.int .i64 n)
  g0 : (V3.setCell ⟨r, i * 5 + 3, none⟩ (.int .i64 ((n : Int) + 1))).cell? ⟨x6, 0, none⟩ = some (.int .i64 0)
  g1 : (V3.setCell ⟨r, i * 5 + 3, none⟩ (.int .i64 ((n : Int) + 1))).cell? ⟨x6, 1, none⟩ = some (.int .i64 0)
  g2 : (V3.setCell ⟨r, i * 5 + 3, none⟩ (.int .i64 ((n : Int) + 1))).frozen? ⟨x6, 0, none⟩ = false
  g3 : (V3.setCell ⟨r, i * 5 + 3, none⟩ (.int .i64 ((n : Int) + 1))).frozen? ⟨x6, 1, none⟩ = false
  fin : GS O lo G (((V3.setCell ⟨r, i * 5 + 3, none⟩ (.int .i64 ((n : Int) + 1))).setCell ⟨x6, 0, none⟩ (.int .i64 i)).setCell ⟨x6, 1, none⟩ (.int .i64 n)) (K ++ [(b, n + 1)]) (K ++ [(b, n + 1)]) (.map (some M)) (.slice (some ⟨r, 0, none⟩) (i + 1) cap) fs ∧ Kept (fun d => d ≠ M ∧ d ≠ r ∧ d ≠ x6) X (((V3.setCell ⟨r, i * 5 + 3, none⟩ (.int .i64 ((n : Int) + 1))).setCell ⟨x6, 0, none⟩ (.int .i64 i)).setCell ⟨x6, 1, none⟩ (.int .i64 n))

theorem put_tail {lo G : Nat} {X : World} {K : List (Nat × Nat)} {b n i M r cap x6 : Nat} {fs : Nat → Int} (hi : K.length = i) (h : GS O lo G X (K ++ [(b, n)]) (K ++ [(b, n)]) (.map (some M)) (.slice (some ⟨r, 0, none⟩) (i + 1) cap) fs) (hb : ∀ e ∈ K, e.1 ≠ b) (q6 : Bx X x6 [.int .i64 0, .int .i64 0]) (h6 : lo ≤ x6) (h6M : M ≠ x6) (h6r : r ≠ x6) :
    ∃ V3, PT O lo G X K b n i M r cap x6 fs V3 := by
  obtain ⟨m1, m2, m3⟩ := h.map
  have hrl : lo ≤ r ∧ r < X.heap.size ∧ i + 1 ≤ cap := by
    have ho := h.ow
    rw [List.length_append, hi] at ho
    have := ownsRow_le ho
    omega
  have hMr := h.mapNe rfl rfl
  have h6x := q6.lt
  have k2 : Kept (fun _ => True) X (X.alloc (.cells #[.int .i64 i, .int .i64 n] 116)) := Kept.alloc _ _ _
  have q7 : Bx (X.alloc (.cells #[.int .i64 i, .int .i64 n] 116)) X.heap.size [.int .i64 i, .int .i64 n] := Bx.new _ _ _
  have h2 := h.kept k2
  have h2d := h2.kept (Kept.drew _ _)
  obtain ⟨V3, hput, hmp3, hg3⟩ := h2d.map.1.putK (fun p hp => by
    obtain ⟨k, e, e1, e2, -⟩ := ents_mem 0 _ p hp
    rw [e2]
    exact (h2d.lv e (List.mem_of_getElem? e1)).1) (b, O b + n * 7) (h2d.lv (b, n) (by simp)).1 (ents_next hb) (i, n)
  have hmp3' : MP V3 M (ents O 0 (K ++ [(b, n + 1)])) := by rw [ents_more, hi]; exact hmp3
  have k3 : Kept (fun d => d ≠ M) (X.alloc (.cells #[.int .i64 i, .int .i64 n] 116)).drew V3 := Kept.grown hg3 (fun b e hb => hb (Option.some.inj e).symm)
  have h3 := h2d.mapput (km' := K ++ [(b, n + 1)]) rfl m2 hg3 hmp3' (fun e he => by
    rcases List.mem_append.1 he with he | he
    · exact h2d.lv e (List.mem_append.2 (.inl he))
    · have : e = (b, n + 1) := by simpa using he
      rw [this]
      exact h2d.lv (b, n) (by simp))
  obtain ⟨xs, ys, e1, e2, e3⟩ := strs_upd fs K b n (n + 1)
  have ho3 := h3.ow
  rw [e1, List.length_append, hi] at ho3
  have ho4 : (V3.setCell ⟨r, xs.length, none⟩ (.int .i64 ((n : Int) + 1))).ownsRow _ _ _ _ _ (xs ++ .int .i64 ((n + 1 : Nat) : Int) :: ys) := ownsRow_set ho3 (.int .i64 ((n + 1 : Nat) : Int))
  rw [e3, hi, ← e2] at ho4
  have k4 : Kept (fun d => d ≠ r) V3 (V3.setCell ⟨r, i * 5 + 3, none⟩ (.int .i64 ((n : Int) + 1))) := Kept.setCell _ _ _ _ (by simp)
  have h4 := h3.rowset (ks' := K ++ [(b, n + 1)]) (fs' := fs) k4 (by rw [List.length_append, hi]; exact ho4)
  have z3 : X.heap.size + 1 ≤ V3.heap.size := by
    have := k3.size
    simpa using this
  have r6 := (((q6.kept k2 trivial).kept (Kept.drew (fun _ => True) _) trivial).kept k3 (fun e => h6M e.symm)).kept k4 (fun e => h6r e.symm)
  have r7 := ((q7.kept (Kept.drew (fun _ => True) _) trivial).kept k3 (by omega)).kept k4 (by omega)
  have k5 : Kept (fun d => d ≠ x6) (V3.setCell ⟨r, i * 5 + 3, none⟩ (.int .i64 ((n : Int) + 1))) (((V3.setCell ⟨r, i * 5 + 3, none⟩ (.int .i64 ((n : Int) + 1))).setCell ⟨x6, 0, none⟩ (.int .i64 i)).setCell ⟨x6, 1, none⟩ (.int .i64 n)) := ((Kept.refl _ _).set (by simp)).set (by simp)
  have h5 := h4.off k5 h6 (fun M' e => by cases e; exact h6M) (fun b' e => by have : r = b' := Option.some.inj e; rw [← this]; exact h6r)
  have he : (K ++ [(b, n)])[i]? = some (b, n) := by rw [List.getElem?_append_right (by omega)]; simp [hi]
  have rd : ∀ W' km', GS O lo G W' km' (K ++ [(b, n)]) (.map (some M)) (.slice (some ⟨r, 0, none⟩) (i + 1) cap) fs → W'.cell? ⟨r, i * 5 + 3, none⟩ = some (.int .i64 n) ∧ W'.frozen? ⟨r, i * 5 + 3, none⟩ = false := fun W' km' hw => by
    have ho := hw.ow
    rw [List.length_append, hi] at ho
    exact ⟨ownsRow_cell ho (i * 5 + 3) _ (strs_get fs he (j := 3) rfl), ownsRow_live ho _⟩
  exact ⟨V3, hput, h.gs, (rd X _ h).1, h2.gm, h2d.gm, h3.gs, (rd V3 _ h3).1, (rd V3 _ h3).2, r7.cel 0 _ rfl, r7.cel 1 _ rfl, r6.cel 0 _ rfl, r6.cel 1 _ rfl, r6.live 0, r6.live 1, h5, ((((k2.mono (fun _ _ _ => trivial)).trans (Kept.drew _ _)).trans (k3.mono (fun d _ hd => hd.1))).trans (k4.mono (fun d _ hd => hd.2.1))).trans (k5.mono (fun d _ hd => hd.2.2))⟩

set_option maxHeartbeats 4000000 in
set_option maxRecDepth 100000 in
/-- One more behind the last strip. -/
theorem i_putB {lo G : Nat} {V : World} {K : List (Nat × Nat)} {b n M r cap i : Nat} {fs : Nat → Int} (hi : K.length = i) (h : GS O lo G V (K ++ [(b, n)]) (K ++ [(b, n)]) (.map (some M)) (.slice (some ⟨r, 0, none⟩) (i + 1) cap) fs) (hb : ∀ e ∈ K, e.1 ≠ b) (hl : i ≤ 10000000) (hn : n ≤ 10000000) :
    Calls Try.prog 54 #[.pointer (some ⟨G, 0, none⟩), .pointer (some ⟨b, O b + n * 7, none⟩), .int .i64 i] V fun e V' => e = .returned (.agg #[.int .i64 i, .int .i64 n]) ∧ GS O lo G V' (K ++ [(b, n + 1)]) (K ++ [(b, n + 1)]) (.map (some M)) (.slice (some ⟨r, 0, none⟩) (i + 1) cap) fs ∧ Kept (fun d => d ≠ M ∧ d ≠ r) V V' := by
  have k1 : Kept (fun _ => True) V (V.alloc (.cells #[.int .i64 0, .int .i64 0] 116)) := Kept.alloc _ _ _
  obtain ⟨m1, m2, m3⟩ := h.map
  have hrl : lo ≤ r ∧ r < V.heap.size ∧ i + 1 ≤ cap := by
    have ho := h.ow
    rw [List.length_append, hi] at ho
    have := ownsRow_le ho
    omega
  obtain ⟨V1, hV1⟩ : ∃ V1, V.alloc (.cells #[.int .i64 0, .int .i64 0] 116) = V1 := ⟨_, rfl⟩
  have z1 : V1.heap.size = V.heap.size + 1 := by rw [← hV1]; simp
  rw [hV1] at k1
  have h1 := h.kept k1
  have q6 : Bx V1 V.heap.size [.int .i64 0, .int .i64 0] := by rw [← hV1]; exact Bx.new _ _ _
  obtain ⟨V3, pt⟩ := put_tail hi h1 hb q6 h.hv (by omega) (by omega)
  have HK1 := hide k1
  have HPT := hide pt
  have a0 := h1.gm
  have a1 := pt.a1
  have a2 := pt.a2
  have hic : i < cap := by omega
  have HV1 := hide hV1
  have HZ1 := hide z1
  have rq := run_eqm M
  clear hV1 k1 pt h1 q6 h hb m1 m2 m3 hrl z1 hi
  go_enter Try.func54, Try.ntmps54
  go_upto_region 1 with fail
  rw [HV1.out]
  clear HV1
  go_upto_region 7 with fail
  have b0 := HPT.out.b0
  have b0' := HPT.out.b0'
  have rp := HPT.out.run
  have b1 : (V1.alloc (.cells #[.int .i64 i, .int .i64 n] 116)).cell? ⟨V1.heap.size, 0, none⟩ = some (.int .i64 i) := by simp
  have b2 : (V1.alloc (.cells #[.int .i64 i, .int .i64 n] 116)).cell? ⟨V1.heap.size, 1, none⟩ = some (.int .i64 n) := by simp
  obtain ⟨V2, hV2⟩ : ∃ V2, V1.alloc (.cells #[.int .i64 i, .int .i64 n] 116) = V2 := ⟨_, rfl⟩
  rw [hV2] at b0 b0' b1 b2 rp
  have b1' : V2.drew.cell? ⟨V1.heap.size, 0, none⟩ = some (.int .i64 i) := b1
  have b2' : V2.drew.cell? ⟨V1.heap.size, 1, none⟩ = some (.int .i64 n) := b2
  rw [hV2]
  clear a0 a1 a2 hV2
  go_region
  all_goals
    clear rq rp b0 b0' b1 b2 b1' b2'
    have d1 := HPT.out.d1
    have d2 := HPT.out.d2
    have d3 := HPT.out.d3
    go_upto_region 9 with fail
    have f0 := HPT.out.f0
    have f1 := HPT.out.f1
    have g0 := HPT.out.g0
    have g1 := HPT.out.g1
    have g2 := HPT.out.g2
    have g3 := HPT.out.g3
    obtain ⟨V4, hV4⟩ : ∃ V4, V3.setCell ⟨r, i * 5 + 3, none⟩ (.int .i64 ((n : Int) + 1)) = V4 := ⟨_, rfl⟩
    have hfin := HPT.out.fin
    rw [hV4] at f0 f1 g0 g1 g2 g3 hfin
    rw [hV4]
    have HFI := hide hfin
    clear d1 d2 d3 hV4 hfin
    go_wp2_with fail
    refine bodyPost_ret (v := .agg #[.int .i64 i, .int .i64 n]) (by simp [results, Try.results54, go_sem, g0, g1]) rfl ⟨rfl, HFI.out.1, ?_⟩
    exact ((HK1.out.mono (fun _ _ _ => trivial)).trans HFI.out.2).mono (fun d hd h => ⟨h.1, h.2, by omega⟩)
end Go.Proofs.Ytfgmgbkiebeeoaa.K

namespace Go.Proofs.Ytfgmgbkiebeeoaa.K
open Go.RowKit Go.Joins
variable {O : Nat → Nat}

def zf : Nat → Int := fun _ => 0

/-- The same of a new strip. -/
structure PT0 (O : Nat → Nat) (lo G : Nat) (X : World) (K : List (Nat × Nat)) (b i M r cap x6 : Nat) (V3 : World) : Prop where
  run : (Instr.mapUpdate 63 (.map (some M)) (.pointer (some ⟨b, O b, none⟩)) (.agg #[.int .i64 i, .int .i64 0])).run Try.prog (X.alloc (.cells #[.int .i64 i, .int .i64 0] 116)).drew = .ok () V3
  a1 : X.cell? ⟨G, 1, none⟩ = some (.slice (some ⟨r, 0, none⟩) (i + 1) cap)
  a2 : X.cell? ⟨r, i * 5 + 3, none⟩ = some (.int .i64 0)
  b0 : (X.alloc (.cells #[.int .i64 i, .int .i64 0] 116)).cell? ⟨G, 0, none⟩ = some (.map (some M))
  b0' : (X.alloc (.cells #[.int .i64 i, .int .i64 0] 116)).drew.cell? ⟨G, 0, none⟩ = some (.map (some M))
  d1 : V3.cell? ⟨G, 1, none⟩ = some (.slice (some ⟨r, 0, none⟩) (i + 1) cap)
  d2 : V3.cell? ⟨r, i * 5 + 3, none⟩ = some (.int .i64 0)
  d3 : V3.frozen? ⟨r, i * 5 + 3, none⟩ = false
  f0 : (V3.setCell ⟨r, i * 5 + 3, none⟩ (.int .i64 1)).cell? ⟨X.heap.size, 0, none⟩ = some (.int .i64 i)
  f1 : (V3.setCell ⟨r, i * 5 + 3, none⟩ (.int .i64 1)).cell? ⟨X.heap.size, 1, none⟩ = some (.int .i64 0)
  g0 : (V3.setCell ⟨r, i * 5 + 3, none⟩ (.int .i64 1)).cell? ⟨x6, 0, none⟩ = some (.int .i64 0)
  g1 : (V3.setCell ⟨r, i * 5 + 3, none⟩ (.int .i64 1)).cell? ⟨x6, 1, none⟩ = some (.int .i64 0)
  g2 : (V3.setCell ⟨r, i * 5 + 3, none⟩ (.int .i64 1)).frozen? ⟨x6, 0, none⟩ = false
  g3 : (V3.setCell ⟨r, i * 5 + 3, none⟩ (.int .i64 1)).frozen? ⟨x6, 1, none⟩ = false
  fin : GS O lo G (((V3.setCell ⟨r, i * 5 + 3, none⟩ (.int .i64 1)).setCell ⟨x6, 0, none⟩ (.int .i64 i)).setCell ⟨x6, 1, none⟩ (.int .i64 0)) (K ++ [(b, 1)]) (K ++ [(b, 1)]) (.map (some M)) (.slice (some ⟨r, 0, none⟩) (i + 1) cap) zf ∧ Kept (fun d => d ≠ M ∧ d ≠ r ∧ d ≠ x6) X (((V3.setCell ⟨r, i * 5 + 3, none⟩ (.int .i64 1)).setCell ⟨x6, 0, none⟩ (.int .i64 i)).setCell ⟨x6, 1, none⟩ (.int .i64 0))

theorem PT.zero {lo G : Nat} {X : World} {K : List (Nat × Nat)} {b i M r cap x6 : Nat} {V3 : World} (h : PT O lo G X K b 0 i M r cap x6 zf V3) : PT0 O lo G X K b i M r cap x6 V3 := by
  obtain ⟨h1, h2, h3, h4, h5, h6, h7, h8, h9, h10, h11, h12, h13, h14, h15⟩ := h
  have e0 : ((0 : Nat) : Int) = 0 := rfl
  have e1 : (0 : Int) + 1 = 1 := rfl
  have e2 : O b + 0 * 7 = O b := rfl
  rw [e0, e2] at h1
  rw [e0] at h3 h4 h5 h7 h9 h10 h11 h12 h13 h14 h15
  rw [e1] at h9 h10 h11 h12 h13 h14 h15
  exact ⟨h1, h2, h3, h4, h5, h6, h7, h8, h9, h10, h11, h12, h13, h14, h15⟩

/-- A strip that is not begun. -/
theorem GS.conv {lo G : Nat} {V : World} {K ks : List (Nat × Nat)} {mv sv : Value} {fs : Nat → Int} {M b : Nat} (hm : mv = .map (some M)) (h : GS O lo G V K ks mv sv fs) (hb : LiveB V b ∧ b < lo ∧ b ≠ G) : GS O lo G V (K ++ [(b, 0)]) ks mv sv fs := by
  refine ⟨h.gm, h.gs, h.gf, ?_, h.ow, fun e he => ?_, h.hv, h.hg⟩
  · rcases h.mp with ⟨-, h1⟩ | ⟨M', h1, h2, h3⟩
    · rw [hm] at h1; cases h1
    · exact .inr ⟨M', h1, by rw [ents_zero]; exact h2, h3⟩
  · rcases List.mem_append.1 he with he | he
    · exact h.lv e he
    · have : e = (b, 0) := by simpa using he
      rw [this]
      exact hb

theorem GS.slice0 {lo G : Nat} {V : World} {km ks : List (Nat × Nat)} {mv sv : Value} {fs : Nat → Int} (h : GS O lo G V km ks mv sv fs) : ∃ a cap, sv = .slice a ks.length cap := by
  rcases h.ow.2 with ⟨h1, h2⟩ | ⟨b, cap, cur, h1, -⟩
  · exact ⟨none, 0, by rw [h2]; exact h1⟩
  · exact ⟨_, _, h1⟩

theorem Try.info122 : (Try.prog.info? 122).map (fun i => (i.zero, i.size, i.bytes)) = some (some (.agg #[.int .i64 0, .int .i64 0, .int .i64 0, .int .i64 0, .int .i64 0]), 5, 40) := by kernel_rfl

set_option maxHeartbeats 4000000 in
set_option maxRecDepth 100000 in
/-- A new strip. -/
theorem i_putA {lo G : Nat} {V : World} {K : List (Nat × Nat)} {b M i : Nat} {sv : Value} (hi : K.length = i) (h : GS O lo G V K K (.map (some M)) sv zf) (hb : ∀ e ∈ K, e.1 ≠ b) (lb : LiveB V b ∧ b < lo ∧ b ≠ G) (hl : i ≤ 10000000) :
    Calls Try.prog 54 #[.pointer (some ⟨G, 0, none⟩), .pointer (some ⟨b, O b, none⟩), .int .i64 (-1)] V fun e V' => ∃ r cap, e = .returned (.agg #[.int .i64 i, .int .i64 0]) ∧ GS O lo G V' (K ++ [(b, 1)]) (K ++ [(b, 1)]) (.map (some M)) (.slice (some ⟨r, 0, none⟩) (i + 1) cap) zf ∧ Kept (fun d => d ≠ G ∧ d ≠ M ∧ sv.ownBlock ≠ some d) V V' ∧ (∀ j, j ≠ 0 → j ≠ 1 → V'.cell? ⟨G, j, none⟩ = V.cell? ⟨G, j, none⟩) ∧ True ∧ (sv.ownBlock = some r ∨ V.heap.size ≤ r) := by
  obtain ⟨a, cap0, hsv⟩ := h.slice0
  rw [hi] at hsv
  subst hsv
  obtain ⟨VB, hVB⟩ : ∃ VB, V.alloc (.cells #[.int .i64 0, .int .i64 0] 116) = VB := ⟨_, rfl⟩
  have zB : VB.heap.size = V.heap.size + 1 := by rw [← hVB]; simp
  have kB : Kept (fun _ => True) V VB := by rw [← hVB]; exact Kept.alloc _ _ _
  have qB : Bx VB V.heap.size [.int .i64 0, .int .i64 0] := by rw [← hVB]; exact Bx.new _ _ _
  have hB := h.kept kB
  obtain ⟨VM, hVM⟩ : ∃ VM, VB = VM := ⟨_, rfl⟩
  have gG := hB.hg
  have gV := h.hv
  have kM : Kept (fun d => d ≠ G) V VM := by rw [← hVM]; exact kB.mono (fun _ _ _ => trivial)
  have qM : Bx VM V.heap.size [.int .i64 0, .int .i64 0] := by rw [← hVM]; exact qB
  have hM : GS O lo G VM K K (.map (some M)) (.slice a i cap0) zf := by rw [← hVM]; exact hB
  have zM : M ≠ V.heap.size := by have := h.map.2.2; omega
  have hGM : ∀ j, j ≠ 0 → VM.cell? ⟨G, j, none⟩ = V.cell? ⟨G, j, none⟩ := fun j _ => by
    rw [← hVM, kB.cell (p := ⟨G, j, none⟩) (by show G < _; omega) trivial]
  have lM : LiveB VM b := lb.1.kept kM lb.1.lt lb.2.2
  have c0 := hB.gm
  have HOW0 := hM.ow
  rw [hi] at HOW0
  obtain ⟨VR, hVR⟩ : ∃ VR, VM.alloc (.cells #[.int .i64 i, .int .i64 0, .int .i64 0, .int .i64 0, .int .i64 0] 122) = VR := ⟨_, rfl⟩
  have kR : Kept (fun _ => True) VM VR := by rw [← hVR]; exact Kept.alloc _ _ _
  have hR := hM.kept kR
  have HN : Hid (VR.heap[VM.heap.size]? = some (.cells #[.int .i64 i, .int .i64 0, .int .i64 0, .int .i64 0, .int .i64 0] 122)) := by unfold Hid; rw [← hVR]; exact heap_new _ _
  have HOW : Hid (VR.ownsRow lo 122 5 (.slice a i cap0) i (strs zf 0 K)) := by have := hR.ow; rw [hi] at this; exact this
  have HZ := hide hR.hv
  have h63 : Hid (i + 1 ≤ maxLen ∧ (i + 1) * 40 ≤ 140737488355328) := ⟨by unfold maxLen; omega, by omega⟩
  have HFIN : Hid (∀ r cap W', W'.ownsRow lo 122 5 (.slice (some ⟨r, 0, none⟩) (i + 1) cap) (i + 1) (strs zf 0 K ++ [.int .i64 i, .int .i64 0, .int .i64 0, .int .i64 0, .int .i64 0]) → VR.grownBy W' (Value.slice a i cap0).ownBlock → ((Value.slice a i cap0).ownBlock = some r ∨ r = VR.heap.size) → (W'.cell? ⟨G, 1, none⟩ = some (.slice a i cap0) ∧ W'.frozen? ⟨G, 1, none⟩ = false) ∧ i < cap ∧ (Kept (fun d => d ≠ G ∧ (Value.slice a i cap0).ownBlock ≠ some d) V (W'.setCell ⟨G, 1, none⟩ (.slice (some ⟨r, 0, none⟩) (i + 1) cap)) ∧ (∀ j, j ≠ 0 → j ≠ 1 → (W'.setCell ⟨G, 1, none⟩ (.slice (some ⟨r, 0, none⟩) (i + 1) cap)).cell? ⟨G, j, none⟩ = V.cell? ⟨G, j, none⟩) ∧ (∀ d, d < V.heap.size → (Value.slice a i cap0).ownBlock ≠ some d → d ≠ r) ∧ ((Value.slice a i cap0).ownBlock = some r ∨ V.heap.size ≤ r) ∧ lo ≤ r) ∧ True ∧ GS O lo G (W'.setCell ⟨G, 1, none⟩ (.slice (some ⟨r, 0, none⟩) (i + 1) cap)) (K ++ [(b, 0)]) (K ++ [(b, 0)]) (.map (some M)) (.slice (some ⟨r, 0, none⟩) (i + 1) cap) zf ∧ Bx (W'.setCell ⟨G, 1, none⟩ (.slice (some ⟨r, 0, none⟩) (i + 1) cap)) V.heap.size [.int .i64 0, .int .i64 0] ∧ r ≠ V.heap.size) := fun r cap W' o1 o2 o3 => by
    have hMr : ∀ d, (Value.slice a i cap0).ownBlock = some d → d ≠ M ∧ d ≠ V.heap.size ∧ lo ≤ d := fun d e => by
      have hd := ownsRow_blk HOW.out d e
      refine ⟨?_, ?_, hd⟩
      · rcases HOW.out.2 with ⟨h3, -⟩ | ⟨b', cap', cur, h3, -⟩
        · rw [h3] at e; simp [Value.ownBlock] at e
        · have e1 : b' = d := by rw [h3] at e; exact Option.some.inj e
          rw [← e1]
          exact fun e2 => hR.mapNe rfl h3 e2.symm
      · have h0 := h.ow
        rw [hi] at h0
        rcases h0.2 with ⟨h3, -⟩ | ⟨b', cap', cur, h3, -, hg, -⟩
        · rw [h3] at e; simp [Value.ownBlock] at e
        · have e1 : b' = d := by rw [h3] at e; exact Option.some.inj e
          have := (Array.getElem?_eq_some_iff.1 hg).1
          omega
    have kG : Kept (fun d => d < lo ∨ (∃ M', Value.map (some M) = .map (some M') ∧ d = M')) VR W' := Kept.grown o2 (fun d e hd => by
      obtain ⟨x1, x2, x3⟩ := hMr d e
      rcases hd with hd | ⟨M', e1, e2⟩
      · omega
      · cases e1; exact x1 e2)
    have kX : Kept (fun d => d = V.heap.size) VR W' := Kept.grown o2 (fun d e hd => (hMr d e).2.1 hd)
    have e5 : strs zf 0 (K ++ [(b, 0)]) = strs zf 0 K ++ [.int .i64 i, .int .i64 0, .int .i64 0, .int .i64 0, .int .i64 0] := by rw [strs_app]; simp [strs, zf, hi]
    have g1 := hR.strips kG (ks' := K ++ [(b, 0)]) (sv' := .slice (some ⟨r, 0, none⟩) (i + 1) cap) (by rw [e5, List.length_append, hi]; exact o1)
    have kS : Kept (fun d => d ≠ G) W' (W'.setCell ⟨G, 1, none⟩ (.slice (some ⟨r, 0, none⟩) (i + 1) cap)) := Kept.setCell _ _ _ _ (by simp)
    have zR := kR.size
    have zm := kM.size
    have lR : LiveB (W'.setCell ⟨G, 1, none⟩ (.slice (some ⟨r, 0, none⟩) (i + 1) cap)) b := ((lM.all kR).kept kG (lM.all kR).lt (.inl lb.2.1)).kept kS (((lM.all kR).kept kG (lM.all kR).lt (.inl lb.2.1)).lt) lb.2.2
    have kO : Kept (fun d => (Value.slice a i cap0).ownBlock ≠ some d) VR W' := Kept.grown o2 (fun d e hd => hd e)
    have zV : V.heap.size ≤ VR.heap.size := by have := qM.lt; omega
    have hdr : ∀ d, d < V.heap.size → (Value.slice a i cap0).ownBlock ≠ some d → d ≠ r := fun d hd ho e => by
      rcases o3 with o3 | o3
      · exact ho (by rw [e]; exact o3)
      · omega
    have o3' : (Value.slice a i cap0).ownBlock = some r ∨ V.heap.size ≤ r := by
      rcases o3 with o3 | o3
      · exact .inl o3
      · exact .inr (by omega)
    have hGC : ∀ j, j ≠ 0 → j ≠ 1 → (W'.setCell ⟨G, 1, none⟩ (.slice (some ⟨r, 0, none⟩) (i + 1) cap)).cell? ⟨G, j, none⟩ = V.cell? ⟨G, j, none⟩ := fun j j0 j1 => by
      rw [World.cell?_setCell_other _ _ _ _ (by simp <;> omega), kG.cell (p := ⟨G, j, none⟩) (by show G < _; omega) (.inl gG), kR.cell (p := ⟨G, j, none⟩) (by show G < _; omega) trivial]
      exact hGM j j0
    have hrV : r ≠ V.heap.size := by
      rcases o3 with o3 | o3
      · exact (hMr r o3).2.1
      · have := kB.size
        have z4 : VM.heap.size ≤ VR.heap.size := zR
        have z5 := qM.lt
        omega
    exact ⟨⟨kG.cell (p := ⟨G, 1, none⟩) (by show G < _; omega) (.inl gG) |>.trans hR.gs, kG.frozen (p := ⟨G, 1, none⟩) (by show G < _; omega) (.inl gG) |>.trans (hR.gf 1)⟩, by have := (ownsRow_le o1).2.2.1; omega, ⟨(kM.mono (fun d _ hd => hd.1)).trans ((kR.mono (fun _ _ _ => trivial)).trans ((kO.mono (fun d _ hd => hd.2)).trans (kS.mono (fun d _ hd => hd.1)))), hGC, hdr, o3', (ownsRow_le o1).1⟩, trivial, GS.conv rfl g1 ⟨lR, lb.2.1, lb.2.2⟩, ((qM.kept kR trivial).kept kX rfl).kept kS (by omega), hrV⟩
  have HZM := hide zM
  have HHI := hide hi
  have HHB := hide hb
  have HGV := hide gV
  have d1 := hM.gs
  have HVM := hide hVM
  have HVR := hide hVR
  have HVB := hide hVB
  have rq := run_eqm M
  clear hVM hVR hVB kB zB qB hB kM qM hM lM kR hR HOW0 lb hb h gG gV zM hGM hi
  go_enter Try.func54, Try.ntmps54
  go_upto_region 1 with fail
  rw [HVB.out, HVM.out]
  rw [HVM.out] at c0
  clear HVB HVM
  go_upto_region 6 with (at_builtin; rw [HVR.out]; refine ur_stepL rfl _ _ 64 122 rfl Try.info122 Try.underlying64 rfl (by decide) lo VR (.slice a i cap0) i (strs zf 0 K) [.int .i64 i, .int .i64 0, .int .i64 0, .int .i64 0, .int .i64 0] _ _ rfl rfl HZ.out HOW.out HN.out rfl (by simp [Value.oneCell']) h63.out.1 h63.out.2 ?_; intro r cap w3 hO7 hG7 hB7; have HA7 := hide (HFIN.out r cap w3 hO7 hG7 hB7); have x1 := HA7.out.1.1; have x2 := HA7.out.1.2; clear hO7 hG7 hB7)
  obtain ⟨V1, hV1⟩ : ∃ V1, w3.setCell ⟨G, 1, none⟩ (.slice (some ⟨r, 0, none⟩) (i + 1) cap) = V1 := ⟨_, rfl⟩
  have ha7 := HA7.out.2
  rw [hV1] at ha7
  obtain ⟨hic, ⟨hk1, hgc, hdr, ho3, hlr⟩, -, hg1, q6, hrV⟩ := ha7
  have HX : Hid ((∀ j, j ≠ 0 → j ≠ 1 → V1.cell? ⟨G, j, none⟩ = V.cell? ⟨G, j, none⟩) ∧ (∀ d, d < V.heap.size → (Value.slice a i cap0).ownBlock ≠ some d → d ≠ r) ∧ ((Value.slice a i cap0).ownBlock = some r ∨ V.heap.size ≤ r) ∧ G < V1.heap.size ∧ G ≠ M ∧ G ≠ r ∧ G ≠ V.heap.size) := ⟨hgc, hdr, ho3, by have := hg1.hg; have := hg1.hv; omega, by have := hg1.hg; have := hg1.map.2.1; omega, by have := hg1.hg; omega, by have := hg1.hg; have := HGV.out; omega⟩
  clear hgc hdr ho3 hlr
  obtain ⟨V3, pt'⟩ := put_tail HHI.out hg1 HHB.out q6 HGV.out HZM.out hrV
  have pt := pt'.zero
  rw [hV1]
  have HK1 := hide hk1
  have HPT := hide pt
  have a0 := hg1.gm
  have a1 := pt.a1
  have a2 := pt.a2
  clear hV1 HA7 x1 x2 hk1 hg1 q6 hrV pt pt' HFIN HN HOW HZ h63 HVR d1 c0 rq
  go_upto_region 7 with fail
  have b0 := HPT.out.b0
  have b0' := HPT.out.b0'
  have rp := HPT.out.run
  have b1 : (V1.alloc (.cells #[.int .i64 i, .int .i64 0] 116)).cell? ⟨V1.heap.size, 0, none⟩ = some (.int .i64 i) := by simp
  have b2 : (V1.alloc (.cells #[.int .i64 i, .int .i64 0] 116)).cell? ⟨V1.heap.size, 1, none⟩ = some (.int .i64 0) := by simp
  obtain ⟨V2, hV2⟩ : ∃ V2, V1.alloc (.cells #[.int .i64 i, .int .i64 0] 116) = V2 := ⟨_, rfl⟩
  rw [hV2] at b0 b0' b1 b2 rp
  have b1' : V2.drew.cell? ⟨V1.heap.size, 0, none⟩ = some (.int .i64 i) := b1
  have b2' : V2.drew.cell? ⟨V1.heap.size, 1, none⟩ = some (.int .i64 0) := b2
  rw [hV2]
  clear a0 a1 a2 hV2
  go_region
  all_goals
    clear rp b0 b0' b1 b2 b1' b2'
    have d1 := HPT.out.d1
    have d2 := HPT.out.d2
    have d3 := HPT.out.d3
    go_upto_region 9 with fail
    have f0 := HPT.out.f0
    have f1 := HPT.out.f1
    have g0 := HPT.out.g0
    have g1 := HPT.out.g1
    have g2 := HPT.out.g2
    have g3 := HPT.out.g3
    obtain ⟨V4, hV4⟩ : ∃ V4, V3.setCell ⟨r, i * 5 + 3, none⟩ (.int .i64 (1)) = V4 := ⟨_, rfl⟩
    have hfin := HPT.out.fin
    rw [hV4] at f0 f1 g0 g1 g2 g3 hfin
    rw [hV4]
    have HFI := hide hfin
    clear d1 d2 d3 hV4 hfin
    go_wp2_with fail
    refine bodyPost_ret (v := .agg #[.int .i64 i, .int .i64 0]) (by simp [results, Try.results54, go_sem, g0, g1]) rfl ⟨r, cap, rfl, HFI.out.1, ?_, fun j j0 j1 => (HFI.out.2.cell (p := ⟨G, j, none⟩) HX.out.2.2.2.1 HX.out.2.2.2.2).trans (HX.out.1 j j0 j1), trivial, HX.out.2.2.1⟩
    exact ((HK1.out.mono (fun d hd h => ⟨h.1, h.2.1⟩)).trans (HFI.out.2.mono (fun d _ h => ⟨h.2.2.1, h.2.2.2.1, h.2.2.2.2⟩)) : Kept (fun d => d ≠ G ∧ (Value.slice a i cap0).ownBlock ≠ some d ∧ d ≠ M ∧ d ≠ r ∧ d ≠ V.heap.size) V _).mono (fun d hd h => ⟨h.1, h.2.2, h.2.1, HX.out.2.1 d hd h.2.2, by omega⟩)

set_option maxHeartbeats 4000000 in
set_option maxRecDepth 100000 in
/-- A new strip. -/
theorem i_putN {lo G : Nat} {V : World} {K : List (Nat × Nat)} {b i : Nat} {sv : Value} (hi : K.length = i) (h : GS O lo G V K K (.map none) sv zf) (hb : ∀ e ∈ K, e.1 ≠ b) (lb : LiveB V b ∧ b < lo ∧ b ≠ G) (hl : i ≤ 10000000) :
    Calls Try.prog 54 #[.pointer (some ⟨G, 0, none⟩), .pointer (some ⟨b, O b, none⟩), .int .i64 (-1)] V fun e V' => ∃ M r cap, e = .returned (.agg #[.int .i64 i, .int .i64 0]) ∧ GS O lo G V' (K ++ [(b, 1)]) (K ++ [(b, 1)]) (.map (some M)) (.slice (some ⟨r, 0, none⟩) (i + 1) cap) zf ∧ Kept (fun d => d ≠ G ∧ sv.ownBlock ≠ some d) V V' ∧ (∀ j, j ≠ 0 → j ≠ 1 → V'.cell? ⟨G, j, none⟩ = V.cell? ⟨G, j, none⟩) ∧ V.heap.size ≤ M ∧ (sv.ownBlock = some r ∨ V.heap.size ≤ r) := by
  obtain ⟨a, cap0, hsv⟩ := h.slice0
  rw [hi] at hsv
  subst hsv
  obtain ⟨VB, hVB⟩ : ∃ VB, V.alloc (.cells #[.int .i64 0, .int .i64 0] 116) = VB := ⟨_, rfl⟩
  have zB : VB.heap.size = V.heap.size + 1 := by rw [← hVB]; simp
  have kB : Kept (fun _ => True) V VB := by rw [← hVB]; exact Kept.alloc _ _ _
  have qB : Bx VB V.heap.size [.int .i64 0, .int .i64 0] := by rw [← hVB]; exact Bx.new _ _ _
  have hB := h.kept kB
  obtain ⟨M, hMe⟩ : ∃ M, VB.heap.size = M := ⟨_, rfl⟩
  obtain ⟨VA, hVA⟩ : ∃ VA, VB.alloc (.map #[] 0) = VA := ⟨_, rfl⟩
  have rm := run_makeMapK VB
  have hM' := hB.newmap
  rw [hVA, hMe] at rm hM'
  obtain ⟨VM, hVM⟩ : ∃ VM, VA.setCell ⟨G, 0, none⟩ (.map (some M)) = VM := ⟨_, rfl⟩
  rw [hVM] at hM'
  have gG := hB.hg
  have gV := h.hv
  have kA : Kept (fun _ => True) VB VA := by rw [← hVA]; exact Kept.alloc _ _ _
  have kM : Kept (fun d => d ≠ G) V VM := by rw [← hVM]; exact (kB.mono (fun _ _ _ => trivial)).trans ((kA.mono (fun _ _ _ => trivial)).trans (Kept.setCell _ _ _ _ (by simp)))
  have qM : Bx VM V.heap.size [.int .i64 0, .int .i64 0] := by rw [← hVM]; exact (qB.kept kA trivial).kept (Kept.setCell (fun d => d ≠ G) _ _ _ (by simp)) (by omega)
  have hM : GS O lo G VM K K (.map (some M)) (.slice a i cap0) zf := hM'
  have zM : M ≠ V.heap.size := by omega
  have hGM : ∀ j, j ≠ 0 → VM.cell? ⟨G, j, none⟩ = V.cell? ⟨G, j, none⟩ := fun j j0 => by
    rw [← hVM, World.cell?_setCell_other _ _ _ _ (by simp <;> omega), kA.cell (p := ⟨G, j, none⟩) (by show G < _; omega) trivial, kB.cell (p := ⟨G, j, none⟩) (by show G < _; omega) trivial]
  have zMV : V.heap.size ≤ M := by omega
  have n0 : VA.cell? ⟨G, 0, none⟩ = some (.map none) := (kA.cell (p := ⟨G, 0, none⟩) (by show G < _; omega) trivial).trans hB.gm
  have n1 : VA.frozen? ⟨G, 0, none⟩ = false := (kA.frozen (p := ⟨G, 0, none⟩) (by show G < _; omega) trivial).trans (hB.gf 0)
  clear hM' hVA hMe kA
  have lM : LiveB VM b := lb.1.kept kM lb.1.lt lb.2.2
  have c0 := hB.gm
  have HOW0 := hM.ow
  rw [hi] at HOW0
  obtain ⟨VR, hVR⟩ : ∃ VR, VM.alloc (.cells #[.int .i64 i, .int .i64 0, .int .i64 0, .int .i64 0, .int .i64 0] 122) = VR := ⟨_, rfl⟩
  have kR : Kept (fun _ => True) VM VR := by rw [← hVR]; exact Kept.alloc _ _ _
  have hR := hM.kept kR
  have HN : Hid (VR.heap[VM.heap.size]? = some (.cells #[.int .i64 i, .int .i64 0, .int .i64 0, .int .i64 0, .int .i64 0] 122)) := by unfold Hid; rw [← hVR]; exact heap_new _ _
  have HOW : Hid (VR.ownsRow lo 122 5 (.slice a i cap0) i (strs zf 0 K)) := by have := hR.ow; rw [hi] at this; exact this
  have HZ := hide hR.hv
  have h63 : Hid (i + 1 ≤ maxLen ∧ (i + 1) * 40 ≤ 140737488355328) := ⟨by unfold maxLen; omega, by omega⟩
  have HFIN : Hid (∀ r cap W', W'.ownsRow lo 122 5 (.slice (some ⟨r, 0, none⟩) (i + 1) cap) (i + 1) (strs zf 0 K ++ [.int .i64 i, .int .i64 0, .int .i64 0, .int .i64 0, .int .i64 0]) → VR.grownBy W' (Value.slice a i cap0).ownBlock → ((Value.slice a i cap0).ownBlock = some r ∨ r = VR.heap.size) → (W'.cell? ⟨G, 1, none⟩ = some (.slice a i cap0) ∧ W'.frozen? ⟨G, 1, none⟩ = false) ∧ i < cap ∧ (Kept (fun d => d ≠ G ∧ (Value.slice a i cap0).ownBlock ≠ some d) V (W'.setCell ⟨G, 1, none⟩ (.slice (some ⟨r, 0, none⟩) (i + 1) cap)) ∧ (∀ j, j ≠ 0 → j ≠ 1 → (W'.setCell ⟨G, 1, none⟩ (.slice (some ⟨r, 0, none⟩) (i + 1) cap)).cell? ⟨G, j, none⟩ = V.cell? ⟨G, j, none⟩) ∧ (∀ d, d < V.heap.size → (Value.slice a i cap0).ownBlock ≠ some d → d ≠ r) ∧ ((Value.slice a i cap0).ownBlock = some r ∨ V.heap.size ≤ r) ∧ lo ≤ r) ∧ True ∧ GS O lo G (W'.setCell ⟨G, 1, none⟩ (.slice (some ⟨r, 0, none⟩) (i + 1) cap)) (K ++ [(b, 0)]) (K ++ [(b, 0)]) (.map (some M)) (.slice (some ⟨r, 0, none⟩) (i + 1) cap) zf ∧ Bx (W'.setCell ⟨G, 1, none⟩ (.slice (some ⟨r, 0, none⟩) (i + 1) cap)) V.heap.size [.int .i64 0, .int .i64 0] ∧ r ≠ V.heap.size) := fun r cap W' o1 o2 o3 => by
    have hMr : ∀ d, (Value.slice a i cap0).ownBlock = some d → d ≠ M ∧ d ≠ V.heap.size ∧ lo ≤ d := fun d e => by
      have hd := ownsRow_blk HOW.out d e
      refine ⟨?_, ?_, hd⟩
      · rcases HOW.out.2 with ⟨h3, -⟩ | ⟨b', cap', cur, h3, -⟩
        · rw [h3] at e; simp [Value.ownBlock] at e
        · have e1 : b' = d := by rw [h3] at e; exact Option.some.inj e
          rw [← e1]
          exact fun e2 => hR.mapNe rfl h3 e2.symm
      · have h0 := h.ow
        rw [hi] at h0
        rcases h0.2 with ⟨h3, -⟩ | ⟨b', cap', cur, h3, -, hg, -⟩
        · rw [h3] at e; simp [Value.ownBlock] at e
        · have e1 : b' = d := by rw [h3] at e; exact Option.some.inj e
          have := (Array.getElem?_eq_some_iff.1 hg).1
          omega
    have kG : Kept (fun d => d < lo ∨ (∃ M', Value.map (some M) = .map (some M') ∧ d = M')) VR W' := Kept.grown o2 (fun d e hd => by
      obtain ⟨x1, x2, x3⟩ := hMr d e
      rcases hd with hd | ⟨M', e1, e2⟩
      · omega
      · cases e1; exact x1 e2)
    have kX : Kept (fun d => d = V.heap.size) VR W' := Kept.grown o2 (fun d e hd => (hMr d e).2.1 hd)
    have e5 : strs zf 0 (K ++ [(b, 0)]) = strs zf 0 K ++ [.int .i64 i, .int .i64 0, .int .i64 0, .int .i64 0, .int .i64 0] := by rw [strs_app]; simp [strs, zf, hi]
    have g1 := hR.strips kG (ks' := K ++ [(b, 0)]) (sv' := .slice (some ⟨r, 0, none⟩) (i + 1) cap) (by rw [e5, List.length_append, hi]; exact o1)
    have kS : Kept (fun d => d ≠ G) W' (W'.setCell ⟨G, 1, none⟩ (.slice (some ⟨r, 0, none⟩) (i + 1) cap)) := Kept.setCell _ _ _ _ (by simp)
    have zR := kR.size
    have zm := kM.size
    have lR : LiveB (W'.setCell ⟨G, 1, none⟩ (.slice (some ⟨r, 0, none⟩) (i + 1) cap)) b := ((lM.all kR).kept kG (lM.all kR).lt (.inl lb.2.1)).kept kS (((lM.all kR).kept kG (lM.all kR).lt (.inl lb.2.1)).lt) lb.2.2
    have kO : Kept (fun d => (Value.slice a i cap0).ownBlock ≠ some d) VR W' := Kept.grown o2 (fun d e hd => hd e)
    have zV : V.heap.size ≤ VR.heap.size := by have := qM.lt; omega
    have hdr : ∀ d, d < V.heap.size → (Value.slice a i cap0).ownBlock ≠ some d → d ≠ r := fun d hd ho e => by
      rcases o3 with o3 | o3
      · exact ho (by rw [e]; exact o3)
      · omega
    have o3' : (Value.slice a i cap0).ownBlock = some r ∨ V.heap.size ≤ r := by
      rcases o3 with o3 | o3
      · exact .inl o3
      · exact .inr (by omega)
    have hGC : ∀ j, j ≠ 0 → j ≠ 1 → (W'.setCell ⟨G, 1, none⟩ (.slice (some ⟨r, 0, none⟩) (i + 1) cap)).cell? ⟨G, j, none⟩ = V.cell? ⟨G, j, none⟩ := fun j j0 j1 => by
      rw [World.cell?_setCell_other _ _ _ _ (by simp <;> omega), kG.cell (p := ⟨G, j, none⟩) (by show G < _; omega) (.inl gG), kR.cell (p := ⟨G, j, none⟩) (by show G < _; omega) trivial]
      exact hGM j j0
    have hrV : r ≠ V.heap.size := by
      rcases o3 with o3 | o3
      · exact (hMr r o3).2.1
      · have := kB.size
        have z4 : VM.heap.size ≤ VR.heap.size := zR
        have z5 := qM.lt
        omega
    exact ⟨⟨kG.cell (p := ⟨G, 1, none⟩) (by show G < _; omega) (.inl gG) |>.trans hR.gs, kG.frozen (p := ⟨G, 1, none⟩) (by show G < _; omega) (.inl gG) |>.trans (hR.gf 1)⟩, by have := (ownsRow_le o1).2.2.1; omega, ⟨(kM.mono (fun d _ hd => hd.1)).trans ((kR.mono (fun _ _ _ => trivial)).trans ((kO.mono (fun d _ hd => hd.2)).trans (kS.mono (fun d _ hd => hd.1)))), hGC, hdr, o3', (ownsRow_le o1).1⟩, trivial, GS.conv rfl g1 ⟨lR, lb.2.1, lb.2.2⟩, ((qM.kept kR trivial).kept kX rfl).kept kS (by omega), hrV⟩
  have HZM := hide zM
  have HZV := hide zMV
  have HHI := hide hi
  have HHB := hide hb
  have HGV := hide gV
  have d1 := hM.gs
  have HVM := hide hVM
  have HVR := hide hVR
  have HVB := hide hVB
  have rq := run_eqn
  clear hVM hVR hVB kB zB qB hB kM qM hM lM kR hR HOW0 lb hb h gG gV zM zMV hGM hi
  go_enter Try.func54, Try.ntmps54
  go_upto_region 1 with fail
  rw [HVB.out]
  clear HVB
  go_upto_region 3 with fail
  rw [HVM.out]
  clear HVM rm n0 n1
  go_upto_region 6 with (at_builtin; rw [HVR.out]; refine ur_stepL rfl _ _ 64 122 rfl Try.info122 Try.underlying64 rfl (by decide) lo VR (.slice a i cap0) i (strs zf 0 K) [.int .i64 i, .int .i64 0, .int .i64 0, .int .i64 0, .int .i64 0] _ _ rfl rfl HZ.out HOW.out HN.out rfl (by simp [Value.oneCell']) h63.out.1 h63.out.2 ?_; intro r cap w3 hO7 hG7 hB7; have HA7 := hide (HFIN.out r cap w3 hO7 hG7 hB7); have x1 := HA7.out.1.1; have x2 := HA7.out.1.2; clear hO7 hG7 hB7)
  obtain ⟨V1, hV1⟩ : ∃ V1, w3.setCell ⟨G, 1, none⟩ (.slice (some ⟨r, 0, none⟩) (i + 1) cap) = V1 := ⟨_, rfl⟩
  have ha7 := HA7.out.2
  rw [hV1] at ha7
  obtain ⟨hic, ⟨hk1, hgc, hdr, ho3, hlr⟩, -, hg1, q6, hrV⟩ := ha7
  have HX : Hid ((∀ j, j ≠ 0 → j ≠ 1 → V1.cell? ⟨G, j, none⟩ = V.cell? ⟨G, j, none⟩) ∧ (∀ d, d < V.heap.size → (Value.slice a i cap0).ownBlock ≠ some d → d ≠ r) ∧ ((Value.slice a i cap0).ownBlock = some r ∨ V.heap.size ≤ r) ∧ G < V1.heap.size ∧ G ≠ M ∧ G ≠ r ∧ G ≠ V.heap.size) := ⟨hgc, hdr, ho3, by have := hg1.hg; have := hg1.hv; omega, by have := hg1.hg; have := hg1.map.2.1; omega, by have := hg1.hg; omega, by have := hg1.hg; have := HGV.out; omega⟩
  clear hgc hdr ho3 hlr
  obtain ⟨V3, pt'⟩ := put_tail HHI.out hg1 HHB.out q6 HGV.out HZM.out hrV
  have pt := pt'.zero
  rw [hV1]
  have HK1 := hide hk1
  have HPT := hide pt
  have a0 := hg1.gm
  have a1 := pt.a1
  have a2 := pt.a2
  clear hV1 HA7 x1 x2 hk1 hg1 q6 hrV pt pt' HFIN HN HOW HZ h63 HVR d1 c0 rq
  go_upto_region 7 with fail
  have b0 := HPT.out.b0
  have b0' := HPT.out.b0'
  have rp := HPT.out.run
  have b1 : (V1.alloc (.cells #[.int .i64 i, .int .i64 0] 116)).cell? ⟨V1.heap.size, 0, none⟩ = some (.int .i64 i) := by simp
  have b2 : (V1.alloc (.cells #[.int .i64 i, .int .i64 0] 116)).cell? ⟨V1.heap.size, 1, none⟩ = some (.int .i64 0) := by simp
  obtain ⟨V2, hV2⟩ : ∃ V2, V1.alloc (.cells #[.int .i64 i, .int .i64 0] 116) = V2 := ⟨_, rfl⟩
  rw [hV2] at b0 b0' b1 b2 rp
  have b1' : V2.drew.cell? ⟨V1.heap.size, 0, none⟩ = some (.int .i64 i) := b1
  have b2' : V2.drew.cell? ⟨V1.heap.size, 1, none⟩ = some (.int .i64 0) := b2
  rw [hV2]
  clear a0 a1 a2 hV2
  go_region
  all_goals
    clear rp b0 b0' b1 b2 b1' b2'
    have d1 := HPT.out.d1
    have d2 := HPT.out.d2
    have d3 := HPT.out.d3
    go_upto_region 9 with fail
    have f0 := HPT.out.f0
    have f1 := HPT.out.f1
    have g0 := HPT.out.g0
    have g1 := HPT.out.g1
    have g2 := HPT.out.g2
    have g3 := HPT.out.g3
    obtain ⟨V4, hV4⟩ : ∃ V4, V3.setCell ⟨r, i * 5 + 3, none⟩ (.int .i64 (1)) = V4 := ⟨_, rfl⟩
    have hfin := HPT.out.fin
    rw [hV4] at f0 f1 g0 g1 g2 g3 hfin
    rw [hV4]
    have HFI := hide hfin
    clear d1 d2 d3 hV4 hfin
    go_wp2_with fail
    refine bodyPost_ret (v := .agg #[.int .i64 i, .int .i64 0]) (by simp [results, Try.results54, go_sem, g0, g1]) rfl ⟨M, r, cap, rfl, HFI.out.1, ?_, fun j j0 j1 => (HFI.out.2.cell (p := ⟨G, j, none⟩) HX.out.2.2.2.1 HX.out.2.2.2.2).trans (HX.out.1 j j0 j1), HZV.out, HX.out.2.2.1⟩
    exact ((HK1.out.mono (fun d hd h => ⟨h.1, h.2.1⟩)).trans (HFI.out.2.mono (fun d _ h => ⟨h.2.2.1, h.2.2.2.1, h.2.2.2.2⟩)) : Kept (fun d => d ≠ G ∧ (Value.slice a i cap0).ownBlock ≠ some d ∧ d ≠ M ∧ d ≠ r ∧ d ≠ V.heap.size) V _).mono (fun d hd h => ⟨h.1, h.2, by have := HZV.out; omega, HX.out.2.1 d hd h.2, by omega⟩)

end Go.Proofs.Ytfgmgbkiebeeoaa.K
