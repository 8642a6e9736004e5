import Derived.Test.YtmccdomgechkkaaFe
namespace Go.Proofs.Ytmccdomgechkkaa
open Go.RowKit Go.Joins

/-- A set of numbers in memory: those in the round 1. -/
structure NS (w : World) (B0 s : Nat) (g : Option Nat) (R : List Nat) : Prop where
  r : OR w B0 s 0 3 (R.map iv) g
  c1 : w.cell? ⟨s, 1, none⟩ = some (.int .i64 1)
  c2 : ∃ z : Int, w.cell? ⟨s, 2, none⟩ = some (.int .i64 z)
  fz : ∀ j, w.frozen? ⟨s, j, none⟩ = false
  ne : g ≠ some s
  lo : B0 ≤ s

def OwnS (s : Nat) (g : Option Nat) (c : Nat) : Prop := c = s ∨ g = some c

theorem NS.kept {w w' : World} {B0 s : Nat} {g : Option Nat} {R : List Nat} {S : Nat → Prop} (h : NS w B0 s g R) (k : Kept S w w') (hS : ∀ c, OwnS s g c → S c) : NS w' B0 s g R := by
  have hb := h.r.lt
  have sb : S s := hS s (.inl rfl)
  have hc : ∀ j, w'.cell? ⟨s, j, none⟩ = w.cell? ⟨s, j, none⟩ := fun j => k.cell (p := ⟨s, j, none⟩) hb sb
  obtain ⟨z, hz⟩ := h.c2
  exact ⟨h.r.keep k (hc 0) (fun c e => hS c (.inr e)), (hc 1).trans h.c1, ⟨z, (hc 2).trans hz⟩, fun j => (k.frozen (p := ⟨s, j, none⟩) hb sb).trans (h.fz j), h.ne, h.lo⟩

theorem below_drewN (n : Nat) (W : World) : ∀ k, Below n W (W.drewN k)
  | 0 => Below.refl _ _
  | k + 1 => (below_drewN n W k).drew

/-- Where a row of our own lies. -/
theorem OR.at_ {w : World} {B0 b j : Nat} {e : TypeId} {xs : List Value} {g : Option Nat} (h : OR w B0 b j e xs g) (hl : 0 < xs.length) : ∃ q c, g = some q ∧ w.cell? ⟨b, j, none⟩ = some (.slice (some ⟨q, 0, none⟩) xs.length c) ∧ (∀ i u, xs[i]? = some u → w.cell? ⟨q, i, none⟩ = some u) ∧ (∀ i, w.frozen? ⟨q, i, none⟩ = false) ∧ xs.length ≤ c ∧ w.ownsRow B0 e 1 (.slice (some ⟨q, 0, none⟩) xs.length c) xs.length xs := by
  obtain ⟨a, c, h1, h2, h3⟩ := h
  rcases h2.2 with ⟨e1, e2⟩ | ⟨q, cap, cur, e1, hb, hg, hc, -⟩
  · omega
  · injection e1 with e1 e2 e3
    subst e1
    subst e3
    refine ⟨q, c, h3.symm, h1, fun i u hu => ?_, fun i => h2.frozenAt i, hc, h2⟩
    have := h2.cells (g := q) rfl i u hu
    rwa [addr_add, Nat.zero_add] at this

set_option maxHeartbeats 2000000 in
set_option maxRecDepth 100000 in
/-- Is a number in the set? -/
theorem i_has {W : World} {B0 s : Nat} {g : Option Nat} {R : List Nat} (h : NS W B0 s g R) (n : Nat) (q : Bool) (hq : q = true ↔ R[n]? = some 1) (hR : R.length ≤ 16777217) :
    Calls Try.prog 15 #[.pointer (some ⟨s, 0, none⟩), .int .i64 n] W fun e W' => e = .returned (.bool q) ∧ Below W.heap.size W W' := by
  obtain ⟨l, hl⟩ : ∃ l, l = R.length := ⟨_, rfl⟩
  by_cases hn : n < R.length
  · obtain ⟨b, c, -, p0, pc, -, -, -⟩ := h.r.at_ (by rw [List.length_map]; omega)
    rw [List.length_map, ← hl] at p0
    obtain ⟨r, hr⟩ : ∃ r, R[n]? = some r := ⟨_, List.getElem?_eq_getElem hn⟩
    have pn : W.cell? ⟨b, n, none⟩ = some (.int .i64 (r : Int)) := pc n _ (by rw [List.getElem?_map, hr]; rfl)
    have p1 := h.c1
    have hnl : (n : Int) < (l : Int) := by omega
    have hnl2 : n < l := by omega
    have HE : Hid (q = decide ((r : Int) = 1)) := by
      rw [hr] at hq
      have e : (some r = some 1) ↔ (r : Int) = 1 := by simp; omega
      rw [e] at hq
      unfold Hid
      cases q with
      | true => exact (decide_eq_true (hq.1 rfl)).symm
      | false => exact (decide_eq_false (fun h => by have := hq.2 h; simp at this)).symm
    clear h hn hr hq pc hR hl
    go_enter Try.func15, Try.ntmps15
    go_upto_region 1 with fail
    go_quiet (fail)
    go_wp2_with fail
    go_ret
    exact ⟨by rw [HE.out]; rfl, below_drewN _ _ _⟩
  · obtain ⟨a, c, p0, -, -⟩ := h.r
    rw [List.length_map, ← hl] at p0
    have hnl : ¬ (n : Int) < (l : Int) := by omega
    have HE : Hid (q = false) := by
      unfold Hid
      cases q with
      | false => rfl
      | true =>
        have := hq.1 rfl
        rw [List.getElem?_eq_none (by omega)] at this
        cases this
    clear h hn hq hR hl
    go_enter Try.func15, Try.ntmps15
    go_upto_region 1 with fail
    go_quiet (fail)
    go_wp2_with fail
    go_ret
    exact ⟨by rw [HE.out]; rfl, below_drewN _ _ _⟩

/-- One number of a row is set. -/
theorem OR.set {w : World} {B0 b j q : Nat} {e : TypeId} {X : List Nat} (h : OR w B0 b j e (X.map iv) (some q)) (hb : b ≠ q) (n v : Nat) (hn : n < X.length) : OR (w.setCell ⟨q, n, none⟩ (iv v)) B0 b j e ((X.set n v).map iv) (some q) := by
  obtain ⟨a, c, h1, h2, h3⟩ := h
  have hs : X = X.take n ++ X[n] :: X.drop (n + 1) := by rw [List.getElem_cons_drop, List.take_append_drop]
  have hs2 : X.set n v = X.take n ++ v :: X.drop (n + 1) := by rw [List.set_eq_take_append_cons_drop, if_pos hn]
  have hl : (X.set n v).length = X.length := List.length_set
  refine ⟨a, c, ?_, ?_, ?_⟩
  · rw [World.cell?_setCell_other _ _ _ _ (by simp)]
    rw [List.length_map, hl]
    rw [List.length_map] at h1
    exact h1
  · rw [List.length_map] at h2 h3
    rw [List.length_map, hl]
    have ha : a = some ⟨q, 0, none⟩ := by
      rcases h2.2 with ⟨e1, e2⟩ | ⟨q2, cap, cur, e1, -⟩
      · omega
      · injection e1 with e1 _ _
        subst e1
        have e5 : q2 = q := Option.some.inj h3
        rw [e5]
    subst ha
    rw [hs] at h2
    simp only [List.map_append, List.map_cons] at h2
    have h5 := ownsRow_set h2 (iv v)
    rw [← hs, List.length_map, List.length_take, Nat.min_eq_left (by omega)] at h5
    rw [hs2, List.map_append, List.map_cons]
    exact h5
  · rw [List.length_map] at h3
    rw [List.length_map, hl]
    exact h3

/-- More things in a row of our own. -/
theorem or_more {w w3 : World} {B0 b j : Nat} {e : TypeId} {xs ys : List Value} {g : Option Nat} {a : Option Addr} {c g7 cap : Nat} (h1 : w.cell? ⟨b, j, none⟩ = some (.slice a xs.length c)) (h3 : (Value.slice a xs.length c).ownBlock = g) (hg : g ≠ some b)
    (hO : w3.ownsRow B0 e 1 (.slice (some ⟨g7, 0, none⟩) ys.length cap) ys.length ys) (hG : w.grownBy w3 (Value.slice a xs.length c).ownBlock) (hat : (Value.slice a xs.length c).ownBlock = some g7 ∨ g7 = w.heap.size) :
    (w3.cell? ⟨b, j, none⟩ = some (.slice a xs.length c) ∧ w3.frozen? ⟨b, j, none⟩ = w.frozen? ⟨b, j, none⟩) ∧ OR (w3.setCell ⟨b, j, none⟩ (.slice (some ⟨g7, 0, none⟩) ys.length cap)) B0 b j e ys (some g7) ∧
      Kept (fun c => c ≠ b ∧ g ≠ some c) w (w3.setCell ⟨b, j, none⟩ (.slice (some ⟨g7, 0, none⟩) ys.length cap)) ∧ (∀ k, k ≠ j → (w3.setCell ⟨b, j, none⟩ (.slice (some ⟨g7, 0, none⟩) ys.length cap)).cell? ⟨b, k, none⟩ = w.cell? ⟨b, k, none⟩) ∧
      (∀ k, (w3.setCell ⟨b, j, none⟩ (.slice (some ⟨g7, 0, none⟩) ys.length cap)).frozen? ⟨b, k, none⟩ = w.frozen? ⟨b, k, none⟩) ∧ (g = some g7 ∨ w.heap.size ≤ g7) := by
  have hl : b < w.heap.size := block_lt_of_cell h1
  rw [h3] at hG hat
  have ka : Kept (fun c => g ≠ some c) w w3 := Kept.grown hG (fun c hc hx => hx hc)
  have hat' : g = some g7 ∨ w.heap.size ≤ g7 := by
    rcases hat with e | e
    · exact .inl e
    · exact .inr (by omega)
  have hne : b ≠ g7 := by
    rcases hat' with e | e
    · exact fun e2 => hg (by rw [e, e2])
    · omega
  have ks : Kept (fun c => c ≠ b) w3 (w3.setCell ⟨b, j, none⟩ (.slice (some ⟨g7, 0, none⟩) ys.length cap)) := Kept.setCell _ _ _ _ (fun hx => hx rfl)
  have hcj : w3.cell? ⟨b, j, none⟩ = some (.slice a xs.length c) := (ka.cell (p := ⟨b, j, none⟩) hl hg).trans h1
  refine ⟨⟨hcj, ka.frozen (p := ⟨b, j, none⟩) hl hg⟩, ⟨some ⟨g7, 0, none⟩, cap, World.cell?_setCell_same _ _ _ hcj, ownsRow_kept hO ks (fun q hq => by have e9 : g7 = q := Option.some.inj hq; rw [← e9]; exact fun e => hne e.symm), rfl⟩, (ka.mono (fun _ _ h => h.2)).trans (ks.mono (fun _ _ h => h.1)), fun k hk => ?_, fun k => ?_, hat'⟩
  · rw [World.cell?_setCell_other _ _ _ _ (by simp)]
    exact ka.cell (p := ⟨b, k, none⟩) hl hg
  · rw [World.frozen?_setCell]
    exact ka.frozen (p := ⟨b, k, none⟩) hl hg

/-- What a set becomes with one number more. -/
structure AdS (W W' : World) (B0 s : Nat) (g : Option Nat) (R : List Nat) (n : Nat) (g' : Option Nat) (R' : List Nat) : Prop where
  ns : NS W' B0 s g' R'
  mem : ∀ k : Nat, R'[k]? = some 1 ↔ (R[k]? = some 1 ∨ k = n)
  len : R'.length ≤ R.length ∨ R'.length = n + 1
  kept : Kept (fun c => ¬ OwnS s g c) W W'
  new : ∀ c, OwnS s g' c → OwnS s g c ∨ W.heap.size ≤ c

/-- The last two stores. -/
theorem AdS.done {W W3 W4 : World} {B0 s n q3 : Nat} {g g3 : Option Nat} {R R3 : List Nat} (h : NS W3 B0 s g3 R3) (e3 : g3 = some q3) (hq : s ≠ q3) (hn : n < R3.length) (hm : ∀ k : Nat, R3[k]? = some 1 ↔ R[k]? = some 1) (k3 : Kept (fun c => ¬ OwnS s g c) W W3) (n3 : ∀ c, OwnS s g3 c → OwnS s g c ∨ W.heap.size ≤ c) (hl : R3.length ≤ R.length ∨ R3.length = n + 1) (hW : (W3.setCell ⟨q3, n, none⟩ (.int .i64 1)).drew = W4) (z : Int) :
    AdS W (W4.setCell ⟨s, 2, none⟩ (.int .i64 z)) B0 s g R n (some q3) (R3.set n 1) := by
  subst e3
  have hsl := h.r.lt
  have k4 : Kept (fun c => c ≠ q3) W3 W4 := by rw [← hW]; exact (Kept.setCell _ _ _ _ (fun hx => hx rfl)).trans (Kept.drew _ _)
  have o4 : OR W4 B0 s 0 3 ((R3.set n 1).map iv) (some q3) := by
    rw [← hW]
    exact (h.r.set hq n 1 hn).keep (Kept.drew (fun _ => True) _) rfl (fun _ _ => trivial)
  have ks : Kept (fun c => c ≠ s) W4 (W4.setCell ⟨s, 2, none⟩ (.int .i64 z)) := Kept.setCell _ _ _ _ (fun hx => hx rfl)
  have c4 : ∀ j, W4.cell? ⟨s, j, none⟩ = W3.cell? ⟨s, j, none⟩ := fun j => k4.cell (p := ⟨s, j, none⟩) hsl hq
  have hso : ∀ j, j ≠ 2 → (W4.setCell ⟨s, 2, none⟩ (.int .i64 z)).cell? ⟨s, j, none⟩ = W4.cell? ⟨s, j, none⟩ := fun j hj => World.cell?_setCell_other _ _ _ _ (by simp)
  obtain ⟨z0, hz0⟩ := h.c2
  refine ⟨⟨o4.keep ks (hso 0 (by decide)) (fun c e e2 => hq (by rw [← e2]; exact (Option.some.inj e).symm)), ((hso 1 (by decide)).trans (c4 1)).trans h.c1, ⟨z, World.cell?_setCell_same _ _ _ ((c4 2).trans hz0)⟩, fun j => ?_, fun e => hq (Option.some.inj e).symm, h.lo⟩, fun k => ?_, by rw [List.length_set]; exact hl, ?_, n3⟩
  · rw [World.frozen?_setCell]
    exact (k4.frozen (p := ⟨s, j, none⟩) hsl hq).trans (h.fz j)
  · rw [List.getElem?_set]
    by_cases e : n = k
    · subst e
      simp [hn]
    · rw [if_neg e, hm k]
      exact ⟨fun h => .inl h, fun h => h.resolve_right (fun e2 => e e2.symm)⟩
  · refine ⟨(k4.1.trans k3.1), (k4.2.trans k3.2), (k4.3.trans k3.3), ?_, fun c hc hn2 => ?_⟩
    · have := k3.size
      have := k4.size
      have := ks.size
      omega
    · have hs3 := k3.size
      have hs4 := k4.size
      have hcs : c ≠ s := fun e => hn2 (.inl e)
      have hcq : c ≠ q3 := fun e => by
        rcases n3 c (.inr (by rw [e])) with h | h
        · exact hn2 h
        · omega
      rw [ks.block c (by omega) hcs, k4.block c (by omega) hcq]
      exact k3.block c hc hn2

set_option maxHeartbeats 4000000 in
set_option maxRecDepth 100000 in
theorem add_old {W : World} {B0 s : Nat} {g : Option Nat} {R : List Nat} (h : NS W B0 s g R) (n : Nat) (hn : R[n]? = some 1) (hR : R.length ≤ 16777217) :
    Calls Try.prog 12 #[.pointer (some ⟨s, 0, none⟩), .int .i64 n] W fun e W' => (∃ v, e = .returned v) ∧ ∃ g' R', AdS W W' B0 s g R n g' R' := by
  have HC := hide (i_has h n true (by simp [hn]) hR)
  have HH := hide h
  clear h
  go_enter Try.func12, Try.ntmps12
  go_wp2_with (go_at_call 15; refine HC.out.mono ?_; rintro e W1 ⟨rfl, b1⟩)
  refine bodyPost_ret (results_none rfl _ _ _) rfl ?_
  refine ⟨⟨_, rfl⟩, g, R, HH.out.kept (kt (S := fun _ => True) b1) (fun _ _ => trivial), fun k => ⟨fun h => .inl h, fun h => h.elim id (fun e => by rw [e]; exact hn)⟩, .inl (Nat.le_refl _), kt b1, fun c h => .inl h⟩

set_option maxHeartbeats 4000000 in
set_option maxRecDepth 100000 in
theorem add_new {W : World} {B0 s : Nat} {g : Option Nat} {R : List Nat} (h : NS W B0 s g R) (n : Nat) (hn : ¬ R[n]? = some 1) (hR : R.length ≤ 16777217) (hn2 : n ≤ 16777216) (hB : B0 ≤ W.heap.size) :
    Calls Try.prog 12 #[.pointer (some ⟨s, 0, none⟩), .int .i64 n] W fun e W' => (∃ v, e = .returned v) ∧ ∃ g' R', AdS W W' B0 s g R n g' R' := by
  have HC := hide (i_has h n false (by simp [hn]) hR)
  obtain ⟨l, hl⟩ : ∃ l, l = R.length := ⟨_, rfl⟩
  have HH := hide h
  have HB := hide hB
  have HR := hide hR
  have hln : l ≤ 16777217 := by omega
  have HL := hide hl
  clear h hn hR hB hl
  go_enter Try.func12, Try.ntmps12
  go_upto_region 1 with (go_at_call 15; refine HC.out.mono ?_; rintro e W1 ⟨rfl, b1⟩)
  have H1 := hide (HH.out.kept (kt (S := fun _ => True) b1) (fun _ _ => trivial))
  have B1 := hide b1
  clear b1
  obtain ⟨a, c, p0, po, pg⟩ := H1.out.r
  rw [List.length_map, ← HL.out] at p0 po pg
  by_cases hm : l < n + 1
  · obtain ⟨m, hm2⟩ : ∃ m : Nat, m = n + 1 - l := ⟨_, rfl⟩
    have hw : (n : Int) + 1 - (l : Int) = (m : Int) := by omega
    have hm3 : (0 : Int) < (m : Int) := by omega
    have hm4 : 0 < m := by omega
    have ys : (R.map iv ++ List.replicate m (Value.int .i64 0)).length = l + m := by rw [List.length_append, List.length_map, List.length_replicate, ← HL.out]
    have F2 : Hid (∀ g7 cap w3, w3.ownsRow B0 3 1 (.slice (some ⟨g7, 0, none⟩) (l + m) cap) (l + m) (R.map iv ++ List.replicate m (.int .i64 0)) → W1.grownBy w3 (Value.slice a l c).ownBlock → ((Value.slice a l c).ownBlock = some g7 ∨ g7 = W1.heap.size) →
        (w3.cell? ⟨s, 0, none⟩ = some (.slice a l c) ∧ w3.frozen? ⟨s, 0, none⟩ = W1.frozen? ⟨s, 0, none⟩) ∧ OR (w3.setCell ⟨s, 0, none⟩ (.slice (some ⟨g7, 0, none⟩) (l + m) cap)) B0 s 0 3 (R.map iv ++ List.replicate m (.int .i64 0)) (some g7) ∧
      Kept (fun c => c ≠ s ∧ g ≠ some c) W1 (w3.setCell ⟨s, 0, none⟩ (.slice (some ⟨g7, 0, none⟩) (l + m) cap)) ∧ (∀ k, k ≠ 0 → (w3.setCell ⟨s, 0, none⟩ (.slice (some ⟨g7, 0, none⟩) (l + m) cap)).cell? ⟨s, k, none⟩ = W1.cell? ⟨s, k, none⟩) ∧
      (∀ k, (w3.setCell ⟨s, 0, none⟩ (.slice (some ⟨g7, 0, none⟩) (l + m) cap)).frozen? ⟨s, k, none⟩ = W1.frozen? ⟨s, k, none⟩) ∧ (g = some g7 ∨ W1.heap.size ≤ g7)) := fun g7 cap w3 hO hG hat => by
      have e1 : (R.map iv).length = l := by rw [List.length_map, ← HL.out]
      have := or_more (xs := R.map iv) (a := a) (c := c) (g := g) (e := 3) (B0 := B0) (ys := R.map iv ++ List.replicate m (.int .i64 0)) (cap := cap) (g7 := g7) (w := W1) (w3 := w3) (b := s) (j := 0) (by rw [e1]; exact p0) (by rw [e1]; exact pg) H1.out.ne (by rw [ys]; exact hO) (by rw [e1]; exact hG) (by rw [e1]; exact hat)
      rw [ys, e1] at this
      exact this
    have PO := hide po
    have y0 := H1.out.fz 0
    have h63 : Hid (l + m ≤ maxLen ∧ (l + m) * 8 ≤ 140737488355328) := by unfold Hid maxLen; omega
    have BB : Hid (B0 ≤ W1.heap.size) := Nat.le_trans HB.out B1.out.size
    have YS := hide ys
    have PG := hide pg
    have HM2 := hide hm2
    clear po ys pg hm2
    go_upto_region 4 with (at_builtin; refine zs_step rfl _ _ 31 3 3 rfl Try.info3 Try.underlying31 Try.underlying3 rfl rfl B0 W1 (.slice a l c) l m (R.map iv) rfl rfl hm4 BB.out PO.out h63.out.1 h63.out.2 ?_; intro q2 k2 v2 hO hG hat; have A2 := hide (F2.out q2 k2 v2 hO hG hat); have x2 := A2.out.1.1; have u2 := A2.out.1.2.trans y0; clear hO hG hat)
    obtain ⟨W3, hW3⟩ : ∃ V, v2.setCell ⟨s, 0, none⟩ (.slice (some ⟨q2, 0, none⟩) (l + m) k2) = V := ⟨_, rfl⟩
    have A3 := hide A2.out.2
    rw [hW3] at A3 ⊢
    obtain ⟨R3, hR3⟩ : ∃ R3, R3 = R ++ List.replicate m 0 := ⟨_, rfl⟩
    have e1 : R3.map iv = R.map iv ++ List.replicate m (.int .i64 0) := by
      rw [hR3, List.map_append, List.map_replicate]
      rfl
    have H3 : Hid (NS W3 B0 s (some q2) R3) := by
      obtain ⟨a1, a2, a3, a4, a5⟩ := A3.out
      obtain ⟨z, hz⟩ := H1.out.c2
      refine ⟨by rw [e1]; exact a1, (a3 1 (by decide)).trans H1.out.c1, ⟨z, (a3 2 (by decide)).trans hz⟩, fun j => (a4 j).trans (H1.out.fz j), ?_, H1.out.lo⟩
      rcases a5 with e | e
      · rw [← e]
        exact H1.out.ne
      · have := H1.out.r.lt
        exact fun e2 => by have := Option.some.inj e2; omega
    have L3 : Hid (n < R3.length ∧ R3.length = n + 1) := by
      have h1 := HM2.out
      have h2 := HL.out
      unfold Hid
      rw [hR3, List.length_append, List.length_replicate]
      omega
    have M3 : Hid (∀ k : Nat, R3[k]? = some 1 ↔ R[k]? = some 1) := fun k => by
      rw [hR3, List.getElem?_append]
      split
      · exact Iff.rfl
      · rename_i hk
        rw [List.getElem?_eq_none (l := R) (by omega), List.getElem?_replicate]
        split <;> simp
    have K3 : Hid (Kept (fun c => ¬ OwnS s g c) W W3) := (kt B1.out).trans (A3.out.2.1.mono (fun c _ hc => ⟨fun e => hc (.inl e), fun e => hc (.inr e)⟩))
    have N3 : Hid (∀ c, OwnS s (some q2) c → OwnS s g c ∨ W.heap.size ≤ c) := fun c hc => by
      rcases hc with e | e
      · exact .inl (.inl e)
      · have e2 : q2 = c := Option.some.inj e
        rcases A3.out.2.2.2.2 with e3 | e3
        · exact .inl (.inr (by rw [← e2]; exact e3))
        · exact .inr (by have := B1.out.size; omega)
    have LE3 : Hid (R3.length ≤ R.length ∨ R3.length = n + 1) := .inr L3.out.2
    clear p0 hm hw hm3 hm4 y0 x2 u2 hW3 hR3 e1
    replace L3 : Hid (n < R3.length) := L3.out.1
    clear HM2 A2 A3 YS PG PO F2 h63
    obtain ⟨q3, c3, e3, p0, pc, pf, -, -⟩ := H3.out.r.at_ (by rw [List.length_map]; have := L3.out; omega)
    obtain ⟨l3, hl3⟩ : ∃ l3, l3 = R3.length := ⟨_, rfl⟩
    rw [List.length_map, ← hl3] at p0
    have p1 := H3.out.c1
    obtain ⟨r3, hr3⟩ : ∃ r, R3[n]? = some r := ⟨_, List.getElem?_eq_getElem L3.out⟩
    have pn : W3.cell? ⟨q3, n, none⟩ = some (.int .i64 (r3 : Int)) := pc n _ (by rw [List.getElem?_map, hr3]; rfl)
    have fn := pf n
    have hnl : (n : Int) < (l3 : Int) := by have := L3.out; omega
    have hnl2 : n < l3 := by have := L3.out; omega
    obtain ⟨z, hz⟩ := H3.out.c2
    have fz2 := H3.out.fz 2
    have hqs : Hid (s ≠ q3) := fun e => H3.out.ne (by rw [e3, e])
    obtain ⟨W4, hW4⟩ : ∃ V, (W3.setCell ⟨q3, n, none⟩ (.int .i64 1)).drew = V := ⟨_, rfl⟩
    have k4 : Kept (fun c => c ≠ q3) W3 W4 := by rw [← hW4]; exact (Kept.setCell _ _ _ _ (fun hx => hx rfl)).trans (Kept.drew _ _)
    have hsl := H3.out.r.lt
    have z4 : W4.cell? ⟨s, 2, none⟩ = some (.int .i64 z) := (k4.cell (p := ⟨s, 2, none⟩) hsl hqs.out).trans hz
    have y4 : W4.frozen? ⟨s, 2, none⟩ = false := (k4.frozen (p := ⟨s, 2, none⟩) hsl hqs.out).trans fz2
    have HW4 := hide hW4
    have K4 := hide k4
    have E3 := hide e3
    have HL3 := hide hl3
    have HSL := hide hsl
    clear pc pf hz fz2 hr3 k4 hsl hW4 e3 hl3
    go_region
    all_goals
      rw [HW4.out]
      go_wp2_with fail
      go_end0
      exact ⟨⟨_, rfl⟩, some q3, R3.set n 1, AdS.done H3.out E3.out hqs.out L3.out M3.out K3.out N3.out LE3.out HW4.out _⟩
  · obtain ⟨W3, hW3⟩ : ∃ V, V = W1 := ⟨_, rfl⟩
    have hw : ¬ (0 : Int) < (n : Int) + 1 - (l : Int) := by omega
    clear po pg
    go_upto_region 4 with fail
    obtain ⟨R3, hR3⟩ : ∃ R3, R3 = R := ⟨_, rfl⟩
    have H3 : Hid (NS W3 B0 s g R3) := by rw [hW3, hR3]; exact H1.out
    have L3 : Hid (n < R3.length) := by
      have h2 := HL.out
      unfold Hid
      rw [hR3]
      omega
    have M3 : Hid (∀ k : Nat, R3[k]? = some 1 ↔ R[k]? = some 1) := fun k => by rw [hR3]
    have K3 : Hid (Kept (fun c => ¬ OwnS s g c) W W3) := by rw [hW3]; exact kt B1.out
    have N3 : Hid (∀ c, OwnS s g c → OwnS s g c ∨ W.heap.size ≤ c) := fun c hc => .inl hc
    have LE3 : Hid (R3.length ≤ R.length ∨ R3.length = n + 1) := by rw [hR3]; exact .inl (Nat.le_refl _)
    rw [← hW3]
    clear p0 hm hw hR3 hW3
    obtain ⟨q3, c3, e3, p0, pc, pf, -, -⟩ := H3.out.r.at_ (by rw [List.length_map]; have := L3.out; omega)
    obtain ⟨l3, hl3⟩ : ∃ l3, l3 = R3.length := ⟨_, rfl⟩
    rw [List.length_map, ← hl3] at p0
    have p1 := H3.out.c1
    obtain ⟨r3, hr3⟩ : ∃ r, R3[n]? = some r := ⟨_, List.getElem?_eq_getElem L3.out⟩
    have pn : W3.cell? ⟨q3, n, none⟩ = some (.int .i64 (r3 : Int)) := pc n _ (by rw [List.getElem?_map, hr3]; rfl)
    have fn := pf n
    have hnl : (n : Int) < (l3 : Int) := by have := L3.out; omega
    have hnl2 : n < l3 := by have := L3.out; omega
    obtain ⟨z, hz⟩ := H3.out.c2
    have fz2 := H3.out.fz 2
    have hqs : Hid (s ≠ q3) := fun e => H3.out.ne (by rw [e3, e])
    obtain ⟨W4, hW4⟩ : ∃ V, (W3.setCell ⟨q3, n, none⟩ (.int .i64 1)).drew = V := ⟨_, rfl⟩
    have k4 : Kept (fun c => c ≠ q3) W3 W4 := by rw [← hW4]; exact (Kept.setCell _ _ _ _ (fun hx => hx rfl)).trans (Kept.drew _ _)
    have hsl := H3.out.r.lt
    have z4 : W4.cell? ⟨s, 2, none⟩ = some (.int .i64 z) := (k4.cell (p := ⟨s, 2, none⟩) hsl hqs.out).trans hz
    have y4 : W4.frozen? ⟨s, 2, none⟩ = false := (k4.frozen (p := ⟨s, 2, none⟩) hsl hqs.out).trans fz2
    have HW4 := hide hW4
    have K4 := hide k4
    have E3 := hide e3
    have HL3 := hide hl3
    have HSL := hide hsl
    clear pc pf hz fz2 hr3 k4 hsl hW4 e3 hl3
    go_region
    all_goals
      rw [HW4.out]
      go_wp2_with fail
      go_end0
      exact ⟨⟨_, rfl⟩, some q3, R3.set n 1, AdS.done H3.out E3.out hqs.out L3.out M3.out K3.out N3.out LE3.out HW4.out _⟩

end Go.Proofs.Ytmccdomgechkkaa
