import Derived.Test.YtmnligaelihmiaaUt
namespace Go.Proofs.Ytmnligaelihmiaa
open Go.RowKit Go.Joins

theorem Kept.al {S : Nat → Prop} {A B : World} {o : Obj} (h : Kept S A B) : Kept S A (B.alloc o) := h.trans (Kept.alloc S B o)
theorem Kept.dr {S : Nat → Prop} {A B : World} (h : Kept S A B) : Kept S A B.drew := h.trans (Kept.drew S B)
theorem heap_new_dr (W : World) (o : Obj) : (W.alloc o).drew.heap[W.heap.size]? = some o := (MapKept.heap_alloc W o).1

/-- What is in memory of our own: rows that may grow, and what is done. -/
inductive Item where
  | row (e : TypeId) (sz : Nat) (v : Value) (n : Nat) (F : Fo)
  | fo (F : Fo)

def ob (v : Value) : List Nat := v.ownBlock.toList

def Item.bl : Item → List Nat
  | .row _ _ v _ F => ob v ++ F.inn
  | .fo F => F.inn

def Item.ok (V : World) : Item → Prop
  | .row e sz v n F => V.ownsRow 0 e sz v n F.vals ∧ F.Subs V (fun c => c < V.heap.size) ∧ Live V F.inn
  | .fo F => F.Subs V (fun c => c < V.heap.size) ∧ Live V F.inn

def bls (L : List Item) : List Nat := L.flatMap Item.bl

theorem bls_cons (i : Item) (L : List Item) : bls (i :: L) = i.bl ++ bls L := rfl

theorem mem_ob {v : Value} {c : Nat} : c ∈ ob v ↔ v.ownBlock = some c := by
  unfold ob
  rw [Option.mem_toList]

theorem ownBlock_lt {W : World} {B : Nat} {e : TypeId} {size n : Nat} {v : Value} {xs : List Value} (h : W.ownsRow B e size v n xs) {c : Nat} (hc : v.ownBlock = some c) : c < W.heap.size := by
  rcases h.2 with ⟨rfl, -⟩ | ⟨b, cap, cur, rfl, hb, hg, -⟩
  · simp [Value.ownBlock] at hc
  · have e : b = c := Option.some.inj hc
    subst e
    exact (Array.getElem?_eq_some_iff.1 hg).1

theorem Item.ok.lt {V : World} {i : Item} (h : i.ok V) {c : Nat} (hc : c ∈ i.bl) : c < V.heap.size := by
  cases i with
  | row e sz v n F =>
    rcases List.mem_append.1 hc with hc | hc
    · exact ownBlock_lt h.1 (mem_ob.1 hc)
    · exact h.2.1.inn_of c hc
  | fo F => exact h.1.inn_of c hc

theorem subs_kept {A B : World} {S : Nat → Prop} {F : Fo} (h : F.Subs A (fun c => c < A.heap.size)) (k : Kept S A B) (hS : ∀ c ∈ F.inn, S c) : F.Subs B (fun c => c < B.heap.size) := by
  have hi := h.inn_of
  have hz := k.size
  exact (h.own.kept k (fun c hc => ⟨hS c hc, hi c hc⟩)).mono (fun c hc => Nat.lt_of_lt_of_le (hi c hc) hz)

theorem Item.ok.kept {A B : World} {S : Nat → Prop} {i : Item} (h : i.ok A) (k : Kept S A B) (hS : ∀ c ∈ i.bl, S c) : i.ok B := by
  cases i with
  | row e sz v n F =>
    have h1 : ∀ c ∈ F.inn, S c := fun c hc => hS c (List.mem_append.2 (.inr hc))
    exact ⟨ownsRow_kept h.1 k (fun c hc => hS c (List.mem_append.2 (.inl (mem_ob.2 hc)))), subs_kept h.2.1 k h1, h.2.2.kept k (fun c hc => ⟨h1 c hc, h.2.1.inn_of c hc⟩)⟩
  | fo F => exact ⟨subs_kept h.1 k hS, h.2.kept k (fun c hc => ⟨hS c hc, h.1.inn_of c hc⟩)⟩

structure Hp (P : Nat → Prop) (L : List Item) (V : World) : Prop where
  ok : ∀ i ∈ L, i.ok V
  nd : (bls L).Nodup
  fr : ∀ c ∈ bls L, ¬ P c

theorem Hp.lt {P : Nat → Prop} {L : List Item} {V : World} (h : Hp P L V) {c : Nat} (hc : c ∈ bls L) : c < V.heap.size := by
  obtain ⟨i, hi, hc⟩ := List.mem_flatMap.1 hc
  exact (h.ok i hi).lt hc

theorem Hp.kept {P S : Nat → Prop} {L : List Item} {A B : World} (h : Hp P L A) (k : Kept S A B) (hS : ∀ c ∈ bls L, S c) : Hp P L B :=
  ⟨fun i hi => (h.ok i hi).kept k (fun c hc => hS c (List.mem_flatMap.2 ⟨i, hi, hc⟩)), h.nd, h.fr⟩

theorem Hp.keep {P : Nat → Prop} {L : List Item} {A B : World} (h : Hp P L A) (k : Kept (fun _ => True) A B) : Hp P L B := h.kept k (fun _ _ => trivial)
theorem Hp.below {P : Nat → Prop} {L : List Item} {A B : World} (h : Hp P L A) (k : Below A.heap.size A B) : Hp P L B := h.keep (kt k)

/-- A cell that is none of ours is set. -/
theorem Hp.put {P : Nat → Prop} {L : List Item} {A : World} (h : Hp P L A) (p : Addr) (v : Value) (hp : P p.block) : Hp P L (A.setCell p v) :=
  h.kept (Kept.setCell (fun c => ¬ c = p.block) _ _ _ (by simp)) (fun c hc e => h.fr c hc (by rw [e]; exact hp))

theorem Hp.mono {P Q : Nat → Prop} {L : List Item} {A : World} (h : Hp P L A) (hQ : ∀ c ∈ bls L, ¬ P c → ¬ Q c) : Hp Q L A := ⟨h.ok, h.nd, fun c hc => hQ c hc (h.fr c hc)⟩

/-- What is new is none of ours. -/
theorem Hp.more {P : Nat → Prop} {L : List Item} {A : World} (h : Hp P L A) {b : Nat} (hb : A.heap.size ≤ b) : Hp (fun c => P c ∨ c = b) L A :=
  h.mono (fun c hc hP hQ => by have := h.lt hc; rcases hQ with hQ | hQ; exact hP hQ; omega)

theorem bls_perm {L M : List Item} (hp : L.Perm M) : (bls L).Perm (bls M) := hp.flatMap_right _

theorem Hp.perm {P : Nat → Prop} {L M : List Item} {A : World} (h : Hp P L A) (hp : L.Perm M) : Hp P M A :=
  ⟨fun i hi => h.ok i (hp.mem_iff.2 hi), (bls_perm hp).nodup_iff.1 h.nd, fun c hc => h.fr c ((bls_perm hp).mem_iff.2 hc)⟩

theorem Hp.tail {P : Nat → Prop} {i : Item} {L : List Item} {A : World} (h : Hp P (i :: L) A) : Hp P L A :=
  ⟨fun j hj => h.ok j (List.mem_cons_of_mem _ hj), (List.nodup_append.1 h.nd).2.1, fun c hc => h.fr c (List.mem_append.2 (.inr hc))⟩

theorem Hp.sing {P : Nat → Prop} {i : Item} {L : List Item} {A : World} (h : Hp P (i :: L) A) : Hp P [i] A :=
  ⟨fun j hj => h.ok j (by rcases List.mem_cons.1 hj with rfl | hj; exact List.mem_cons_self; exact absurd hj List.not_mem_nil), by rw [bls_cons]; simpa [bls] using (List.nodup_append.1 h.nd).1, fun c hc => h.fr c (by rw [bls_cons] at hc ⊢; rcases List.mem_append.1 hc with hc | hc; exact List.mem_append.2 (.inl hc); simp [bls] at hc)⟩

theorem bls_sub {L M : List Item} (hs : L.Sublist M) : (bls L).Sublist (bls M) := by
  induction hs with
  | slnil => exact List.Sublist.refl _
  | cons a _ ih => exact ih.trans (List.sublist_append_right _ _)
  | cons_cons a _ ih => exact (List.Sublist.refl _).append ih

theorem Hp.sub {P : Nat → Prop} {L M : List Item} {A : World} (h : Hp P L A) (hs : M.Sublist L) : Hp P M A :=
  ⟨fun i hi => h.ok i (hs.subset hi), (bls_sub hs).nodup h.nd, fun c hc => h.fr c ((bls_sub hs).subset hc)⟩

theorem rot3 {α : Type} (a b c : α) : [a, b, c].Perm [c, a, b] := List.perm_append_comm (l₁ := [a, b]) (l₂ := [c])
theorem rot4 {α : Type} (a b c d : α) : [a, b, c, d].Perm [d, a, b, c] := List.perm_append_comm (l₁ := [a, b, c]) (l₂ := [d])
theorem first3 {α : Type} (a b c d : α) : [a, b, c].Sublist [a, b, c, d] := .cons_cons _ (.cons_cons _ (.cons_cons _ (.cons _ .slnil)))

theorem Hp.nil (P : Nat → Prop) (A : World) : Hp P [] A := ⟨fun i hi => absurd hi List.not_mem_nil, List.nodup_nil, fun c hc => by simp [bls] at hc⟩

/-- An empty row. -/
theorem Hp.empty {P : Nat → Prop} {L : List Item} {A : World} (h : Hp P L A) (e : TypeId) (sz : Nat) : Hp P (.row e sz (.slice none 0 0) 0 .nil :: L) A :=
  ⟨fun i hi => by
    rcases List.mem_cons.1 hi with rfl | hi
    · exact ⟨⟨by simp [Fo.vals], .inl ⟨rfl, rfl⟩⟩, trivial, fun c hc => by simp [Fo.inn] at hc⟩
    · exact h.ok i hi, by rw [bls_cons]; simpa [Item.bl, ob, Value.ownBlock, Fo.inn] using h.nd, fun c hc => h.fr c (by rw [bls_cons] at hc; simpa [Item.bl, ob, Value.ownBlock, Fo.inn] using hc)⟩

/-- Plain cells. -/
theorem Hp.plain {P : Nat → Prop} {L : List Item} {A : World} (h : Hp P L A) (X : Fo) (h1 : ∀ W S, X.Subs W S) (h2 : X.inn = []) : Hp P (.fo X :: L) A :=
  ⟨fun i hi => by
    rcases List.mem_cons.1 hi with rfl | hi
    · exact ⟨h1 _ _, by rw [h2]; exact fun c hc => absurd hc List.not_mem_nil⟩
    · exact h.ok i hi, by rw [bls_cons]; simpa [Item.bl, h2] using h.nd, fun c hc => h.fr c (by rw [bls_cons] at hc; simpa [Item.bl, h2] using hc)⟩

theorem Hp.v {P : Nat → Prop} {L : List Item} {A : World} {X : Fo} (x : Value) (h : Hp P (.fo X :: L) A) : Hp P (.fo (.v x X) :: L) A :=
  ⟨fun i hi => by
    rcases List.mem_cons.1 hi with rfl | hi
    · exact h.ok (.fo X) List.mem_cons_self
    · exact h.ok i (List.mem_cons_of_mem _ hi), h.nd, h.fr⟩

theorem Hp.app {P : Nat → Prop} {L : List Item} {A : World} {X Y : Fo} (h : Hp P (.fo X :: .fo Y :: L) A) : Hp P (.fo (X.app Y) :: L) A := by
  have hx := h.ok _ List.mem_cons_self
  have hy := h.ok _ (List.mem_cons_of_mem _ List.mem_cons_self)
  have e : bls (.fo (X.app Y) :: L) = bls (.fo X :: .fo Y :: L) := by simp only [bls_cons, Item.bl, Fo.inn_app, List.append_assoc]
  refine ⟨fun i hi => ?_, by rw [e]; exact h.nd, fun c hc => h.fr c (by rw [e] at hc; exact hc)⟩
  rcases List.mem_cons.1 hi with rfl | hi
  · exact ⟨hx.1.app hy.1, by rw [Fo.inn_app]; exact hx.2.app hy.2⟩
  · exact h.ok i (List.mem_cons_of_mem _ (List.mem_cons_of_mem _ hi))

theorem Hp.split {P : Nat → Prop} {L : List Item} {A : World} {X Y : Fo} (h : Hp P (.fo (X.app Y) :: L) A) : Hp P (.fo X :: .fo Y :: L) A := by
  have hx := h.ok _ List.mem_cons_self
  have e : bls (.fo (X.app Y) :: L) = bls (.fo X :: .fo Y :: L) := by simp only [bls_cons, Item.bl, Fo.inn_app, List.append_assoc]
  refine ⟨fun i hi => ?_, by rw [← e]; exact h.nd, fun c hc => h.fr c (by rw [e]; exact hc)⟩
  rcases List.mem_cons.1 hi with rfl | hi
  · exact ⟨hx.1.left, hx.2.sub (fun c hc => by rw [Fo.inn_app]; exact List.mem_append.2 (.inl hc))⟩
  · rcases List.mem_cons.1 hi with rfl | hi
    · exact ⟨hx.1.right, hx.2.sub (fun c hc => by rw [Fo.inn_app]; exact List.mem_append.2 (.inr hc))⟩
    · exact h.ok i (List.mem_cons_of_mem _ hi)

/-- A row grows by what is done. -/
theorem Hp.grow {P : Nat → Prop} {L : List Item} {A B : World} {e : TypeId} {sz n m : Nat} {v v' : Value} {F X : Fo} (h : Hp P (.row e sz v n F :: .fo X :: L) A) (hP : ∀ c, P c → c < A.heap.size) (hG : A.grownBy B v.ownBlock) (hO : B.ownsRow 0 e sz v' m (F.vals ++ X.vals)) (hat : v'.ownBlock = v.ownBlock ∨ v'.ownBlock = some A.heap.size) :
    Hp P (.row e sz v' m (F.app X) :: L) B ∧ Kept (fun c => v.ownBlock ≠ some c) A B := by
  have k : Kept (fun c => v.ownBlock ≠ some c) A B := Kept.grown hG (fun c e1 e2 => e2 e1)
  have hr := h.ok _ List.mem_cons_self
  have hx := h.ok _ (List.mem_cons_of_mem _ List.mem_cons_self)
  have hnd := h.nd
  simp only [bls_cons, Item.bl, List.append_assoc] at hnd
  obtain ⟨n1, n2, n3⟩ := List.nodup_append.1 hnd
  have hne : ∀ c, c ∈ F.inn ++ (X.inn ++ bls L) → v.ownBlock ≠ some c := fun c hc e => n3 c (mem_ob.2 e) c hc rfl
  have hF : ∀ c ∈ F.inn, v.ownBlock ≠ some c := fun c hc => hne c (List.mem_append.2 (.inl hc))
  have hX : ∀ c ∈ X.inn, v.ownBlock ≠ some c := fun c hc => hne c (List.mem_append.2 (.inr (List.mem_append.2 (.inl hc))))
  refine ⟨⟨fun i hi => ?_, ?_, ?_⟩, k⟩
  · rcases List.mem_cons.1 hi with rfl | hi
    · refine ⟨by rw [Fo.app_vals]; exact hO, (subs_kept hr.2.1 k hF).app (subs_kept hx.1 k hX), ?_⟩
      rw [Fo.inn_app]
      exact (hr.2.2.kept k (fun c hc => ⟨hF c hc, hr.2.1.inn_of c hc⟩)).app (hx.2.kept k (fun c hc => ⟨hX c hc, hx.1.inn_of c hc⟩))
    · exact (h.ok i (List.mem_cons_of_mem _ (List.mem_cons_of_mem _ hi))).kept k (fun c hc => hne c (List.mem_append.2 (.inr (List.mem_append.2 (.inr (List.mem_flatMap.2 ⟨i, hi, hc⟩))))))
  · simp only [bls_cons, Item.bl, Fo.inn_app, List.append_assoc]
    rcases hat with e1 | e1
    · unfold ob; rw [e1]; exact hnd
    · have e2 : ob v' = [A.heap.size] := by unfold ob; rw [e1]; rfl
      rw [e2, List.singleton_append, List.nodup_cons]
      refine ⟨fun hc => ?_, n2⟩
      have := h.lt (c := A.heap.size) (by simp only [bls_cons, Item.bl, List.append_assoc]; exact List.mem_append.2 (.inr hc))
      omega
  · intro c hc
    simp only [bls_cons, Item.bl, Fo.inn_app, List.append_assoc] at hc
    rcases List.mem_append.1 hc with hc | hc
    · have hc := mem_ob.1 hc
      rcases hat with e1 | e1
      · exact h.fr c (by simp only [bls_cons, Item.bl, List.append_assoc]; exact List.mem_append.2 (.inl (mem_ob.2 (by rw [← e1]; exact hc))))
      · rw [e1] at hc
        intro hp
        have := hP c hp
        have : A.heap.size = c := Option.some.inj hc
        omega
    · exact h.fr c (by simp only [bls_cons, Item.bl, List.append_assoc]; exact List.mem_append.2 (.inr hc))

theorem Hp.subl {P : Nat → Prop} {L : List Item} {A : World} {i j : Item} (h : Hp P (i :: L) A) (hj : j.ok A) (hs : j.bl.Sublist i.bl) : Hp P (j :: L) A := by
  have hs' : (bls (j :: L)).Sublist (bls (i :: L)) := hs.append (List.Sublist.refl _)
  exact ⟨fun q hq => by rcases List.mem_cons.1 hq with rfl | hq; exact hj; exact h.ok q (List.mem_cons_of_mem _ hq), hs'.nodup h.nd, fun c hc => h.fr c (hs'.subset hc)⟩

theorem blk_obs (a : Option Addr) (n cap k : Nat) : (blk a k).Sublist (ob (.slice a n cap)) := by
  cases a with
  | none => cases k <;> simp [blk]
  | some a =>
    cases k with
    | zero => rw [blk_zero]; exact List.nil_sublist _
    | succ k => rw [blk_pos (Nat.succ_pos _)]; exact List.Sublist.refl _

/-- A row that is done. -/
theorem Hp.shut {P : Nat → Prop} {L : List Item} {A : World} {e : TypeId} {sz n : Nat} {v : Value} {F : Fo} (h : Hp P (.row e sz v n F :: L) A) : ∃ a cap, v = .slice a n cap ∧ Hp P (.fo (.s a n cap F .nil) :: L) A := by
  have hr := h.ok _ List.mem_cons_self
  have hnd := h.nd
  simp only [bls_cons, Item.bl] at hnd
  have hnd1 := (List.nodup_append.1 hnd).1
  obtain ⟨a, cap, rfl, ho⟩ := own_slice hr.1 (fun _ _ => hr.2.1.mono (fun c hc => ⟨Nat.zero_le _, hc⟩)) (fun g hg => ⟨by simpa [ob, hg] using hnd1, hr.2.2⟩)
  refine ⟨a, cap, rfl, h.subl ⟨ho.subs.mono (fun _ x => x.2), ho.live⟩ ?_⟩
  simp only [Item.bl, Fo.inn, List.append_nil]
  exact (blk_obs a n cap F.len).append (List.Sublist.refl _)

theorem Hp.own {P : Nat → Prop} {A : World} {F : Fo} {L : List Item} {lo : Nat} (h : Hp P (.fo F :: L) A) (hlo : ∀ c, c < lo → P c) : Own lo A F := by
  have hr := h.ok _ List.mem_cons_self
  have hnd := (List.nodup_append.1 h.nd).1
  refine ⟨hr.1.own.mono (fun c hc => ⟨Nat.not_lt.1 (fun hx => h.fr c (List.mem_append.2 (.inl hc)) (hlo c hx)), hr.1.inn_of c hc⟩), hnd, hr.2⟩

/-- What was made behind a world. -/
theorem Hp.of_own {P : Nat → Prop} {A : World} {F : Fo} {L : List Item} {lo : Nat} (h : Hp P L A) (ho : Own lo A F) (hP : ∀ c, lo ≤ c → ¬ P c) (hL : ∀ c ∈ bls L, c < lo) : Hp P (.fo F :: L) A := by
  have hi := ho.subs.inn_of
  refine ⟨fun i hq => by rcases List.mem_cons.1 hq with rfl | hq; exact ⟨ho.subs.mono (fun _ x => x.2), ho.live⟩; exact h.ok i hq, ?_, ?_⟩
  · rw [bls_cons, List.nodup_append]
    exact ⟨ho.nodup, h.nd, fun a ha b hb e => by have := (hi a ha).1; have := hL b hb; omega⟩
  · intro c hc
    rcases List.mem_append.1 hc with hc | hc
    · exact hP c (hi c hc).1
    · exact h.fr c hc

/-- What a row's last cells stand for is told anew. -/
theorem Hp.swap {P : Nat → Prop} {L : List Item} {A : World} {e : TypeId} {sz n : Nat} {v : Value} {D X Y : Fo} (h : Hp P (.row e sz v n (D.app X) :: .fo Y :: L) A) (hX : X.inn = []) (hv : Y.vals = X.vals) : Hp P (.row e sz v n (D.app Y) :: L) A := by
  have hr := h.ok _ List.mem_cons_self
  have hy := h.ok _ (List.mem_cons_of_mem _ List.mem_cons_self)
  have e1 : bls (.row e sz v n (D.app Y) :: L) = bls (.row e sz v n (D.app X) :: .fo Y :: L) := by simp only [bls_cons, Item.bl, Fo.inn_app, hX, List.append_nil, List.append_assoc]
  refine ⟨fun i hi => ?_, by rw [e1]; exact h.nd, fun c hc => h.fr c (by rw [e1] at hc; exact hc)⟩
  rcases List.mem_cons.1 hi with rfl | hi
  · refine ⟨by have := hr.1; rw [Fo.app_vals] at this ⊢; rw [hv]; exact this, hr.2.1.left.app hy.1, ?_⟩
    rw [Fo.inn_app]
    exact (hr.2.2.sub (fun c hc => by rw [Fo.inn_app]; exact List.mem_append.2 (.inl hc))).app hy.2
  · exact h.ok i (List.mem_cons_of_mem _ (List.mem_cons_of_mem _ hi))

theorem ownsRow_set {W : World} {B g cap : Nat} {e : TypeId} {sz n : Nat} {xs ys : List Value} {x : Value} (h : W.ownsRow B e sz (.slice (some ⟨g, 0, none⟩) n cap) n (xs ++ x :: ys)) (y : Value) :
    (W.setCell ⟨g, xs.length, none⟩ y).ownsRow B e sz (.slice (some ⟨g, 0, none⟩) n cap) n (xs ++ y :: ys) := by
  have hl := h.1
  rcases h.2 with ⟨h1, h2⟩ | ⟨b, cap', cur, hv, hb, hg, hnc, hcm, hcs, ht⟩
  · cases h1
  · cases hv
    refine ⟨by simpa using hl, .inr ⟨g, cap, cur.setIfInBounds xs.length y, rfl, hb, ?_, hnc, hcm, by simpa using hcs, ?_⟩⟩
    · simp [World.setCell, Array.getElem?_modify, hg]
    · rw [Array.toList_setIfInBounds, List.take_set, ht, List.set_append_right _ _ (Nat.le_refl _), Nat.sub_self]
      rfl

/-- A plain cell of a row is set. -/
theorem Hp.cell {P : Nat → Prop} {L : List Item} {A : World} {e : TypeId} {sz n g cap : Nat} {D R : Fo} {x : Value} (h : Hp P (.row e sz (.slice (some ⟨g, 0, none⟩) n cap) n (D.app (.v x R)) :: L) A) (y : Value) : Hp P (.row e sz (.slice (some ⟨g, 0, none⟩) n cap) n (D.app (.v y R)) :: L) (A.setCell ⟨g, D.len, none⟩ y) := by
  have hr := h.ok _ List.mem_cons_self
  have hnd := h.nd
  simp only [bls_cons, Item.bl, List.append_assoc] at hnd
  have hob : ob (.slice (some ⟨g, 0, none⟩) n cap) = [g] := rfl
  rw [hob, List.singleton_append, List.nodup_cons] at hnd
  have k : Kept (fun c => c ≠ g) A (A.setCell ⟨g, D.len, none⟩ y) := Kept.setCell _ _ _ _ (by simp)
  have e1 : (D.app (.v y R)).inn = (D.app (.v x R)).inn := by simp only [Fo.inn_app, Fo.inn]
  have e2 : bls (.row e sz (.slice (some ⟨g, 0, none⟩) n cap) n (D.app (.v y R)) :: L) = bls (.row e sz (.slice (some ⟨g, 0, none⟩) n cap) n (D.app (.v x R)) :: L) := by simp only [bls_cons, Item.bl, e1]
  have hne : ∀ c, c ∈ (D.app (.v x R)).inn ++ bls L → c ≠ g := fun c hc e => hnd.1 (by rw [← e]; exact hc)
  refine ⟨fun i hi => ?_, by rw [e2]; exact h.nd, fun c hc => h.fr c (by rw [e2] at hc; exact hc)⟩
  rcases List.mem_cons.1 hi with rfl | hi
  · have ho := hr.1
    rw [Fo.app_vals] at ho
    have h2 := ownsRow_set ho y
    rw [Fo.vals_length] at h2
    have hs := subs_kept hr.2.1 k (fun c hc => hne c (List.mem_append.2 (.inl hc)))
    refine ⟨by rw [Fo.app_vals]; exact h2, Fo.Subs.app hs.left (show R.Subs _ _ from hs.right), ?_⟩
    rw [e1]
    exact hr.2.2.kept k (fun c hc => ⟨hne c (List.mem_append.2 (.inl hc)), hr.2.1.inn_of c hc⟩)
  · exact (h.ok i (List.mem_cons_of_mem _ hi)).kept k (fun c hc => hne c (List.mem_append.2 (.inr (List.mem_flatMap.2 ⟨i, hi, hc⟩))))

/-- A cell of a row. -/
theorem Hp.at_ {P : Nat → Prop} {L : List Item} {A : World} {e : TypeId} {sz n g cap : Nat} {F : Fo} (h : Hp P (.row e sz (.slice (some ⟨g, 0, none⟩) n cap) n F :: L) A) (i : Nat) (u : Value) (hu : F.vals[i]? = some u) : A.cell? ⟨g, i, none⟩ = some u := by
  have := (h.ok _ List.mem_cons_self).1.cells (g := g) rfl i u hu
  rwa [addr_add, Nat.zero_add] at this

theorem Hp.free {P : Nat → Prop} {L : List Item} {A : World} {e : TypeId} {sz n g cap : Nat} {F : Fo} (h : Hp P (.row e sz (.slice (some ⟨g, 0, none⟩) n cap) n F :: L) A) (i : Nat) : A.frozen? ⟨g, i, none⟩ = false :=
  (h.ok _ List.mem_cons_self).1.frozenAt i

/-- A row behind a row of our own, and where it is. -/
theorem ur_stepL {P : Program} {ops : Array Oper} {rest : List Oper} {o : Oper} {a : Act} {Q : Exit → Act → World → Prop} (hgd : o.guard = none) (s x : Operand) (t e : TypeId)
    (ho : o.op = .call { callee := .builtin .append, args := #[s, x], argTypes := #[t, t] }) {z : Value} {size bytes : Nat} (hinfo : (P.info? e).map (fun i => (i.zero, i.size, i.bytes)) = some (some z, size, bytes)) (ht : P.underlying t = some (.slice e)) (hzs : z.cells.size = size) (hsz : 0 < size)
    (B : Nat) (W : World) (v : Value) (n : Nat) (xs ys : List Value) (bb c2 : Nat) (hs : a.eval s = v) (hx : a.eval x = .slice (some ⟨bb, 0, none⟩) 1 c2) (hB : B ≤ W.heap.size) (hown : W.ownsRow B e size v n xs)
    (hb : W.heap[bb]? = some (.cells ys.toArray e)) (hl : ys.length = size) (h1 : ∀ u ∈ ys, u.oneCell' = true) (h63 : n + 1 ≤ maxLen) (hbytes : (n + 1) * bytes ≤ 140737488355328)
    (h : ∀ g cap W', W'.ownsRow B e size (.slice (some ⟨g, 0, none⟩) (n + 1) cap) (n + 1) (xs ++ ys) → W.grownBy W' v.ownBlock → (v.ownBlock = some g ∨ g = W.heap.size) → wpList P ops Q rest (a.put o.dst (.slice (some ⟨g, 0, none⟩) (n + 1) cap)) W') : wpList P ops Q (o :: rest) a W := by
  obtain ⟨i0, hi, hz0, hz1, hz2⟩ := info_parts hinfo
  refine wpList_append_own_at W hgd s x t ho B e i0 z size bytes ht hi hz0 hz1 hz2 hzs hsz v n xs hs hown ⟨bb, 0, none⟩ 1 c2 ys hx (by omega) (fun j u hu => World.news_of_block hb j u (by simpa using hu)) h1 h63 hbytes hB (fun v' W' h2 h3 h4 h5 => ?_)
  rcases h2.2 with ⟨e1, e2⟩ | ⟨g, cap, cur, rfl, -⟩
  · omega
  · refine h g cap W' h2 h3 ?_
    rcases h5 with h5 | h5
    · exact .inl h5.symm
    · exact .inr (Option.some.inj h5)

end Go.Proofs.Ytmnligaelihmiaa
