import Derived.Test.YtjfoagmenehapaaNodes
import Derived.Test.YtjfoagmenehapaaSSame
namespace Go.Proofs.Ytjfoagmenehapaa
open Go.RowKit Go.Shelf Go.Joins

/-- A node, and where its kids lie. -/
structure Nd where
  k : Int
  nm : ByteArray
  a : Option Addr
  cap : Nat
  F : Fo

def Nd.cells (x : Nd) : List Value := [.int .i64 x.k, .string x.nm, .slice x.a x.F.len x.cap]
def Nd.val (x : Nd) : Value := nodeV x.k x.nm x.a x.F.len x.cap

def Nd.Ok (W : World) (n0 : Nat) (x : Nd) : Prop := x.F.Sl W (fun b => b < n0) x.a x.cap ∧ x.a.isSome = true ∧ x.F.Full

theorem Nd.Ok.kept {A B : World} {n0 : Nat} {x : Nd} {S : Nat → Prop} (h : x.Ok A n0) (k : Kept S A B) (hn : ∀ b, b < n0 → S b ∧ b < A.heap.size) : x.Ok B n0 :=
  ⟨h.1.kept k hn, h.2⟩

def Fo.nds : Fo → List Nd
  | .nil => []
  | .cons k nm a cap ks r => ⟨k, nm, a, cap, ks⟩ :: r.nds

theorem Fo.nds_length : ∀ F : Fo, F.nds.length = F.len
  | .nil => rfl
  | .cons _ _ _ _ _ r => by simp only [Fo.nds, Fo.len, List.length_cons, r.nds_length]

theorem Fo.nds_ok {W : World} {n0 : Nat} : ∀ {F : Fo} {b o : Nat}, F.Row W (fun c => c < n0) b o → F.Full → ∀ x ∈ F.nds, x.Ok W n0
  | .nil, _, _, _, _, x, hx => by simp [Fo.nds] at hx
  | .cons _ _ _ _ _ _, _, _, ⟨_, _, _, _, _, h4, h5, h6, h7⟩, ⟨f1, f2, f3⟩, x, hx => by
    simp only [Fo.nds, List.mem_cons] at hx
    rcases hx with rfl | hx
    · exact ⟨⟨h4, h5, h6⟩, f1, f2⟩
    · exact Fo.nds_ok h7 f3 x hx

theorem Nd.cells_one {x : Nd} {u : Value} (h : u ∈ x.cells) : u.oneCell' = true := by
  simp only [Nd.cells, List.mem_cons, List.not_mem_nil, or_false] at h
  rcases h with rfl | rfl | rfl <;> rfl

theorem flat_one {l : List Nd} {u : Value} (h : u ∈ l.flatMap Nd.cells) : u.oneCell' = true := by
  obtain ⟨x, _, hx⟩ := List.mem_flatMap.1 h
  exact Nd.cells_one hx

theorem flat_length (l : List Nd) : (l.flatMap Nd.cells).length = l.length * 3 := by
  induction l with
  | nil => rfl
  | cons x l ih => simp only [List.flatMap_cons, List.length_append, List.length_cons, ih, Nd.cells, List.length_nil]; omega

/-- The cells of a row, one behind the other. -/
theorem Fo.Row.flat {W : World} {S : Nat → Prop} : ∀ {F : Fo} {b o : Nat}, F.Row W S b o → ∀ (m j : Nat) (u : Value), ((F.nds.take m).flatMap Nd.cells)[j]? = some u → W.cell? ⟨b, o + j, none⟩ = some u
  | .nil, _, _, _, m, j, u, h => by simp [Fo.nds] at h
  | .cons _ _ _ _ _ _, b, o, ⟨_, _, c1, c2, c3, _, _, _, h7⟩, 0, j, u, h => by simp at h
  | .cons _ _ _ _ _ r, b, o, ⟨_, _, c1, c2, c3, _, _, _, h7⟩, m + 1, j, u, h => by
    simp only [Fo.nds, List.take_succ_cons, List.flatMap_cons, Nd.cells] at h
    match j, h with
    | 0, h => simp at h; subst h; exact c1
    | 1, h => simp at h; subst h; exact c2
    | 2, h => simp at h; subst h; exact c3
    | j + 3, h =>
      simp only [List.cons_append, List.nil_append, List.getElem?_cons_succ] at h
      have := Fo.Row.flat h7 m j u h
      have e : o + 3 + j = o + (j + 3) := by omega
      rw [e] at this
      exact this

/-- A stack of nodes in memory: top first. -/
def Rw (W : World) (B g c : Nat) (l : List Nd) : Prop := W.ownsRow B 29 3 (.slice (some ⟨g, 0, none⟩) l.length c) l.length (l.reverse.flatMap Nd.cells)

theorem Rw.top {W : World} {B g c : Nat} {x : Nd} {l : List Nd} (h : Rw W B g c (x :: l)) :
    W.cell? ⟨g, l.length * 3, none⟩ = some (.int .i64 x.k) ∧ W.cell? ⟨g, l.length * 3 + 1, none⟩ = some (.string x.nm) ∧ W.cell? ⟨g, l.length * 3 + 2, none⟩ = some (.slice x.a x.F.len x.cap) := by
  have e : (x :: l).reverse.flatMap Nd.cells = l.reverse.flatMap Nd.cells ++ x.cells := by simp [List.flatMap_append]
  have el : (l.reverse.flatMap Nd.cells).length = l.length * 3 := by rw [flat_length, List.length_reverse]
  have key : ∀ j, j < 3 → W.cell? ⟨g, l.length * 3 + j, none⟩ = x.cells[j]? := fun j hj => by
    have := World.ownsRow.cellAt h (l.length * 3 + j) (by simp only [List.length_cons]; omega)
    rw [this, e, List.getElem?_append_right (by omega), el]
    congr 1
    omega
  exact ⟨key 0 (by omega), key 1 (by omega), key 2 (by omega)⟩

theorem Rw.parts {W : World} {B g c : Nat} {l : List Nd} (h : Rw W B g c l) : ∃ cur, B ≤ g ∧ W.heap[g]? = some (.cells cur 29 (0, 0)) ∧ l.length ≤ c ∧ c ≤ maxLen ∧ cur.size = c * 3 ∧ cur.toList.take (l.length * 3) = l.reverse.flatMap Nd.cells := by
  rcases h.2 with ⟨h', _⟩ | ⟨g', cap', cur, h', hb, hg, hnc, hcm, hcs, htake⟩
  · simp at h'
  · simp only [Value.slice.injEq, Option.some.injEq, Addr.mk.injEq, and_true, true_and] at h'
    obtain ⟨rfl, rfl⟩ := h'
    exact ⟨cur, hb, hg, hnc, hcm, hcs, htake⟩

theorem Rw.of {W : World} {B g c : Nat} {l : List Nd} {cur : Array Value} (hb : B ≤ g) (hg : W.heap[g]? = some (.cells cur 29 (0, 0))) (hnc : l.length ≤ c) (hcm : c ≤ maxLen) (hcs : cur.size = c * 3) (ht : cur.toList.take (l.length * 3) = l.reverse.flatMap Nd.cells) : Rw W B g c l :=
  ⟨by rw [flat_length, List.length_reverse], .inr ⟨g, c, cur, rfl, hb, hg, hnc, hcm, hcs, ht⟩⟩

theorem Rw.pop {W : World} {B g c : Nat} {x : Nd} {l : List Nd} (h : Rw W B g c (x :: l)) : Rw W B g c l := by
  obtain ⟨cur, hb, hg, hnc, hcm, hcs, ht⟩ := Rw.parts h
  simp only [List.length_cons] at hnc
  refine Rw.of hb hg (by omega) hcm hcs ?_
  have := congrArg (List.take (l.length * 3)) ht
  simp only [List.length_cons] at this
  rw [List.take_take, Nat.min_eq_left (by omega)] at this
  rw [this]
  have el : (l.reverse.flatMap Nd.cells).length = l.length * 3 := by rw [flat_length, List.length_reverse]
  simp only [List.reverse_cons, List.flatMap_append]
  rw [← el, List.take_left]

theorem Rw.lt {W : World} {B g c : Nat} {l : List Nd} (h : Rw W B g c l) : B ≤ g ∧ g < W.heap.size := World.ownsRow.lt h g rfl

theorem Rw.kept {A C : World} {B g c : Nat} {l : List Nd} {S : Nat → Prop} (h : Rw A B g c l) (k : Kept S A C) (hg : S g) : Rw C B g c l := by
  have hl := h.lt
  obtain ⟨cur, hb, hg', hnc, hcm, hcs, ht⟩ := Rw.parts h
  exact Rw.of hb ((k.block g hl.2 hg).trans hg') hnc hcm hcs ht

theorem Rw.one (W : World) (B : Nat) (hB : B ≤ W.heap.size) (x : Nd) : Rw (W.alloc (.cells #[.int .i64 x.k, .string x.nm, .slice x.a x.F.len x.cap] 29)) B W.heap.size 1 [x] := by
  have := World.ownsRow_lit (base := B) (e := 29) (size := 3) W #[.int .i64 x.k, .string x.nm, .slice x.a x.F.len x.cap] 1 hB (by simp [maxLen]) rfl
  exact this

/-- Pairs of nodes in the order in which they are told, of two rows whose last ones come first. -/
def visL : Fo → Fo → List (Nd × Nd)
  | .cons k nm a cap ks r, .cons k' nm' a' cap' ks' r' => visL r r' ++ ((⟨k, nm, a, cap, ks⟩, ⟨k', nm', a', cap', ks'⟩) :: visL ks ks')
  | .nil, _ => []
  | .cons _ _ _ _ _ _, .nil => []

def visS : List (Nd × Nd) → List (Nd × Nd)
  | [] => []
  | p :: st => p :: (visL p.1.F p.2.F ++ visS st)

theorem visS_push : ∀ (F G : Fo) (st : List (Nd × Nd)), visS ((F.nds.zip G.nds).reverse ++ st) = visL F G ++ visS st
  | .nil, _, _ => by simp [Fo.nds, visL]
  | .cons _ _ _ _ _ _, .nil, _ => by simp [Fo.nds, visL]
  | .cons k nm a cap ks r, .cons k' nm' a' cap' ks' r', st => by
    simp only [Fo.nds, List.zip_cons_cons, List.reverse_cons, List.append_assoc, visL, List.cons_append, List.nil_append]
    rw [visS_push r r']
    simp [visS]

theorem visS_len : ∀ st : List (Nd × Nd), st.length ≤ (visS st).length
  | [] => Nat.le_refl _
  | p :: st => by have := visS_len st; simp only [visS, List.length_cons, List.length_append]; omega

theorem visL_len : ∀ F G : Fo, (visL F G).length ≤ F.size
  | .nil, _ => by simp [visL]
  | .cons _ _ _ _ _ _, .nil => by simp [visL]
  | .cons _ _ _ _ ks r, .cons _ _ _ _ ks' r' => by
    have := visL_len ks ks'
    have := visL_len r r'
    simp only [visL, Fo.size, List.length_append, List.length_cons]
    omega

/-- What a round asks of a pair. -/
def pairOk (p : Nd × Nd) : Bool := decide (p.1.k = p.2.k) && decide (p.1.nm = p.2.nm) && decide (p.1.F.len = p.2.F.len)

/-- Two rows are the same just if they are as long and each pair is as asked. -/
theorem vis_same : ∀ F G : Fo, F.same G = (decide (F.len = G.len) && (visL F G).all pairOk)
  | .nil, .nil => by simp [Fo.same, visL, Fo.len]
  | .nil, .cons _ _ _ _ _ _ => by simp [Fo.same, Fo.len]
  | .cons _ _ _ _ _ _, .nil => by simp [Fo.same, Fo.len]
  | .cons k nm a cap ks r, .cons k' nm' a' cap' ks' r' => by
    have h3 : decide ((Fo.cons k nm a cap ks r).len = (Fo.cons k' nm' a' cap' ks' r').len) = decide (r.len = r'.len) := by
      rw [decide_eq_decide]
      simp only [Fo.len]
      omega
    rw [h3]
    simp only [Fo.same, visL, List.all_append, List.all_cons, pairOk, vis_same ks ks', vis_same r r']
    cases decide (k = k') <;> cases decide (nm = nm') <;> cases decide (ks.len = ks'.len) <;> cases (visL ks ks').all pairOk <;> cases decide (r.len = r'.len) <;> cases (visL r r').all pairOk <;> rfl

end Go.Proofs.Ytjfoagmenehapaa
