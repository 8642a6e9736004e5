import Derived.Test.YtanjgmmkodlffaaSb
import Derived.WalkSmall
namespace Go.Proofs.Ytanjgmmkodlffaa
open Go.RowKit Go.Joins

theorem shape_of_cell {w : World} {c j : Nat} {v : Value} (h : w.cell? ⟨c, j, none⟩ = some v) : ∃ t n, w.shape? c = some (t, n) := by
  unfold World.cell? at h
  unfold World.shape?
  cases hb : w.heap[c]? with
  | none => simp [hb] at h
  | some o =>
    cases o with
    | cells cs t fr => exact ⟨t, cs.size, rfl⟩
    | _ => simp [hb] at h

theorem LiveB.kept {w w' : World} {c : Nat} {S : Nat → Prop} (h : LiveB w c) (k : Kept S w w') (hc : c < w.heap.size) (hS : S c) : LiveB w' c := by
  have hb := k.block c hc hS
  refine ⟨fun j => (k.frozen (p := ⟨c, j, none⟩) hc hS).trans (h.fr j), ?_⟩
  obtain ⟨t, n, hs⟩ := h.sh
  exact ⟨t, n, by unfold World.shape? at hs ⊢; rw [hb]; exact hs⟩

/-- Two lists that wait. -/
structure Ent where
  a : Option Addr
  c : Nat
  F : Fo
  a' : Option Addr
  c' : Nat
  F' : Fo

def Ent.lv (e : Ent) : Value := .slice e.a e.F.len e.c
def Ent.rv (e : Ent) : Value := .slice e.a' e.F'.len e.c'

/-- A row of slices of its own. -/
def VR (B : Nat) (w : World) (v : Value) (n : Nat) (L : List Value) : Prop := w.ownsRow B 23 1 v n L ∧ n = L.length

theorem VR.kept {B : Nat} {w w' : World} {v : Value} {n : Nat} {L : List Value} (h : VR B w v n L) {S : Nat → Prop} (k : Kept S w w') (hS : ∀ c, v.ownBlock = some c → S c) : VR B w' v n L := by
  obtain ⟨⟨h1, h2⟩, h3⟩ := h
  refine ⟨⟨h1, ?_⟩, h3⟩
  rcases h2 with h2 | ⟨b, cap, cur, rfl, hb, hg, rest⟩
  · exact .inl h2
  · refine .inr ⟨b, cap, cur, rfl, hb, ?_, rest⟩
    have hlt : b < w.heap.size := (Array.getElem?_eq_some_iff.1 hg).1
    rw [k.block b hlt (hS b rfl)]
    exact hg

theorem VR.lt {B : Nat} {w : World} {v : Value} {n : Nat} {L : List Value} (h : VR B w v n L) : ∀ k, v.ownBlock = some k → B ≤ k ∧ k < w.heap.size := World.ownsRow.lt h.1

/-- The last one, and the row without it. -/
theorem VR.last {B : Nat} {w : World} {v : Value} {n : Nat} {L : List Value} {x : Value} (h : VR B w v (n + 1) (L ++ [x])) : ∃ b cap, v = .slice (some ⟨b, 0, none⟩) (n + 1) cap ∧ n + 1 ≤ cap ∧ cap ≤ maxLen ∧ w.cell? ⟨b, n, none⟩ = some x ∧ VR B w (.slice (some ⟨b, 0, none⟩) n cap) n L := by
  obtain ⟨h1, h2⟩ := h
  have hl : L.length = n := by simpa using h2.symm
  rcases h1.2 with ⟨e, h3⟩ | ⟨b, cap, cur, rfl, hb, hg, h4, h5, h6, h7⟩
  · omega
  · have hc := World.ownsRow.cells h1 (g := b) rfl n x (by rw [List.getElem?_append_right (by omega), hl]; simp)
    rw [addr_add, Nat.zero_add] at hc
    exact ⟨b, cap, rfl, h4, h5, hc, ownsRow_pop (by omega) h1, hl.symm⟩

/-- Sizes of lists that wait. -/
def wsz : List Ent → Nat
  | [] => 0
  | e :: r => e.F.size + wsz r

theorem wsz_snoc : ∀ (L : List Ent) (e : Ent), wsz (L ++ [e]) = wsz L + e.F.size
  | [], e => by simp [wsz]
  | x :: r, e => by simp only [List.cons_append, wsz, wsz_snoc r e]; omega

/-- The blocks of lists within lists that wait. -/
def winn (L : List Ent) : List Nat := L.flatMap (fun e => e.F.inn)
def winn' (L : List Ent) : List Nat := L.flatMap (fun e => e.F'.inn)

/-- What is fixed in the walk: T: where lists may lie; n1: the world's size when it begins; M: the map's block; p, p': where the two rows begin; z: what parts left and right. -/
structure Fx where
  W3 : World
  T : Nat → Prop
  M : Nat
  p : Nat
  p' : Nat
  z : Nat

structure Fx.ok (x : Fx) : Prop where
  t : ∀ c, x.T c → c < x.W3.heap.size ∧ c ≠ x.M ∧ c ≠ x.p ∧ c ≠ x.p'
  m : x.M < x.W3.heap.size ∧ x.M ≠ x.p ∧ x.M ≠ x.p'
  p : x.p < x.W3.heap.size ∧ x.p' < x.W3.heap.size ∧ x.p ≠ x.p'

/-- An entry's facts. -/
structure Ent.Ok (w : World) (T : Nat → Prop) (e : Ent) : Prop where
  l : e.F.Sl w T e.a e.c
  r : e.F'.Sl w T e.a' e.c'
  n : e.F.len = e.F'.len
  p : 0 < e.F.len

/-- What the walk knows: vl, vr: the two rows; R, R': the blocks of what is left of the two lists at hand. -/
structure ScI (x : Fx) (wr : World) (st : List Ent) (vl vr : Value) (Bs R R' : List Nat) : Prop where
  l : VR 0 wr vl st.length (st.map Ent.lv)
  r : VR 0 wr vr st.length (st.map Ent.rv)
  lo : ∀ c, vl.ownBlock = some c → c = x.p ∨ x.W3.heap.size ≤ c
  ro : ∀ c, vr.ownBlock = some c → c = x.p' ∨ x.W3.heap.size ≤ c
  ne : ∀ c, vl.ownBlock = some c → vr.ownBlock ≠ some c
  lm : LM wr x.M Bs
  kp : Kept (fun c => c ≠ x.M ∧ c ≠ x.p ∧ c ≠ x.p') x.W3 wr
  en : ∀ e ∈ st, e.Ok x.W3 x.T
  nd : (Bs ++ R ++ winn st).Nodup
  lv : ∀ c ∈ Bs ++ R ++ winn st, LiveB x.W3 c ∧ x.T c ∧ c < x.z
  rv : ∀ c ∈ R' ++ winn' st, LiveB x.W3 c ∧ x.T c ∧ x.z ≤ c

theorem ScI.live {x : Fx} {wr : World} {st : List Ent} {vl vr : Value} {Bs R R' : List Nat} (hx : x.ok) (h : ScI x wr st vl vr Bs R R') {c : Nat} (hc : c ∈ Bs ++ R ++ winn st) : LiveB wr c := by
  obtain ⟨h1, h2, -⟩ := h.lv c hc
  have ht := hx.t c h2
  exact h1.kept h.kp ht.1 ⟨ht.2.1, ht.2.2.1, ht.2.2.2⟩

theorem ScI.live' {x : Fx} {wr : World} {st : List Ent} {vl vr : Value} {Bs R R' : List Nat} (hx : x.ok) (h : ScI x wr st vl vr Bs R R') {c : Nat} (hc : c ∈ R' ++ winn' st) : LiveB wr c := by
  obtain ⟨h1, h2, -⟩ := h.rv c hc
  have ht := hx.t c h2
  exact h1.kept h.kp ht.1 ⟨ht.2.1, ht.2.2.1, ht.2.2.2⟩

/-- A cell of a list that waits. -/
theorem ScI.cell {x : Fx} {wr : World} {st : List Ent} {vl vr : Value} {Bs R R' : List Nat} (hx : x.ok) (h : ScI x wr st vl vr Bs R R') {c j : Nat} (hc : x.T c) : wr.cell? ⟨c, j, none⟩ = x.W3.cell? ⟨c, j, none⟩ := by
  have ht := hx.t c hc
  exact h.kp.cell (p := ⟨c, j, none⟩) ht.1 ⟨ht.2.1, ht.2.2.1, ht.2.2.2⟩

theorem run_makeMap72 (w : World) : (Instr.makeMap 72 none).run Try.prog w = .ok (.map (some w.heap.size)) (w.alloc (.map #[] 0)) := run_makeMap ..

/-- What the program lays ahead of its walk. -/
structure Blt (A B : World) (b1 p b1' p' : Nat) (x y : Array Value) : Prop where
  kp : Kept (fun _ => True) A B
  h1 : B.heap[b1]? = some (.cells x 25)
  h2 : B.heap[p]? = some (.cells #[.slice (some ⟨b1, 0, none⟩) 1 1] 23)
  h3 : B.heap[b1']? = some (.cells y 25)
  h4 : B.heap[p']? = some (.cells #[.slice (some ⟨b1', 0, none⟩) 1 1] 23)
  ne : A.heap.size ≤ b1 ∧ A.heap.size ≤ p ∧ A.heap.size ≤ b1' ∧ A.heap.size ≤ p' ∧ b1 ≠ p ∧ b1 ≠ b1' ∧ b1 ≠ p' ∧ p ≠ b1' ∧ p ≠ p' ∧ b1' ≠ p'

/-- The outer loop's head; m: what is left. -/
def ScO (x : Fx) (q : Bool) (W : World) (s6 s7 : Value) (wr : World) (m : Nat) : Prop :=
  ∃ (st : List Ent) (la ra : Option Addr) (lc rc : Nat) (Bs : List Nat), s6 = .slice la st.length lc ∧ s7 = .slice ra st.length rc ∧ ScI x wr st (.slice la st.length lc) (.slice ra st.length rc) Bs [] [] ∧ (q = true ↔ ∀ e ∈ st, e.F.sim e.F') ∧ m = wsz st ∧ st.length ≤ wsz st ∧ wsz st ≤ 1048577 ∧ Below W.heap.size W wr

theorem al_old {A : World} {o x : Obj} {c : Nat} (h : A.heap[c]? = some x) : (A.alloc o).heap[c]? = some x := by
  have hl : c < A.heap.size := (Array.getElem?_eq_some_iff.1 h).1
  exact (Below.heap_alloc A o c hl).trans h

theorem al_new (A : World) (o : Obj) {n : Nat} (h : A.heap.size = n) : (A.alloc o).heap[n]? = some o := by
  subst h
  exact (MapKept.heap_alloc A o).1

theorem blt0 (A : World) (x y : Array Value) : Blt A ((((A.alloc (.cells x 25)).alloc (.cells #[.slice (some ⟨A.heap.size, 0, none⟩) 1 1] 23)).alloc (.cells y 25)).alloc (.cells #[.slice (some ⟨A.heap.size + 1 + 1, 0, none⟩) 1 1] 23)).drew (A.heap.size) (A.heap.size + 1) (A.heap.size + 1 + 1) (A.heap.size + 1 + 1 + 1) x y :=
  ⟨((((Kept.alloc _ _ _).trans (Kept.alloc _ _ _)).trans (Kept.alloc _ _ _)).trans (Kept.alloc _ _ _)).trans (Kept.drew _ _), al_old (al_old (al_old (al_new A (.cells x 25) rfl))), al_old (al_old (al_new (A.alloc (.cells x 25)) (.cells #[.slice (some ⟨A.heap.size, 0, none⟩) 1 1] 23) (by simp only [World.size_alloc]))), al_old (al_new ((A.alloc (.cells x 25)).alloc (.cells #[.slice (some ⟨A.heap.size, 0, none⟩) 1 1] 23)) (.cells y 25) (by simp only [World.size_alloc])), al_new (((A.alloc (.cells x 25)).alloc (.cells #[.slice (some ⟨A.heap.size, 0, none⟩) 1 1] 23)).alloc (.cells y 25)) (.cells #[.slice (some ⟨A.heap.size + 1 + 1, 0, none⟩) 1 1] 23) (by simp only [World.size_alloc]), by omega⟩

theorem blt1 (A : World) (x y : Array Value) : Blt A ((((A.alloc (.cells x 25)).alloc (.cells y 25)).alloc (.cells #[.slice (some ⟨A.heap.size, 0, none⟩) 1 1] 23)).alloc (.cells #[.slice (some ⟨A.heap.size + 1, 0, none⟩) 1 1] 23)).drew (A.heap.size) (A.heap.size + 1 + 1) (A.heap.size + 1) (A.heap.size + 1 + 1 + 1) x y :=
  ⟨((((Kept.alloc _ _ _).trans (Kept.alloc _ _ _)).trans (Kept.alloc _ _ _)).trans (Kept.alloc _ _ _)).trans (Kept.drew _ _), al_old (al_old (al_old (al_new A (.cells x 25) rfl))), al_old (al_new ((A.alloc (.cells x 25)).alloc (.cells y 25)) (.cells #[.slice (some ⟨A.heap.size, 0, none⟩) 1 1] 23) (by simp only [World.size_alloc])), al_old (al_old (al_new (A.alloc (.cells x 25)) (.cells y 25) (by simp only [World.size_alloc]))), al_new (((A.alloc (.cells x 25)).alloc (.cells y 25)).alloc (.cells #[.slice (some ⟨A.heap.size, 0, none⟩) 1 1] 23)) (.cells #[.slice (some ⟨A.heap.size + 1, 0, none⟩) 1 1] 23) (by simp only [World.size_alloc]), by omega⟩

theorem blt2 (A : World) (x y : Array Value) : Blt A ((((A.alloc (.cells x 25)).alloc (.cells y 25)).alloc (.cells #[.slice (some ⟨A.heap.size + 1, 0, none⟩) 1 1] 23)).alloc (.cells #[.slice (some ⟨A.heap.size, 0, none⟩) 1 1] 23)).drew (A.heap.size) (A.heap.size + 1 + 1 + 1) (A.heap.size + 1) (A.heap.size + 1 + 1) x y :=
  ⟨((((Kept.alloc _ _ _).trans (Kept.alloc _ _ _)).trans (Kept.alloc _ _ _)).trans (Kept.alloc _ _ _)).trans (Kept.drew _ _), al_old (al_old (al_old (al_new A (.cells x 25) rfl))), al_new (((A.alloc (.cells x 25)).alloc (.cells y 25)).alloc (.cells #[.slice (some ⟨A.heap.size + 1, 0, none⟩) 1 1] 23)) (.cells #[.slice (some ⟨A.heap.size, 0, none⟩) 1 1] 23) (by simp only [World.size_alloc]), al_old (al_old (al_new (A.alloc (.cells x 25)) (.cells y 25) (by simp only [World.size_alloc]))), al_old (al_new ((A.alloc (.cells x 25)).alloc (.cells y 25)) (.cells #[.slice (some ⟨A.heap.size + 1, 0, none⟩) 1 1] 23) (by simp only [World.size_alloc])), by omega⟩

theorem blt3 (A : World) (x y : Array Value) : Blt A ((((A.alloc (.cells y 25)).alloc (.cells x 25)).alloc (.cells #[.slice (some ⟨A.heap.size + 1, 0, none⟩) 1 1] 23)).alloc (.cells #[.slice (some ⟨A.heap.size, 0, none⟩) 1 1] 23)).drew (A.heap.size + 1) (A.heap.size + 1 + 1) (A.heap.size) (A.heap.size + 1 + 1 + 1) x y :=
  ⟨((((Kept.alloc _ _ _).trans (Kept.alloc _ _ _)).trans (Kept.alloc _ _ _)).trans (Kept.alloc _ _ _)).trans (Kept.drew _ _), al_old (al_old (al_new (A.alloc (.cells y 25)) (.cells x 25) (by simp only [World.size_alloc]))), al_old (al_new ((A.alloc (.cells y 25)).alloc (.cells x 25)) (.cells #[.slice (some ⟨A.heap.size + 1, 0, none⟩) 1 1] 23) (by simp only [World.size_alloc])), al_old (al_old (al_old (al_new A (.cells y 25) rfl))), al_new (((A.alloc (.cells y 25)).alloc (.cells x 25)).alloc (.cells #[.slice (some ⟨A.heap.size + 1, 0, none⟩) 1 1] 23)) (.cells #[.slice (some ⟨A.heap.size, 0, none⟩) 1 1] 23) (by simp only [World.size_alloc]), by omega⟩

theorem blt4 (A : World) (x y : Array Value) : Blt A ((((A.alloc (.cells y 25)).alloc (.cells x 25)).alloc (.cells #[.slice (some ⟨A.heap.size, 0, none⟩) 1 1] 23)).alloc (.cells #[.slice (some ⟨A.heap.size + 1, 0, none⟩) 1 1] 23)).drew (A.heap.size + 1) (A.heap.size + 1 + 1 + 1) (A.heap.size) (A.heap.size + 1 + 1) x y :=
  ⟨((((Kept.alloc _ _ _).trans (Kept.alloc _ _ _)).trans (Kept.alloc _ _ _)).trans (Kept.alloc _ _ _)).trans (Kept.drew _ _), al_old (al_old (al_new (A.alloc (.cells y 25)) (.cells x 25) (by simp only [World.size_alloc]))), al_new (((A.alloc (.cells y 25)).alloc (.cells x 25)).alloc (.cells #[.slice (some ⟨A.heap.size, 0, none⟩) 1 1] 23)) (.cells #[.slice (some ⟨A.heap.size + 1, 0, none⟩) 1 1] 23) (by simp only [World.size_alloc]), al_old (al_old (al_old (al_new A (.cells y 25) rfl))), al_old (al_new ((A.alloc (.cells y 25)).alloc (.cells x 25)) (.cells #[.slice (some ⟨A.heap.size, 0, none⟩) 1 1] 23) (by simp only [World.size_alloc])), by omega⟩

theorem blt5 (A : World) (x y : Array Value) : Blt A ((((A.alloc (.cells y 25)).alloc (.cells #[.slice (some ⟨A.heap.size, 0, none⟩) 1 1] 23)).alloc (.cells x 25)).alloc (.cells #[.slice (some ⟨A.heap.size + 1 + 1, 0, none⟩) 1 1] 23)).drew (A.heap.size + 1 + 1) (A.heap.size + 1 + 1 + 1) (A.heap.size) (A.heap.size + 1) x y :=
  ⟨((((Kept.alloc _ _ _).trans (Kept.alloc _ _ _)).trans (Kept.alloc _ _ _)).trans (Kept.alloc _ _ _)).trans (Kept.drew _ _), al_old (al_new ((A.alloc (.cells y 25)).alloc (.cells #[.slice (some ⟨A.heap.size, 0, none⟩) 1 1] 23)) (.cells x 25) (by simp only [World.size_alloc])), al_new (((A.alloc (.cells y 25)).alloc (.cells #[.slice (some ⟨A.heap.size, 0, none⟩) 1 1] 23)).alloc (.cells x 25)) (.cells #[.slice (some ⟨A.heap.size + 1 + 1, 0, none⟩) 1 1] 23) (by simp only [World.size_alloc]), al_old (al_old (al_old (al_new A (.cells y 25) rfl))), al_old (al_old (al_new (A.alloc (.cells y 25)) (.cells #[.slice (some ⟨A.heap.size, 0, none⟩) 1 1] 23) (by simp only [World.size_alloc]))), by omega⟩

theorem ScI.keep {x : Fx} {wr wx : World} {st : List Ent} {vl vr : Value} {Bs R R' : List Nat} (h : ScI x wr st vl vr Bs R R') (k : Kept (fun _ => True) wr wx) : ScI x wx st vl vr Bs R R' :=
  ⟨h.l.kept k (fun _ _ => trivial), h.r.kept k (fun _ _ => trivial), h.lo, h.ro, h.ne, h.lm.kept k trivial, h.kp.trans (k.mono (fun _ _ _ => trivial)), h.en, h.nd, h.lv, h.rv⟩

/-- What the inner loop knows. -/
structure ScN (x : Fx) (q : Bool) (W : World) (ea ea' : Option Addr) (len tot i : Nat) (st : List Ent) (vl vr : Value) (Bs : List Nat) (X X' : Fo) (wr : World) : Prop where
  l1 : X.len + i = len
  l2 : X'.len + i = len
  sc : ScI x wr st vl vr Bs X.inn X'.inn
  r1 : 0 < X.len → ∃ b o, ea = some ⟨b, o, none⟩ ∧ x.T b ∧ X.Row x.W3 x.T b (o + i * 4)
  r2 : 0 < X'.len → ∃ b o, ea' = some ⟨b, o, none⟩ ∧ x.T b ∧ X'.Row x.W3 x.T b (o + i * 4)
  sm : q = true ↔ (∀ e ∈ st, e.F.sim e.F') ∧ X.sim X'
  sz : wsz st + X.size + i = tot
  le : st.length ≤ wsz st
  be : Below W.heap.size W wr

theorem ScN.keep {x : Fx} {q : Bool} {W : World} {ea ea' : Option Addr} {len tot i : Nat} {st : List Ent} {vl vr : Value} {Bs : List Nat} {X X' : Fo} {wr wx : World} (h : ScN x q W ea ea' len tot i st vl vr Bs X X' wr) (k : Kept (fun _ => True) wr wx) : ScN x q W ea ea' len tot i st vl vr Bs X X' wx :=
  ⟨h.l1, h.l2, h.sc.keep k, h.r1, h.r2, h.sm, h.sz, h.le, Below.kept h.be k (fun _ _ => trivial) (Nat.le_refl _)⟩

/-- The inner loop begins. -/
theorem ScN.start {x : Fx} {q : Bool} {W wr : World} {st : List Ent} {e : Ent} {vl vr vl' vr' : Value} {Bs : List Nat} (h : ScI x wr (st ++ [e]) vl vr Bs [] []) (hl : VR 0 wr vl' st.length (st.map Ent.lv)) (hr : VR 0 wr vr' st.length (st.map Ent.rv)) (hlo : vl'.ownBlock = vl.ownBlock) (hro : vr'.ownBlock = vr.ownBlock)
    (hq : q = true ↔ ∀ d ∈ st ++ [e], d.F.sim d.F') (hb : Below W.heap.size W wr) : ScN x q W e.a e.a' e.F.len (wsz (st ++ [e])) 0 st vl' vr' Bs e.F e.F' wr := by
  have he := h.en e (by simp)
  have hst : st.length ≤ wsz st := by
    have : ∀ L : List Ent, (∀ d ∈ L, d.Ok x.W3 x.T) → L.length ≤ wsz L := by
      intro L
      induction L with
      | nil => intro _; exact Nat.le_refl _
      | cons d r ih =>
        intro hd
        have h1 := ih (fun y hy => hd y (List.mem_cons_of_mem _ hy))
        have h2 := (hd d List.mem_cons_self).p
        have h3 := d.F.len_le
        simp only [List.length_cons, wsz]
        omega
    exact this st (fun d hd => h.en d (by simp [hd]))
  refine ⟨Nat.add_zero _, by rw [← he.n]; rfl, ⟨hl, hr, fun c hc => h.lo c (hlo ▸ hc), fun c hc => h.ro c (hro ▸ hc), fun c hc => hro ▸ h.ne c (hlo ▸ hc), h.lm, h.kp, fun d hd => h.en d (by simp [hd]), ?_, fun c hc => h.lv c ?_, fun c hc => h.rv c ?_⟩, fun hp => ?_, fun hp => ?_, ?_, ?_, hst, hb⟩
  · have hn := h.nd
    have hp : (Bs ++ [] ++ winn (st ++ [e])).Perm (Bs ++ e.F.inn ++ winn st) := by
      simp only [winn, List.flatMap_append, List.flatMap_cons, List.flatMap_nil, List.append_nil, List.append_assoc]
      exact List.Perm.append_left _ List.perm_append_comm
    exact hp.nodup_iff.1 hn
  · simp only [winn, List.flatMap_append, List.flatMap_cons, List.flatMap_nil, List.append_nil, List.mem_append] at hc ⊢
    rcases hc with (hc | hc) | hc
    · exact .inl hc
    · exact .inr (.inr hc)
    · exact .inr (.inl hc)
  · simp only [winn', List.flatMap_append, List.flatMap_cons, List.flatMap_nil, List.append_nil, List.mem_append, List.nil_append] at hc ⊢
    rcases hc with hc | hc
    · exact .inr hc
    · exact .inl hc
  · obtain ⟨b, o, e1, e2, e3⟩ := he.l.2.2 hp
    exact ⟨b, o, e1, e2, by rw [Nat.zero_mul, Nat.add_zero]; exact e3⟩
  · obtain ⟨b, o, e1, e2, e3⟩ := he.r.2.2 hp
    exact ⟨b, o, e1, e2, by rw [Nat.zero_mul, Nat.add_zero]; exact e3⟩
  · rw [hq]
    constructor
    · intro hh
      exact ⟨fun d hd => hh d (by simp [hd]), hh e (by simp)⟩
    · intro hh d hd
      rcases List.mem_append.1 hd with hd | hd
      · exact hh.1 d hd
      · rw [List.mem_singleton.1 hd]; exact hh.2
  · rw [wsz_snoc]; rfl

/-- A type without arguments is passed by. -/
theorem ScN.skip {x : Fx} {q : Bool} {W : World} {ea ea' : Option Addr} {len tot i : Nat} {st : List Ent} {vl vr : Value} {Bs : List Nat} {k ix : Int} {nm : ByteArray} {a : Option Addr} {c : Nat} {r : Fo} {k' ix' : Int} {nm' : ByteArray} {a' : Option Addr} {c' : Nat} {r' : Fo} {wr : World}
    (h : ScN x q W ea ea' len tot i st vl vr Bs (.cons k ix nm a c .nil r) (.cons k' ix' nm' a' c' .nil r') wr) (hk : k = k' ∧ ix = ix' ∧ nm = nm') : ScN x q W ea ea' len tot (i + 1) st vl vr Bs r r' wr := by
  have h1 := h.l1
  have h2 := h.l2
  have h3 := h.sz
  have h4 := h.sm
  have h5 := h.sc
  simp only [Fo.len] at h1 h2
  simp only [Fo.size] at h3
  have e1 : (Fo.cons k ix nm a c .nil r).inn = r.inn := by cases a <;> simp [Fo.inn, Fo.len, blk]
  have e2 : (Fo.cons k' ix' nm' a' c' .nil r').inn = r'.inn := by cases a' <;> simp [Fo.inn, Fo.len, blk]
  rw [e1, e2] at h5
  refine ⟨by omega, by omega, h5, fun _ => ?_, fun _ => ?_, ?_, by omega, h.le, h.be⟩
  · obtain ⟨b, o, g1, g2, g3⟩ := h.r1 (by simp [Fo.len])
    refine ⟨b, o, g1, g2, ?_⟩
    have e : o + (i + 1) * 4 = o + i * 4 + 4 := by omega
    rw [e]
    exact g3.2.2.2.2.2.2.2.2.2.2
  · obtain ⟨b, o, g1, g2, g3⟩ := h.r2 (by simp [Fo.len])
    refine ⟨b, o, g1, g2, ?_⟩
    have e : o + (i + 1) * 4 = o + i * 4 + 4 := by omega
    rw [e]
    exact g3.2.2.2.2.2.2.2.2.2.2
  · rw [h4, sim_cons]
    simp [hk, Fo.sim]

/-- The arguments of two types wait, too. -/
theorem ScN.push {x : Fx} {q : Bool} {W : World} {ea ea' : Option Addr} {len tot i : Nat} {st : List Ent} {vl vr vl' vr' : Value} {Bs : List Nat} {k ix : Int} {nm : ByteArray} {b1 o1 : Nat} {c : Nat} {ks r : Fo} {k' ix' : Int} {nm' : ByteArray} {a' : Option Addr} {c' : Nat} {ks' r' : Fo} {wr wz : World}
    (h : ScN x q W ea ea' len tot i st vl vr Bs (.cons k ix nm (some ⟨b1, o1, none⟩) c ks r) (.cons k' ix' nm' a' c' ks' r') wr) (hk : k = k' ∧ ix = ix' ∧ nm = nm') (hn : ks.len = ks'.len) (hp : 0 < ks.len)
    (hl : VR 0 wz vl' (st.length + 1) (st.map Ent.lv ++ [.slice (some ⟨b1, o1, none⟩) ks.len c])) (hr : VR 0 wz vr' (st.length + 1) (st.map Ent.rv ++ [.slice a' ks'.len c']))
    (hlo : ∀ d, vl'.ownBlock = some d → d = x.p ∨ x.W3.heap.size ≤ d) (hro : ∀ d, vr'.ownBlock = some d → d = x.p' ∨ x.W3.heap.size ≤ d) (hne : ∀ d, vl'.ownBlock = some d → vr'.ownBlock ≠ some d)
    (hm : LM wz x.M (b1 :: Bs)) (hkp : Kept (fun c => c ≠ x.M ∧ c ≠ x.p ∧ c ≠ x.p') x.W3 wz) (hbe : Below W.heap.size W wz) :
    ScN x q W ea ea' len tot (i + 1) (st ++ [⟨some ⟨b1, o1, none⟩, c, ks, a', c', ks'⟩]) vl' vr' (b1 :: Bs) r r' wz := by
  have h1 := h.l1
  have h2 := h.l2
  have h3 := h.sz
  have h4 := h.sm
  simp only [Fo.len] at h1 h2
  simp only [Fo.size] at h3
  have e1 : (Fo.cons k ix nm (some ⟨b1, o1, none⟩) c ks r).inn = b1 :: (ks.inn ++ r.inn) := by simp [Fo.inn, blk_pos hp]
  have e2 : ∀ d, d ∈ ks'.inn ++ r'.inn → d ∈ (Fo.cons k' ix' nm' a' c' ks' r').inn := fun d hd => by
    simp only [Fo.inn, List.mem_append] at hd ⊢
    rcases hd with hd | hd
    · exact .inl (.inr hd)
    · exact .inr hd
  obtain ⟨b, o, g1, g2, g3⟩ := h.r1 (by simp [Fo.len])
  obtain ⟨b', o', g1', g2', g3'⟩ := h.r2 (by simp [Fo.len])
  have ez := ks.len_le
  have hle := h.le
  refine ⟨by omega, by omega, ⟨by simpa [Ent.lv] using hl, by simpa [Ent.rv] using hr, hlo, hro, hne, hm, hkp, fun d hd => ?_, ?_, fun d hd => h.sc.lv d ?_, fun d hd => h.sc.rv d ?_⟩, fun _ => ⟨b, o, g1, g2, ?_⟩, fun _ => ⟨b', o', g1', g2', ?_⟩, ?_, ?_, ?_, hbe⟩
  · rcases List.mem_append.1 hd with hd | hd
    · exact h.sc.en d hd
    · rw [List.mem_singleton.1 hd]
      exact ⟨⟨g3.2.2.2.2.2.2.2.1, g3.2.2.2.2.2.2.2.2.1, g3.2.2.2.2.2.2.2.2.2.1⟩, ⟨g3'.2.2.2.2.2.2.2.1, g3'.2.2.2.2.2.2.2.2.1, g3'.2.2.2.2.2.2.2.2.2.1⟩, hn, hp⟩
  · have hd := h.sc.nd
    rw [e1] at hd
    have hp : (Bs ++ (b1 :: (ks.inn ++ r.inn)) ++ winn st).Perm (b1 :: Bs ++ r.inn ++ winn (st ++ [⟨some ⟨b1, o1, none⟩, c, ks, a', c', ks'⟩])) := by
      simp only [winn, List.flatMap_append, List.flatMap_cons, List.flatMap_nil, List.append_nil, List.append_assoc, List.cons_append]
      refine List.perm_middle.trans (List.Perm.cons _ (List.Perm.append_left _ ?_))
      refine (List.perm_append_comm_assoc _ _ _).trans (List.Perm.append_left _ ?_)
      exact List.perm_append_comm
    exact hp.nodup_iff.1 hd
  · rw [e1]
    simp only [winn, List.flatMap_append, List.flatMap_cons, List.flatMap_nil, List.append_nil, List.mem_append, List.mem_cons] at hd ⊢
    rcases hd with ((hd | hd) | hd) | (hd | hd)
    · exact .inl (.inr (.inl hd))
    · exact .inl (.inl hd)
    · exact .inl (.inr (.inr (.inr hd)))
    · exact .inr hd
    · exact .inl (.inr (.inr (.inl hd)))
  · simp only [winn', List.flatMap_append, List.flatMap_cons, List.flatMap_nil, List.append_nil, List.mem_append] at hd ⊢
    rcases hd with hd | (hd | hd)
    · exact .inl (e2 d (by simp [hd]))
    · exact .inr hd
    · exact .inl (e2 d (by simp [hd]))
  · have e : o + (i + 1) * 4 = o + i * 4 + 4 := by omega
    rw [e]
    exact g3.2.2.2.2.2.2.2.2.2.2
  · have e : o' + (i + 1) * 4 = o' + i * 4 + 4 := by omega
    rw [e]
    exact g3'.2.2.2.2.2.2.2.2.2.2
  · rw [h4, sim_cons]
    constructor
    · rintro ⟨s1, -, -, -, s5, s6⟩
      refine ⟨fun d hd => ?_, s6⟩
      rcases List.mem_append.1 hd with hd | hd
      · exact s1 d hd
      · rw [List.mem_singleton.1 hd]; exact s5
    · rintro ⟨s1, s2⟩
      exact ⟨fun d hd => s1 d (by simp [hd]), hk.1, hk.2.1, hk.2.2, s1 ⟨some ⟨b1, o1, none⟩, c, ks, a', c', ks'⟩ (by simp), s2⟩
  · rw [wsz_snoc]; show wsz st + ks.size + r.size + (i + 1) = tot; omega
  · rw [wsz_snoc]; show (st ++ [_]).length ≤ wsz st + ks.size; simp; omega

/-- The inner loop ends. -/
theorem ScN.stop {x : Fx} {q : Bool} {W : World} {ea ea' : Option Addr} {len tot i n : Nat} {st : List Ent} {la ra : Option Addr} {lc rc : Nat} {Bs : List Nat} {X' : Fo} {wr : World} (h : ScN x q W ea ea' len tot i st (.slice la n lc) (.slice ra n rc) Bs .nil X' wr) (hn : n = st.length) (htot : tot ≤ 1048577) :
    ScO x q W (.slice la n lc) (.slice ra n rc) wr (tot - len) := by
  subst hn
  have h1 := h.l1
  have h2 := h.l2
  have h3 := h.sz
  simp only [Fo.len, Fo.size] at h1 h3
  have e : X' = .nil := by
    cases X' with
    | nil => rfl
    | cons _ _ _ _ _ _ _ => simp only [Fo.len] at h2; omega
  subst e
  exact ⟨st, la, ra, lc, rc, Bs, rfl, rfl, h.sc, by rw [h.sm]; simp [Fo.sim], by omega, h.le, by omega, h.be⟩

theorem Try.info23 : (Try.prog.info? 23).map (fun i => (i.zero, i.size, i.bytes)) = some (some (.slice none 0 0), 1, 24) := by kernel_rfl

/-- Two rows, each with one more behind it. -/
theorem app2 {A V0 V1 V2 V3 V4 : World} {S : Nat → Prop} {M pl pr : Nat} {vl vr : Value} {n g cap g' cap' : Nat} {L R : List Value} {y y' : Value} {Bs : List Nat}
    (hS : ∀ c, S c → c ≠ M ∧ c ≠ pl ∧ c ≠ pr) (hM : M < A.heap.size ∧ M ≠ pl ∧ M ≠ pr)
    (hl : VR 0 V0 vl n L) (hr : VR 0 V0 vr n R) (lo : ∀ c, vl.ownBlock = some c → c = pl ∨ A.heap.size ≤ c) (ro : ∀ c, vr.ownBlock = some c → c = pr ∨ A.heap.size ≤ c) (ne : ∀ c, vl.ownBlock = some c → vr.ownBlock ≠ some c)
    (hm : LM V0 M Bs) (kp : Kept S A V0) (k1 : Kept (fun _ => True) V0 V1) (hO2 : V2.ownsRow 0 23 1 (.slice (some ⟨g, 0, none⟩) (n + 1) cap) (n + 1) (L ++ [y])) (hG2 : V1.grownBy V2 vl.ownBlock) (at2 : vl.ownBlock = some g ∨ g = V1.heap.size)
    (k3 : Kept (fun _ => True) V2 V3) (hO4 : V4.ownsRow 0 23 1 (.slice (some ⟨g', 0, none⟩) (n + 1) cap') (n + 1) (R ++ [y'])) (hG4 : V3.grownBy V4 vr.ownBlock) (at4 : vr.ownBlock = some g' ∨ g' = V3.heap.size) :
    VR 0 V4 (.slice (some ⟨g, 0, none⟩) (n + 1) cap) (n + 1) (L ++ [y]) ∧ VR 0 V4 (.slice (some ⟨g', 0, none⟩) (n + 1) cap') (n + 1) (R ++ [y']) ∧ (g = pl ∨ A.heap.size ≤ g) ∧ (g' = pr ∨ A.heap.size ≤ g') ∧ g ≠ g' ∧ LM V4 M Bs ∧ Kept S A V4 := by
  have z0 := kp.size
  have z1 := k1.size
  have z3 := k3.size
  have k2 : Kept (fun c => vl.ownBlock ≠ some c) V1 V2 := Kept.grown hG2 (fun k hk h => h hk)
  have k4 : Kept (fun c => vr.ownBlock ≠ some c) V3 V4 := Kept.grown hG4 (fun k hk h => h hk)
  have z2 := k2.size
  have lr : ∀ c, vr.ownBlock = some c → c < V0.heap.size := fun c hc => (hr.lt c hc).2
  have ll : ∀ c, vl.ownBlock = some c → c < V0.heap.size := fun c hc => (hl.lt c hc).2
  have lg : g < V2.heap.size := (World.ownsRow.lt hO2 g rfl).2
  have nL : L.length = n := hl.2.symm
  have nR : R.length = n := hr.2.symm
  have gr : vr.ownBlock ≠ some g := by
    rcases at2 with h | h
    · exact ne g h
    · intro h2; have := lr g h2; omega
  have v2 : VR 0 V2 (.slice (some ⟨g, 0, none⟩) (n + 1) cap) (n + 1) (L ++ [y]) := ⟨hO2, by simp [nL]⟩
  have v4 : VR 0 V4 (.slice (some ⟨g', 0, none⟩) (n + 1) cap') (n + 1) (R ++ [y']) := ⟨hO4, by simp [nR]⟩
  refine ⟨(v2.kept k3 (fun _ _ => trivial)).kept k4 (fun c hc => ?_), v4, ?_, ?_, ?_, ?_, ?_⟩
  · cases hc; exact gr
  · rcases at2 with h | h
    · exact lo g h
    · right; omega
  · rcases at4 with h | h
    · exact ro g' h
    · right; omega
  · rintro rfl
    rcases at4 with h | h
    · exact gr h
    · omega
  · have m1 : vl.ownBlock ≠ some M := fun h => by rcases lo M h with h | h <;> omega
    have m2 : vr.ownBlock ≠ some M := fun h => by rcases ro M h with h | h <;> omega
    exact (((hm.kept k1 trivial).kept k2 m1).kept k3 trivial).kept k4 m2
  · have q0 : Kept (fun c => S c ∧ c < A.heap.size) A V0 := kp.mono (fun _ _ h => h.1)
    have q1 : Kept (fun c => S c ∧ c < A.heap.size) V0 V1 := k1.mono (fun _ _ _ => trivial)
    have q2 : Kept (fun c => S c ∧ c < A.heap.size) V1 V2 := k2.mono (fun c _ h e => by
      have h2 := hS c h.1
      rcases lo c e with h | h <;> omega)
    have q3 : Kept (fun c => S c ∧ c < A.heap.size) V2 V3 := k3.mono (fun _ _ _ => trivial)
    have q4 : Kept (fun c => S c ∧ c < A.heap.size) V3 V4 := k4.mono (fun c _ h e => by
      have h2 := hS c h.1
      rcases ro c e with h | h <;> omega)
    exact ((((q0.trans q1).trans q2).trans q3).trans q4).mono (fun c hc h => ⟨h, hc⟩)

theorem ptr_eqn {w : World} {a b : Addr} (hne : a.block ≠ b.block) (ha : LiveB w a.block) (hb : LiveB w b.block) (dd : Nat) : (Op.equalIn (dd + 1) 74 (.pointer (some a)) (.pointer (some b))).run Try.prog w = .ok false w := by
  have h := sameAddr_ne (P := Try.prog) hne ha hb
  simp [go_sem, Op.equalIn, h]

theorem ptr_neq {w : World} {a b : Addr} (hne : a.block ≠ b.block) (ha : LiveB w a.block) (hb : LiveB w b.block) : (binOp .neq 74 (.pointer (some a)) (.pointer (some b))).run Try.prog w = .ok (.bool true) w := by
  have h := ptr_eqn hne ha hb 9999
  have h2 : (Op.equal 74 (.pointer (some a)) (.pointer (some b))).run Try.prog w = .ok false w := h
  unfold binOp
  simp [go_sem, h2]

/-- A row grows, and what was kept is kept. -/
theorem grow_kept {A V0 V1 V2 : World} {S T : Nat → Prop} {v : Value} (hS : ∀ c, T c → S c) (lo : ∀ c, v.ownBlock = some c → ¬ T c ∨ A.heap.size ≤ c) (kp : Kept S A V0) (k1 : Kept (fun _ => True) V0 V1) (k2 : Kept (fun c => v.ownBlock ≠ some c) V1 V2) : Kept T A V2 := by
  have q0 : Kept (fun c => T c ∧ c < A.heap.size) A V0 := kp.mono (fun _ _ h => hS _ h.1)
  have q1 : Kept (fun c => T c ∧ c < A.heap.size) V0 V1 := k1.mono (fun _ _ _ => trivial)
  have q2 : Kept (fun c => T c ∧ c < A.heap.size) V1 V2 := k2.mono (fun c _ h e => by
    rcases lo c e with h2 | h2
    · exact h2 h.1
    · omega)
  exact ((q0.trans q1).trans q2).mono (fun c hc h => ⟨h, hc⟩)

end Go.Proofs.Ytanjgmmkodlffaa
