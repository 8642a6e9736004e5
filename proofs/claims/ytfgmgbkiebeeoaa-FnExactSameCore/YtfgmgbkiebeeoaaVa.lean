import Derived.Lib.SmallJoins
namespace Go.Proofs.Ytfgmgbkiebeeoaa
open Go.RowKit Go.Joins

/-- A sum of n numbers from one on. -/
def psum (s : Nat → Nat) (f : Nat) : Nat → Nat
  | 0 => 0
  | n + 1 => psum s f n + s (f + n)

theorem psum_le (s : Nat → Nat) (f : Nat) {n m : Nat} (h : n ≤ m) : psum s f n ≤ psum s f m := by
  induction h with
  | refl => exact Nat.le_refl _
  | step _ ih => exact Nat.le_trans ih (Nat.le_add_right _ _)

/-- What is to be measured: lists of terms by their numbers, terms with two lists each, and how much there is in a term. -/
structure Gr where
  nl : Nat
  nt : Nat
  fst : Nat → Nat
  cnt : Nat → Nat
  pl : Nat → Nat
  ql : Nat → Nat
  sT : Nat → Nat

def Gr.sL (g : Gr) (l : Nat) : Nat := psum g.sT (g.fst l) (g.cnt l)

structure Gr.Ok (g : Gr) : Prop where
  bnd : ∀ l, l < g.nl → g.fst l + g.cnt l ≤ g.nt
  pq : ∀ k, k < g.nt → g.pl k < g.nl ∧ g.ql k < g.nl
  sz : ∀ k, k < g.nt → g.sT k = 1 + g.sL (g.pl k) + g.sL (g.ql k)
  top : ∀ l, l < g.nl → g.sL l ≤ 1000000000
  lim : g.nl ≤ 10000000 ∧ g.nt ≤ 10000000

theorem Gr.part (g : Gr) {l n : Nat} (h : n < g.cnt l) : psum g.sT (g.fst l) n + g.sT (g.fst l + n) ≤ g.sL l := psum_le g.sT (g.fst l) (n := n + 1) h

/-- Lists that are open: each in a term of the one below it. -/
def Gr.Chn (g : Gr) : List (Nat × Nat) → Prop
  | [] => True
  | [_] => True
  | x :: y :: r => (y.2 < g.cnt y.1 ∧ g.sL x.1 < g.sT (g.fst y.1 + y.2)) ∧ g.Chn (y :: r)

theorem Gr.chn_tail (g : Gr) {x : Nat × Nat} {r : List (Nat × Nat)} (h : g.Chn (x :: r)) : g.Chn r := by
  cases r with
  | nil => trivial
  | cons y r => exact h.2

theorem Gr.chn_lt (g : Gr) : ∀ (r : List (Nat × Nat)) (x : Nat × Nat), g.Chn (x :: r) → ∀ e ∈ r, g.sL x.1 < g.sL e.1
  | [], _, _, e, he => by cases he
  | y :: r, x, h, e, he => by
    have h1 : g.sL x.1 < g.sL y.1 := by have := g.part h.1.1; have := h.1.2; omega
    rcases List.mem_cons.1 he with rfl | he
    · exact h1
    · have := g.chn_lt r y h.2 e he
      omega

/-- What is known while lists are measured. T, L: what is noted of terms and lists (-1: nothing). -/
structure Gr.MI (g : Gr) (T L : Nat → Int) (st : List (Nat × Nat)) : Prop where
  tOk : ∀ k, k < g.nt → T k = -1 ∨ T k = g.sT k
  lOk : ∀ l, l < g.nl → L l = -1 ∨ L l = g.sL l ∨ l ∈ st.map Prod.fst
  op : ∀ e ∈ st, e.1 < g.nl ∧ e.2 ≤ g.cnt e.1
  ch : g.Chn st

def upd (f : Nat → Int) (i : Nat) (v : Int) : Nat → Int := fun j => if j = i then v else f j
theorem upd_same (f : Nat → Int) (i : Nat) (v : Int) : upd f i v i = v := if_pos rfl
theorem upd_ne (f : Nat → Int) {i j : Nat} (v : Int) (h : j ≠ i) : upd f i v j = f j := if_neg h

section
variable {g : Gr} {T L : Nat → Int} {st : List (Nat × Nat)}

theorem Gr.MI.distinct (h : g.MI T L st) : (st.map Prod.fst).Nodup := by
  have hc := h.ch
  clear h
  induction st with
  | nil => exact List.nodup_nil
  | cons x r ih =>
    rw [List.map_cons, List.nodup_cons]
    refine ⟨fun hm => ?_, ih (g.chn_tail hc)⟩
    obtain ⟨e, he, e1⟩ := List.mem_map.1 hm
    have := g.chn_lt r x hc e he
    rw [e1] at this
    omega

/-- The list is done. -/
theorem Gr.MI.pop {l n : Nat} (h : g.MI T L ((l, n) :: st)) (hn : n = g.cnt l) : g.MI T (upd L l (psum g.sT (g.fst l) n)) st := by
  refine ⟨h.tOk, fun j hj => ?_, fun e he => h.op e (List.mem_cons_of_mem _ he), g.chn_tail h.ch⟩
  by_cases hjl : j = l
  · subst hjl
    rw [upd_same]
    exact .inr (.inl (by rw [hn]; rfl))
  · rw [upd_ne _ _ hjl]
    rcases h.lOk j hj with h1 | h1 | h1
    · exact .inl h1
    · exact .inr (.inl h1)
    · rcases List.mem_cons.1 h1 with e | e
      · exact absurd e hjl
      · exact .inr (.inr e)

/-- A list of a term of the list at hand is not open. -/
theorem Gr.MI.closed {l n p : Nat} (ho : g.Ok) (h : g.MI T L ((l, n) :: st)) (hn : n < g.cnt l) (hp : p = g.pl (g.fst l + n) ∨ p = g.ql (g.fst l + n)) : p < g.nl ∧ g.sL p < g.sT (g.fst l + n) ∧ (L p = -1 ∨ L p = g.sL p) := by
  have hl := (h.op (l, n) List.mem_cons_self).1
  have hk : g.fst l + n < g.nt := by have := ho.bnd l hl; have : n < g.cnt l := hn; omega
  have h1 := ho.pq _ hk
  have h2 := ho.sz _ hk
  have hpn : p < g.nl := by rcases hp with rfl | rfl <;> omega
  have hs : g.sL p < g.sT (g.fst l + n) := by rcases hp with rfl | rfl <;> omega
  refine ⟨hpn, hs, ?_⟩
  rcases h.lOk p hpn with h3 | h3 | h3
  · exact .inl h3
  · exact .inr h3
  · exfalso
    obtain ⟨e, he, e1⟩ := List.mem_map.1 h3
    have h4 := g.part hn
    rcases List.mem_cons.1 he with rfl | he
    · have e1' : l = p := e1
      rw [← e1'] at hs
      omega
    · have := g.chn_lt _ _ h.ch e he
      have h5 : g.sL l < g.sL e.1 := this
      rw [e1] at h5
      omega

/-- A list of the term at hand is opened. -/
theorem Gr.MI.opn {l n p : Nat} (ho : g.Ok) (h : g.MI T L ((l, n) :: st)) (hn : n < g.cnt l) (hp : p = g.pl (g.fst l + n) ∨ p = g.ql (g.fst l + n)) (v : Int) : g.MI T (upd L p v) ((p, 0) :: (l, n) :: st) := by
  obtain ⟨h1, h2, -⟩ := h.closed ho hn hp
  refine ⟨h.tOk, fun j hj => ?_, fun e he => ?_, ⟨⟨hn, h2⟩, h.ch⟩⟩
  · by_cases hjp : j = p
    · exact .inr (.inr (by rw [hjp]; simp))
    · rw [upd_ne _ _ hjp]
      rcases h.lOk j hj with h3 | h3 | h3
      · exact .inl h3
      · exact .inr (.inl h3)
      · exact .inr (.inr (List.mem_cons_of_mem _ h3))
  · rcases List.mem_cons.1 he with rfl | he
    · exact ⟨h1, Nat.zero_le _⟩
    · exact h.op e he

/-- The term at hand is known. -/
theorem Gr.MI.term {l n : Nat} (ho : g.Ok) (h : g.MI T L ((l, n) :: st)) (hn : n < g.cnt l) (hp : L (g.pl (g.fst l + n)) ≠ -1) (hq : L (g.ql (g.fst l + n)) ≠ -1) :
    1 + L (g.pl (g.fst l + n)) + L (g.ql (g.fst l + n)) = g.sT (g.fst l + n) ∧ g.MI (upd T (g.fst l + n) (g.sT (g.fst l + n))) L ((l, n) :: st) := by
  obtain ⟨-, -, h1⟩ := h.closed ho hn (.inl rfl)
  obtain ⟨-, -, h2⟩ := h.closed ho hn (.inr rfl)
  have hl := (h.op (l, n) List.mem_cons_self).1
  have hk : g.fst l + n < g.nt := by have := ho.bnd l hl; have : n < g.cnt l := hn; omega
  have h3 := ho.sz _ hk
  have e1 := h1.resolve_left hp
  have e2 := h2.resolve_left hq
  refine ⟨by rw [e1, e2]; omega, ⟨fun j hj => ?_, h.lOk, h.op, h.ch⟩⟩
  by_cases hj2 : j = g.fst l + n
  · rw [hj2, upd_same]; exact .inr rfl
  · rw [upd_ne _ _ hj2]; exact h.tOk j hj

/-- The next term of the list. -/
theorem Gr.MI.adv {l n : Nat} (h : g.MI T L ((l, n) :: st)) (hn : n < g.cnt l) : g.MI T L ((l, n + 1) :: st) := by
  refine ⟨h.tOk, h.lOk, fun e he => ?_, ?_⟩
  · rcases List.mem_cons.1 he with rfl | he
    · exact ⟨(h.op (l, n) List.mem_cons_self).1, hn⟩
    · exact h.op e (List.mem_cons_of_mem _ he)
  · have hc := h.ch
    cases st with
    | nil => trivial
    | cons y r => exact hc

/-- A list on the ground is opened. -/
theorem Gr.MI.first (h : g.MI T L []) {l : Nat} (hl : l < g.nl) (v : Int) : g.MI T (upd L l v) [(l, 0)] := by
  refine ⟨h.tOk, fun j hj => ?_, fun e he => ?_, trivial⟩
  · by_cases hjl : j = l
    · exact .inr (.inr (by rw [hjl]; simp))
    · rw [upd_ne _ _ hjl]
      rcases h.lOk j hj with h3 | h3 | h3
      · exact .inl h3
      · exact .inr (.inl h3)
      · cases h3
  · rcases List.mem_cons.1 he with rfl | he
    · exact ⟨hl, Nat.zero_le _⟩
    · cases he
end

/-- What is left to do: lists that are not open yet, and what is left of those that are. -/
def Gr.opn (g : Gr) (L : Nat → Int) : Nat → Nat
  | 0 => 0
  | n + 1 => g.opn L n + (if L n = -1 then g.cnt n + 2 else 0)
def Gr.rest (g : Gr) : List (Nat × Nat) → Nat
  | [] => 0
  | (l, n) :: r => (g.cnt l - n + 1) + g.rest r
def Gr.left (g : Gr) (L : Nat → Int) (st : List (Nat × Nat)) : Nat := g.opn L g.nl + g.rest st

theorem Gr.opn_upd (g : Gr) (L : Nat → Int) (p : Nat) (v : Int) (hv : v ≠ -1) : ∀ n, g.opn (upd L p v) n + (if p < n then (if L p = -1 then g.cnt p + 2 else 0) else 0) = g.opn L n
  | 0 => by simp [Gr.opn]
  | n + 1 => by
    have ih := g.opn_upd L p v hv n
    rw [Gr.opn, Gr.opn]
    by_cases h : n = p
    · subst h
      rw [upd_same, if_neg hv, if_pos (Nat.lt_succ_self _)]
      rw [if_neg (Nat.lt_irrefl _)] at ih
      omega
    · rw [upd_ne _ _ h]
      by_cases h2 : p < n
      · rw [if_pos h2] at ih
        have e : (if p < n + 1 then (if L p = -1 then g.cnt p + 2 else 0) else 0) = (if L p = -1 then g.cnt p + 2 else 0) := if_pos (by omega)
        rw [e]
        omega
      · rw [if_neg h2] at ih
        have e : (if p < n + 1 then (if L p = -1 then g.cnt p + 2 else 0) else 0) = 0 := if_neg (by omega)
        rw [e]
        omega

theorem Gr.opn_le (g : Gr) (L : Nat → Int) (p : Nat) (v : Int) (hv : v ≠ -1) (n : Nat) : g.opn (upd L p v) n ≤ g.opn L n := by
  have := g.opn_upd L p v hv n
  omega

theorem Gr.left_pop (g : Gr) (L : Nat → Int) {l n : Nat} {st : List (Nat × Nat)} (v : Int) (hv : v ≠ -1) : g.left (upd L l v) st < g.left L ((l, n) :: st) := by
  have := g.opn_le L l v hv g.nl
  simp only [Gr.left, Gr.rest]
  omega
theorem Gr.left_adv (g : Gr) (L : Nat → Int) {l n : Nat} {st : List (Nat × Nat)} (hn : n < g.cnt l) : g.left L ((l, n + 1) :: st) < g.left L ((l, n) :: st) := by
  simp only [Gr.left, Gr.rest]
  omega
theorem Gr.left_opn (g : Gr) (L : Nat → Int) {p : Nat} {st : List (Nat × Nat)} (v : Int) (hv : v ≠ -1) (hp : p < g.nl) (hL : L p = -1) : g.left (upd L p v) ((p, 0) :: st) < g.left L st := by
  have := g.opn_upd L p v hv g.nl
  rw [if_pos hp, if_pos hL] at this
  simp only [Gr.left, Gr.rest]
  omega
end Go.Proofs.Ytfgmgbkiebeeoaa
