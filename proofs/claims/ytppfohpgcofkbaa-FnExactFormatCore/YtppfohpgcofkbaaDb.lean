import Derived.Test.YtppfohpgcofkbaaDa
import Derived.Test.YtppfohpgcofkbaaIt
import Derived.Maps.AppendAt
namespace Go.Proofs.Ytppfohpgcofkbaa
open Go.RowKit Go.Shelf Go.Joins

attribute [local go_sem] Oper.semAt_some

theorem wpListIn_append_at {F : Fence} {n : Nat} {P : Program} (w : World) {ops : Array Oper} {rest : List Oper} {o : Oper} {a : Act} {Q : Exit → Act → World → Prop}
    (hg : o.guard = none) (s x : Operand) (t : TypeId) (hop : o.op = Op.call { callee := Callee.builtin Builtin.append, args := #[s, x], argTypes := #[t, t] })
    (base : Nat) (e : TypeId) (i : TypeInfo) (z : Value) (size bytes : Nat) (h1 : P.underlying t = some (.slice e)) (h2 : P.info? e = some i) (h3 : i.zero = some z) (h4 : i.size = size) (h5 : i.bytes = bytes) (h6 : z.cells.size = size) (h7 : 0 < size)
    (v : Value) (k : Nat) (xs : List Value) (hs : a.eval s = v) (hown : w.ownsRow base e size v k xs) (ad : Addr) (m c : Nat) (news : List Value) (hx : a.eval x = .slice (some ad) m c) (hn : news.length = m * size)
    (hc : ∀ j u, news[j]? = some u → w.cell? (ad.add j) = some u) (h1c : ∀ u ∈ news, u.oneCell' = true) (b1 : k + m ≤ maxLen) (b2 : (k + m) * bytes ≤ 140737488355328) (b3 : base ≤ w.heap.size)
    (hK : ∀ v' w', w'.ownsRow base e size v' (k + m) (xs ++ news) → w.grownBy w' v.ownBlock → (v' = .slice none 0 0 ↔ v = .slice none 0 0 ∧ m = 0) → (v'.ownBlock = v.ownBlock ∨ v'.ownBlock = some w.heap.size) → wpListIn F n P ops Q rest (a.put o.dst v') w') :
    wpListIn F n P ops Q (o :: rest) a w := by
  refine wpListIn_plain hg fun K hK' => ?_
  obtain ⟨v', w', hrun, r1, r2, r3, r4⟩ := run_append_own_at (P := P) w base t o.type e i z size bytes h1 h2 h3 h4 h5 h6 h7 v k xs hown ad m c news hn hc h1c b1 b2 b3
  unfold Oper.wpIn
  refine ⟨?_, ?_⟩
  · simp [Oper.about, hop, resolve, Target.leads, Sem.run_pure]
  · rw [Oper.semAt_plain F _ _ (by rw [hop]; intro c hc'; cases hc')]
    simp [execOp, hop, resolve, invoke, builtin, hs, hx, hrun, Result.andThen]
    exact hK' _ _ (hK v' w' r1 r2 r3 r4)

def ndsz (L : List Nd) : Nat := (L.map (fun d => d.x.size)).sum

theorem itK_sz (b : Nat) : ∀ (m : Nat) (F : Fo) (o : Nat), F.size ≤ m → ndsz (itK b o F) ≤ F.size := by
  intro m
  induction m with
  | zero =>
    intro F o h
    cases F with
    | nil => simp [itK, ndsz]
    | v _ _ => simp [Fo.size] at h
    | s _ _ _ _ _ => simp [Fo.size] at h
  | succ m ih =>
    intro F o h
    unfold itK
    split
    · rename_i k nm mn a1 n1 c1 lk a2 n2 c2 nk a3 n3 c3 kk a4 n4 c4 ak r
      simp only [Fo.size] at h
      have h3 := ih r (o + 7) (by omega)
      simp only [ndsz, List.map_cons, List.sum_cons, Fo.size] at h3 ⊢
      omega
    · exact Nat.zero_le _

theorem itA_sz (b : Nat) : ∀ (m : Nat) (F : Fo) (o : Nat), F.size ≤ m → ndsz (itA b o F) ≤ F.size := by
  intro m
  induction m with
  | zero =>
    intro F o h
    cases F with
    | nil => simp [itA, ndsz]
    | v _ _ => simp [Fo.size] at h
    | s _ _ _ _ _ => simp [Fo.size] at h
  | succ m ih =>
    intro F o h
    unfold itA
    split
    · rename_i con a0 n0 c0 ck k nm mn a1 n1 c1 lk a2 n2 c2 nk a3 n3 c3 kk a4 n4 c4 ak r
      simp only [Fo.size] at h
      have h3 := ih r (o + 9) (by omega)
      simp only [ndsz, List.map_cons, List.sum_cons, Fo.size] at h3 ⊢
      omega
    · exact Nat.zero_le _

theorem ndsz_app (L M : List Nd) : ndsz (L ++ M) = ndsz L + ndsz M := by simp [ndsz]

theorem Nd.kids_sz (d : Nd) : (d.kids = [] ∨ ndsz d.kids < d.x.size) := by
  unfold Nd.kids
  split
  · rename_i k nm mn a1 n1 c1 lk a2 n2 c2 nk ka n3 c3 kk aa n4 c4 ak r he
    refine .inr ?_
    rw [ndsz_app]
    have h1 : ndsz (atK ka kk) ≤ kk.size := by
      unfold atK
      split
      · exact itK_sz _ kk.size kk _ (Nat.le_refl _)
      · exact Nat.zero_le _
    have h2 : ndsz (atA aa ak) ≤ ak.size := by
      unfold atA
      split
      · exact itA_sz _ ak.size ak _ (Nat.le_refl _)
      · exact Nat.zero_le _
    rw [he]
    simp only [Fo.size]
    omega
  · exact .inl rfl

theorem nd_le {L : List Nd} {d : Nd} (h : d ∈ L) : d.x.size ≤ ndsz L := by
  induction L with
  | nil => exact absurd h List.not_mem_nil
  | cons a l ih =>
    simp only [ndsz, List.map_cons, List.sum_cons]
    rcases List.mem_cons.1 h with rfl | h
    · omega
    · have := ih h
      simp only [ndsz] at this
      omega

/-- Terms in the order in which they are told, with their depths. -/
def preL : List Nd → Nat → List (Nat × Nd)
  | [], _ => []
  | x :: xs, d => (d, x) :: (preL x.kids (d + 1) ++ preL xs d)
termination_by L _ => (ndsz L, L.length)
decreasing_by
  · have h := x.kids_sz
    rcases h with h | h
    · rw [h]
      by_cases hz : 0 < ndsz (x :: xs)
      · exact Prod.Lex.left _ _ (by simpa [ndsz] using hz)
      · have e : ndsz (x :: xs) = 0 := by omega
        rw [e]
        exact Prod.Lex.right _ (by simp)
    · refine Prod.Lex.left _ _ ?_
      simp only [ndsz, List.map_cons, List.sum_cons] at h ⊢
      omega
  · by_cases hz : 0 < x.x.size
    · refine Prod.Lex.left _ _ ?_
      simp only [ndsz, List.map_cons, List.sum_cons]
      omega
    · have e : ndsz (x :: xs) = ndsz xs := by simp only [ndsz, List.map_cons, List.sum_cons]; omega
      rw [e]
      exact Prod.Lex.right _ (by simp)

theorem preL_nil (d : Nat) : preL [] d = [] := by rw [preL]
theorem preL_cons (x : Nd) (xs : List Nd) (d : Nat) : preL (x :: xs) d = (d, x) :: (preL x.kids (d + 1) ++ preL xs d) := by rw [preL]

/-- A level of the stack: where its terms to come lie. -/
structure Lev where
  a : Option Addr
  cap : Nat
  L : List Nd

def Lev.val (l : Lev) : Value := .slice l.a l.L.length l.cap

/-- What is to come. -/
def flat : List Lev → List (Nat × Nd)
  | [] => []
  | l :: st => preL l.L (st.length + 1) ++ flat st

structure Lev.Ok (W : World) (O : Nat → Prop) (l : Lev) : Prop where
  le : l.L.length ≤ l.cap
  mx : l.cap ≤ maxLen
  at_ : 0 < l.L.length → ∃ b o, l.a = some ⟨b, o, none⟩ ∧ O b ∧ ∀ i d, l.L[i]? = some d → W.cell? ⟨b, o + i, none⟩ = some d.ptr

theorem Lev.Ok.kept {A B : World} {O S : Nat → Prop} {l : Lev} (h : l.Ok A O) (k : Kept S A B) (hO : ∀ b, O b → S b ∧ b < A.heap.size) : l.Ok B O :=
  ⟨h.le, h.mx, fun hl => by
    obtain ⟨b, o, e, hb, hc⟩ := h.at_ hl
    exact ⟨b, o, e, hb, fun i d hd => (k.cell (p := ⟨b, o + i, none⟩) (hO b hb).2 (hO b hb).1).trans (hc i d hd)⟩⟩

theorem Lev.Ok.mono {A : World} {O P : Nat → Prop} {l : Lev} (h : l.Ok A O) (hO : ∀ b, O b → P b) : l.Ok A P :=
  ⟨h.le, h.mx, fun hl => by
    obtain ⟨b, o, e, hb, hc⟩ := h.at_ hl
    exact ⟨b, o, e, hO b hb, hc⟩⟩

/-- The k-th round's arguments. -/
def encsOf (L : List (Nat × Nd)) (k : Nat) : Array Value := #[.int .i64 ((L.getD k (0, ⟨0, 0, .nil⟩)).1 : Int), (L.getD k (0, ⟨0, 0, .nil⟩)).2.ptr]

/-- A stack in memory: top first. -/
structure Stk (W : World) (B g cap : Nat) (st : List Lev) : Prop where
  own : W.ownsRow B 93 1 (.slice (some ⟨g, 0, none⟩) st.length cap) st.length (st.map Lev.val).reverse

theorem Stk.top {W : World} {B g cap : Nat} {l : Lev} {st : List Lev} (h : Stk W B g cap (l :: st)) : W.cell? ⟨g, st.length, none⟩ = some l.val := by
  have := h.own.cellAt st.length (by simp)
  rw [this]
  simp

theorem Stk.pop {W : World} {B g cap : Nat} {l : Lev} {st : List Lev} (h : Stk W B g cap (l :: st)) : Stk W B g cap st := by
  obtain ⟨h1, h2⟩ := h.own
  refine ⟨by simp, .inr ?_⟩
  rcases h2 with ⟨h', _⟩ | ⟨g', cap', cur, h', hb, hg, hnc, hcm, hcs, htake⟩
  · simp at h'
  · simp only [Value.slice.injEq, Option.some.injEq, Addr.mk.injEq, and_true, true_and] at h'
    obtain ⟨rfl, rfl⟩ := h'
    refine ⟨g, cap, cur, rfl, hb, hg, by simp at hnc; omega, hcm, hcs, ?_⟩
    simp only [List.map_cons, List.reverse_cons, List.length_cons, Nat.mul_one] at htake ⊢
    have := congrArg (List.take st.length) htake
    rw [List.take_take, Nat.min_eq_left (by omega)] at this
    rw [this]
    simp

theorem Stk.set {W : World} {B g cap : Nat} {l l' : Lev} {st : List Lev} (h : Stk W B g cap (l :: st)) : Stk (W.setCell ⟨g, st.length, none⟩ l'.val) B g cap (l' :: st) := by
  have := (h.own.stored st.length l'.val).1
  refine ⟨?_⟩
  simp only [List.length_cons, List.map_cons, List.reverse_cons] at this ⊢
  have e : ((st.map Lev.val).reverse ++ [l.val]).set st.length l'.val = (st.map Lev.val).reverse ++ [l'.val] := by
    rw [List.set_append_right _ _ (by simp)]
    simp
  rw [e] at this
  exact this

theorem Stk.frozen {W : World} {B g cap : Nat} {st : List Lev} (h : Stk W B g cap st) (j : Nat) : W.frozen? ⟨g, j, none⟩ = false := by
  rcases h.own.2 with ⟨h', _⟩ | ⟨g', cap', cur, h', hb, hg, hnc, hcm, hcs, htake⟩
  · simp at h'
  · simp only [Value.slice.injEq, Option.some.injEq, Addr.mk.injEq, and_true, true_and] at h'
    obtain ⟨rfl, rfl⟩ := h'
    simp [World.frozen?, hg]

theorem Stk.nb {W : World} {B g cap : Nat} {st : List Lev} (h : Stk W B g cap st) : NB W g := by
  rcases h.own.2 with ⟨h', _⟩ | ⟨g', cap', cur, h', hb, hg, hnc, hcm, hcs, htake⟩
  · simp at h'
  · simp only [Value.slice.injEq, Option.some.injEq, Addr.mk.injEq, and_true, true_and] at h'
    obtain ⟨rfl, rfl⟩ := h'
    exact NB.cells hg (by decide)

theorem Stk.lt {W : World} {B g cap : Nat} {st : List Lev} (h : Stk W B g cap st) : B ≤ g ∧ g < W.heap.size := h.own.lt g rfl

theorem Stk.kept {A C : World} {B g cap : Nat} {st : List Lev} {S : Nat → Prop} (h : Stk A B g cap st) (k : Kept S A C) (hg : S g) : Stk C B g cap st :=
  ⟨ownsRow_kept h.own k (fun c hc => by have e : g = c := Option.some.inj hc; exact e ▸ hg)⟩

theorem Stk.room {W : World} {B g cap : Nat} {st : List Lev} (h : Stk W B g cap st) : st.length ≤ cap ∧ cap ≤ maxLen := by
  rcases h.own.2 with ⟨h', _⟩ | ⟨g', cap', cur, h', hb, hg, hnc, hcm, hcs, htake⟩
  · simp at h'
  · simp only [Value.slice.injEq, Option.some.injEq, Addr.mk.injEq, and_true, true_and] at h'
    obtain ⟨rfl, rfl⟩ := h'
    exact ⟨hnc, hcm⟩

theorem exists_least {p : Nat → Prop} : ∀ n, p n → ∃ m, p m ∧ ∀ k, p k → m ≤ k := by
  intro n
  induction n using Nat.strongRecOn with
  | ind n ih =>
    intro h
    by_cases hx : ∃ k, k < n ∧ p k
    · obtain ⟨k, hk, hp⟩ := hx
      exact ih k hk hp
    · exact ⟨n, h, fun k hk => Decidable.byContradiction fun hc => hx ⟨k, by omega, hk⟩⟩

open Classical in
/-- The least number of a kind. -/
noncomputable def least (p : Nat → Prop) : Nat := if h : ∃ m, p m ∧ ∀ k, p k → m ≤ k then Classical.choose h else 0

theorem least_spec {p : Nat → Prop} (h : ∃ n, p n) : p (least p) := by
  obtain ⟨n, hn⟩ := h
  unfold least
  rw [dif_pos (exists_least n hn)]
  exact (Classical.choose_spec (exists_least n hn)).1

theorem least_le {p : Nat → Prop} {n : Nat} (h : p n) : least p ≤ n := by
  unfold least
  rw [dif_pos (exists_least n h)]
  exact (Classical.choose_spec (exists_least n h)).2 n h

/-- A row of pointers of its own, as a level. -/
theorem lev_of {W : World} {B : Nat} {a : Option Addr} {c : Nat} {L : List Nd} (h : W.ownsRow B 57 1 (.slice a L.length c) L.length (L.map Nd.ptr)) : Lev.Ok W (fun b => (Value.slice a L.length c).ownBlock = some b) ⟨a, c, L⟩ ∧ ∀ b, (Value.slice a L.length c).ownBlock = some b → NB W b ∧ B ≤ b := by
  rcases h.2 with ⟨h1, h2⟩ | ⟨g, cap, cur, h1, hb, hg, hnc, hcm, hcs, ht⟩
  · simp only [Value.slice.injEq] at h1
    obtain ⟨rfl, hl0, rfl⟩ := h1
    refine ⟨⟨by show L.length ≤ _; omega, Nat.zero_le _, fun hl => ?_⟩, fun b hb => by cases hb⟩
    have hl' : 0 < L.length := hl
    omega
  · simp only [Value.slice.injEq, true_and] at h1
    obtain ⟨rfl, rfl⟩ := h1
    refine ⟨⟨hnc, hcm, fun _ => ⟨g, 0, rfl, rfl, fun i d hd => ?_⟩⟩, fun b hb' => ?_⟩
    · have h2 := h.cells (g := g) rfl i d.ptr (by rw [List.getElem?_map, hd]; rfl)
      rwa [addr_add] at h2
    · have e : g = b := Option.some.inj hb'
      subst e
      exact ⟨NB.cells hg (by decide), hb⟩

theorem Try.info93 : (Try.prog.info? 93).map (fun i => (i.zero, i.size, i.bytes)) = some (some (.slice none 0 0), 1, 24) := by kernel_rfl

end Go.Proofs.Ytppfohpgcofkbaa
