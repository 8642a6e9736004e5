import Derived.Test.YtjlefdalobgdfaaFl
import Derived.Maps.AppendAt
namespace Go.Proofs.Ytjlefdalobgdfaa
open Go.RowKit Go.Shelf Go.Joins

attribute [local go_sem] Oper.semAt_some

theorem wpListIn_append_at {F : Fence} {n : Nat} {P : Program} (w : World) {ops : Array Oper} {rest : List Oper} {o : Oper} {a : Act} {Q : Exit → Act → World → Prop}
    (hg : o.guard = none) (s x : Operand) (t : TypeId) (hop : o.op = Op.call { callee := Callee.builtin Builtin.append, args := #[s, x], argTypes := #[t, t] })
    (base : Nat) (e : TypeId) (i : TypeInfo) (z : Value) (size bytes : Nat) (h1 : P.underlying t = some (.slice e)) (h2 : P.info? e = some i) (h3 : i.zero = some z) (h4 : i.size = size) (h5 : i.bytes = bytes) (h6 : z.cells.size = size) (h7 : 0 < size)
    (v : Value) (k : Nat) (xs : List Value) (hs : a.eval s = v) (hown : w.ownsRow base e size v k xs) (ad : Addr) (m c : Nat) (news : List Value) (hx : a.eval x = .slice (some ad) m c) (hn : news.length = m * size)
    (hc : ∀ j u, news[j]? = some u → w.cell? (ad.add j) = some u) (h1c : ∀ u ∈ news, u.oneCell' = true) (b1 : k + m ≤ maxLen) (b2 : (k + m) * bytes ≤ 140737488355328) (b3 : base ≤ w.heap.size)
    (hK : ∀ v' w', w'.ownsRow base e size v' (k + m) (xs ++ news) → w.grownBy w' v.ownBlock → (v' = .slice none 0 0 ↔ v = .slice none 0 0 ∧ m = 0) → (v'.ownBlock = v.ownBlock ∨ v'.ownBlock = some w.heap.size) → wpListIn F n P ops Q rest (a.put o.dst v') w') :
    wpListIn F n P ops Q (o :: rest) a w := by
  refine wpListIn_plain hg fun K hK' => ?_
  obtain ⟨v', w', hrun, r1, r2, r3, r4⟩ := run_append_own_at (P := P) w base t o.type e i z size bytes h1 h2 h3 h4 h5 h6 h7 v k xs hown ad m c news hn hc h1c b1 b2 b3
  unfold Oper.wpIn
  refine ⟨?_, ?_⟩
  · simp [Oper.about, hop, resolve, Target.leads, Sem.run_pure]
  · rw [Oper.semAt_plain F _ _ (by rw [hop]; intro c hc'; cases hc')]
    simp [execOp, hop, resolve, invoke, builtin, hs, hx, hrun, Result.andThen]
    exact hK' _ _ (hK v' w' r1 r2 r3 r4)


/-- A level of the stack: where its nodes to come lie. -/
structure Lev where
  a : Option Addr
  cap : Nat
  F : Fo

def Lev.val (L : Lev) : Value := .slice L.a L.F.len L.cap

/-- What is to come. -/
def flat : List Lev → List (Nat × Value)
  | [] => []
  | L :: st => L.F.pre (st.length + 1) ++ flat st

def Lev.Ok (W : World) (n0 q : Nat) (L : Lev) : Prop :=
  L.F.len ≤ L.cap ∧ L.cap ≤ maxLen ∧ (0 < L.F.len → ∃ b o, L.a = some ⟨b, o, none⟩ ∧ (b < n0 ∨ b = q) ∧ L.F.Row W (fun c => c < n0) b o)

theorem Lev.Ok.kept {A B : World} {n0 q : Nat} {L : Lev} {S : Nat → Prop} (h : L.Ok A n0 q) (k : Kept S A B) (hn : ∀ b, b < n0 ∨ b = q → S b ∧ b < A.heap.size) : L.Ok B n0 q := by
  refine ⟨h.1, h.2.1, fun hl => ?_⟩
  obtain ⟨b, o, e, hb, hr⟩ := h.2.2 hl
  refine ⟨b, o, e, hb, hr.keep (fun _ x => x) (fun p hp v hv => ?_) (fun j _ _ v hv => ?_)⟩
  · exact (k.cell (hn _ (.inl hp)).2 (hn _ (.inl hp)).1).trans hv
  · exact (k.cell (p := ⟨b, j, none⟩) (hn b hb).2 (hn b hb).1).trans hv

/-- The k-th round's arguments. -/
def encsOf (L : List (Nat × Value)) (k : Nat) : Array Value := #[.int .i64 ((L.getD k (0, undef)).1 : Int), (L.getD k (0, undef)).2]

/-- A stack in memory: top first. -/
structure Stk (W : World) (B g cap : Nat) (st : List Lev) : Prop where
  own : W.ownsRow B 27 1 (.slice (some ⟨g, 0, none⟩) st.length cap) st.length (st.map Lev.val).reverse

theorem Stk.top {W : World} {B g cap : Nat} {L : Lev} {st : List Lev} (h : Stk W B g cap (L :: st)) : W.cell? ⟨g, st.length, none⟩ = some L.val := by
  have := h.own.cellAt st.length (by simp)
  rw [this]
  simp

theorem Stk.pop {W : World} {B g cap : Nat} {L : Lev} {st : List Lev} (h : Stk W B g cap (L :: st)) : Stk W B g cap st := by
  obtain ⟨h1, h2⟩ := h.own
  refine ⟨by simp, .inr ?_⟩
  rcases h2 with ⟨h', _⟩ | ⟨g', cap', cur, h', hb, hg, hnc, hcm, hcs, htake⟩
  · simp at h'
  · simp only [Value.slice.injEq, Option.some.injEq, Addr.mk.injEq, and_true, true_and] at h'
    obtain ⟨rfl, rfl⟩ := h'
    refine ⟨g, cap, cur, rfl, hb, hg, by simp at hnc; omega, hcm, hcs, ?_⟩
    simp only [List.map_cons, List.reverse_cons, List.length_cons, Nat.mul_one] at htake ⊢
    have := congrArg (List.take st.length) htake
    rw [List.take_take, Nat.min_eq_left (by omega)] at this
    rw [this]
    simp

theorem Stk.set {W : World} {B g cap : Nat} {L L' : Lev} {st : List Lev} (h : Stk W B g cap (L :: st)) : Stk (W.setCell ⟨g, st.length, none⟩ L'.val) B g cap (L' :: st) := by
  have := (h.own.stored st.length L'.val).1
  refine ⟨?_⟩
  simp only [List.length_cons, List.map_cons, List.reverse_cons] at this ⊢
  have e : ((st.map Lev.val).reverse ++ [L.val]).set st.length L'.val = (st.map Lev.val).reverse ++ [L'.val] := by
    rw [List.set_append_right _ _ (by simp)]
    simp
  rw [e] at this
  exact this

theorem Stk.frozen {W : World} {B g cap : Nat} {st : List Lev} (h : Stk W B g cap st) (j : Nat) : W.frozen? ⟨g, j, none⟩ = false := by
  rcases h.own.2 with ⟨h', _⟩ | ⟨g', cap', cur, h', hb, hg, hnc, hcm, hcs, htake⟩
  · simp at h'
  · simp only [Value.slice.injEq, Option.some.injEq, Addr.mk.injEq, and_true, true_and] at h'
    obtain ⟨rfl, rfl⟩ := h'
    simp [World.frozen?, hg]

theorem Stk.nb {W : World} {B g cap : Nat} {st : List Lev} (h : Stk W B g cap st) : NB W g := by
  rcases h.own.2 with ⟨h', _⟩ | ⟨g', cap', cur, h', hb, hg, hnc, hcm, hcs, htake⟩
  · simp at h'
  · simp only [Value.slice.injEq, Option.some.injEq, Addr.mk.injEq, and_true, true_and] at h'
    obtain ⟨rfl, rfl⟩ := h'
    exact NB.cells hg (by decide)

theorem Stk.lt {W : World} {B g cap : Nat} {st : List Lev} (h : Stk W B g cap st) : B ≤ g ∧ g < W.heap.size := h.own.lt g rfl

theorem Stk.kept {A C : World} {B g cap : Nat} {st : List Lev} {S : Nat → Prop} (h : Stk A B g cap st) (k : Kept S A C) (hg : S g) : Stk C B g cap st := by
  have hl := h.lt
  obtain ⟨h1, h2⟩ := h.own
  refine ⟨h1, ?_⟩
  rcases h2 with h' | ⟨g', cap', cur, h', hb, hg', hr⟩
  · exact .inl h'
  · have e := h'
    simp only [Value.slice.injEq, Option.some.injEq, Addr.mk.injEq, and_true, true_and] at e
    obtain ⟨rfl, rfl⟩ := e
    exact .inr ⟨g, cap, cur, rfl, hb, (k.block g hl.2 hg).trans hg', hr⟩

theorem Stk.room {W : World} {B g cap : Nat} {st : List Lev} (h : Stk W B g cap st) : st.length ≤ cap ∧ cap ≤ maxLen := by
  rcases h.own.2 with ⟨h', _⟩ | ⟨g', cap', cur, h', hb, hg, hnc, hcm, hcs, htake⟩
  · simp at h'
  · simp only [Value.slice.injEq, Option.some.injEq, Addr.mk.injEq, and_true, true_and] at h'
    obtain ⟨rfl, rfl⟩ := h'
    exact ⟨hnc, hcm⟩

theorem exists_least {p : Nat → Prop} : ∀ n, p n → ∃ m, p m ∧ ∀ k, p k → m ≤ k := by
  intro n
  induction n using Nat.strongRecOn with
  | ind n ih =>
    intro h
    by_cases hx : ∃ k, k < n ∧ p k
    · obtain ⟨k, hk, hp⟩ := hx
      exact ih k hk hp
    · exact ⟨n, h, fun k hk => Decidable.byContradiction fun hc => hx ⟨k, by omega, hk⟩⟩

open Classical in
/-- The least number of a kind. -/
noncomputable def least (p : Nat → Prop) : Nat := if h : ∃ m, p m ∧ ∀ k, p k → m ≤ k then Classical.choose h else 0

theorem least_spec {p : Nat → Prop} (h : ∃ n, p n) : p (least p) := by
  obtain ⟨n, hn⟩ := h
  unfold least
  rw [dif_pos (exists_least n hn)]
  exact (Classical.choose_spec (exists_least n hn)).1

theorem least_le {p : Nat → Prop} {n : Nat} (h : p n) : least p ≤ n := by
  unfold least
  rw [dif_pos (exists_least n h)]
  exact (Classical.choose_spec (exists_least n h)).2 n h

/-- The walk at the head of its loop; m: what is left to do. -/
def NInv (fb : Nat) (J : Nat → (Nat → Prop) → World → Prop) (LL : List (Nat × Value)) (n0 B : Nat) (v : Value) (wr : World) (m : Nat) : Prop :=
  ∃ (st : List Lev) (O : Nat → Prop) (i g c : Nat), v = .slice (some ⟨g, 0, none⟩) st.length c ∧ m = 2 * (flat st).length + st.length ∧ Stk wr B g c st ∧ O g ∧ g ≠ B ∧ O B ∧ flat st = LL.drop i ∧ i ≤ LL.length ∧
      st.length ≤ i + 1 ∧ J i O wr ∧ (∀ L ∈ st, L.Ok wr n0 B) ∧ B < wr.heap.size ∧ (∀ b, O b → NB wr b) ∧ wr.cell? ⟨fb, 0, none⟩ = some (.func (.func 78) #[] #[])

theorem Try.info27 : (Try.prog.info? 27).map (fun i => (i.zero, i.size, i.bytes)) = some (some (.slice none 0 0), 1, 24) := by kernel_rfl

set_option maxHeartbeats 1000000 in
theorem below_in (F : Fence) (n : Nat) (h78 : F.fn 78) (hro : F.round = none) (k ix : Int) (nm : ByteArray) (a : Option Addr) (len cap : Nat) (w : World) :
    CallsIn F n Try.prog 78 #[.agg #[.int .i64 k, .int .i64 ix, .string nm, .slice a len cap]] w fun e w' => e = .returned (.slice a len cap) ∧ w' = w.alloc (.cells #[.int .i64 k, .int .i64 ix, .string nm, .slice a len cap] 29) := by
  refine callsIn_of_wp Try.func78 rfl h78 ?_ hro
  simp only [Try.ntmps78, List.size_toArray, List.length_cons, List.length_nil, Nat.reduceAdd, Nat.reduceSub, Array.replicate_succ, Array.replicate_zero, List.push_toArray, List.append_toArray, List.nil_append, List.cons_append]
  gi_wp2_with fail
  exact bodyPost_ret (results_tmp rfl _ _ _) rfl ⟨rfl, rfl⟩

set_option maxRecDepth 100000 in
set_option maxHeartbeats 2000000 in
theorem nodes_seq (F : Fence) (n : Nat) (h84 : F.fn 84) (hro : F.round = none) (hn : 1 ≤ n) (rb n0 : Nat) (k ix : Int) (nm : ByteArray) (a : Option Addr) (cap : Nat) (ks : Fo) (w : World) (fb : Nat) (h78 : F.fn 78) (hfb : w.cell? ⟨fb, 0, none⟩ = some (.func (.func 78) #[] #[])) (hn0 : n0 ≤ w.heap.size)
    (hk : (Lit.int .i64 k).wf = true) (hix : (Lit.int .i64 ix).wf = true) (hnm : nm.size ≤ maxLen) (hbox : Box4 w rb (.int .i64 k) (.int .i64 ix) (.string nm) (.slice a ks.len cap)) (hs : ks.Sl w (fun b => b < n0) a cap) (hsz : ks.size ≤ 1048576) :
    Seq (P := Try.prog) F n 84 #[.pointer (some ⟨rb, 0, none⟩), .pointer (some ⟨fb, 0, none⟩)] (encsOf ((Fo.cons k ix nm a cap ks .nil).pre 1)) (1 + ks.size) (fun b => b < n0 ∨ b = fb) w := by
  intro l J Jx W hW hJ hJx hY h0
  obtain ⟨-, d0, di, d1, d2, -, -, -, -⟩ := hbox.below hW hbox.lt
  have hfl0 : fb < w.heap.size := block_lt_of_cell hfb
  have hfW := (hW.cell (p := ⟨fb, 0, none⟩) hfl0).trans hfb
  have hsW := hs.below hW (fun b x => by omega)
  have hzW := hW.size
  refine callsIn_of_wp Try.func84 rfl h84 ?_ hro
  simp only [Try.ntmps84, List.size_toArray, List.length_cons, List.length_nil, Nat.reduceAdd, Nat.reduceSub, Array.replicate_succ, Array.replicate_zero, List.push_toArray, List.append_toArray, List.nil_append, List.cons_append]
  gi_wp2_with fail
  obtain ⟨W0, hW0⟩ : ∃ W0, (W.alloc (.cells #[.int .i64 k, .int .i64 ix, .string nm, .slice a ks.len cap] 29)).alloc (.cells #[.slice (some ⟨W.heap.size, 0, none⟩) 1 1] 27) = W0 := ⟨_, rfl⟩
  have hk0 : ∀ S, Kept S W W0 := fun S => by rw [← hW0]; exact (Kept.alloc _ _ _).trans (Kept.alloc _ _ _)
  have hz0 : W0.heap.size = W.heap.size + 1 + 1 := by rw [← hW0]; simp
  have hq : Box4 W0 W.heap.size (.int .i64 k) (.int .i64 ix) (.string nm) (.slice a ks.len cap) := by rw [← hW0]; exact (Box4.new _ _ _ _ _ _).alloc _
  have hst : Stk W0 W.heap.size (W.heap.size + 1) 1 [⟨some ⟨W.heap.size, 0, none⟩, 1, .cons k ix nm a cap ks .nil⟩] := by
    rw [← hW0]
    have := World.ownsRow_lit (base := W.heap.size) (e := 27) (size := 1) (W.alloc (.cells #[.int .i64 k, .int .i64 ix, .string nm, .slice a ks.len cap] 29)) #[.slice (some ⟨W.heap.size, 0, none⟩) 1 1] 1 (by simp) (by simp [maxLen]) rfl
    rw [World.size_alloc] at this
    exact ⟨this⟩
  have hok : Lev.Ok W0 n0 W.heap.size ⟨some ⟨W.heap.size, 0, none⟩, 1, .cons k ix nm a cap ks .nil⟩ := by
    refine ⟨Nat.le_refl _, by simp [maxLen], fun _ => ⟨_, _, rfl, .inr rfl, hk, hix, hnm, hq.c0, hq.ci, hq.c1, hq.c2, hsW.1, hsW.2.1, fun hl => ?_, trivial⟩⟩
    exact (hsW.kept (hk0 (fun _ => True)) (fun b x => ⟨trivial, by omega⟩)).2.2 hl
  have hJ0 : J 0 (fun b => b = W.heap.size ∨ b = W.heap.size + 1) W0 := hJ 0 _ _ _ _ h0 (hk0 _) (fun b x => .inr (by omega))
  have hnb0 : ∀ b, (b = W.heap.size ∨ b = W.heap.size + 1) → NB W0 b := by
    rintro b (rfl | rfl)
    · rw [← hW0]; exact (NB.new _ _ _ (by decide)).kept (Kept.alloc (fun _ => True) _ _) trivial
    · rw [← hW0]
      have := NB.new (W.alloc (.cells #[.int .i64 k, .int .i64 ix, .string nm, .slice a ks.len cap] 29)) #[.slice (some ⟨W.heap.size, 0, none⟩) 1 1] 27 (by decide)
      rwa [World.size_alloc] at this
  have hflat : flat [⟨some ⟨W.heap.size, 0, none⟩, 1, .cons k ix nm a cap ks .nil⟩] = (Fo.cons k ix nm a cap ks .nil).pre 1 := by simp [flat]
  have hlen : ((Fo.cons k ix nm a cap ks .nil).pre 1).length = 1 + ks.size := by rw [Fo.pre_length]; simp [Fo.size]
  generalize (Fo.cons k ix nm a cap ks .nil).pre 1 = LL at hflat hlen hY ⊢
  rw [hW0]
  clear hW0
  gi_loopw [4] (fun v wr => ∃ m, NInv fb J LL n0 W.heap.size v wr m) (fun v wr => least (NInv fb J LL n0 W.heap.size v wr))
  case atStart => exact ⟨_, _, _, 0, W.heap.size + 1, 1, rfl, rfl, hst, .inr rfl, by omega, .inl rfl, by rw [hflat]; rfl, Nat.zero_le _, by simp, hJ0, fun L hL => by simp at hL; subst hL; exact hok, by omega, hnb0, ((hk0 (fun _ => True)).cell (p := ⟨fb, 0, none⟩) (by show fb < W.heap.size; omega) trivial).trans hfW⟩
  case round =>
    have hmin := least_spec hrel
    clear hrel
    obtain ⟨st, O, i, g, c, hv, hMe, hst', hOg, hgq, hOq, hfl, hi, hsti, hJi, hoks, hzr, hOb, hfc⟩ := hmin
    subst hv
    have HM : Hid (least (NInv fb J LL n0 W.heap.size (.slice (some ⟨g, 0, none⟩) st.length c) wr) = 2 * (flat st).length + st.length) := hMe
    clear hst hok hJ0 hflat hq hk0 hz0 hMe
    have hroom := hst'.room
    have hmx : maxLen = 9223372036854775807 := rfl
    have hn0B : n0 ≤ W.heap.size := Nat.le_trans hn0 hzW
    cases st with
    | nil =>
      simp only [List.length_nil]
      gi_wp2_with fail
      go_end0
      have e : i = LL.length := by
        have := congrArg List.length hfl
        simp [flat] at this
        omega
      exact ⟨⟨_, rfl⟩, .inl ⟨O, by rw [← hlen, ← e]; exact hJi⟩⟩
    | cons L st =>
      simp only [List.length_cons] at hroom hsti HM ⊢
      have htop := hst'.top
      obtain ⟨la, lc, lF⟩ := L
      simp only [Lev.val] at htop
      have hokL := hoks _ (List.mem_cons_self)
      cases lF with
      | nil =>
        simp only [Fo.len] at htop
        gi_wp2_with fail
        go_roundw
        case rel => exact ⟨_, st, O, i, g, c, rfl, rfl, hst'.pop, hOg, hgq, hOq, hfl, hi, by omega, hJi, fun L hL => hoks L (List.mem_cons_of_mem _ hL), hzr, hOb, hfc⟩
        case measure =>
          have h1 : NInv fb J LL n0 W.heap.size (.slice (some ⟨g, 0, none⟩) st.length c) wr (2 * (flat st).length + st.length) :=
            ⟨st, O, i, g, c, rfl, rfl, hst'.pop, hOg, hgq, hOq, hfl, hi, by omega, hJi, fun L hL => hoks L (List.mem_cons_of_mem _ hL), hzr, hOb, hfc⟩
          rw [HM.out]
          have := least_le h1
          simp only [flat, Fo.pre, List.nil_append] at this ⊢
          omega
      | cons k' ix' nm' ka kcap ks' r =>
        simp only [Fo.len] at htop
        obtain ⟨o1, o2, o3⟩ := hokL
        obtain ⟨b, o, rfl, hb, hk', hix', hnm', c1, ci, c2, c3, h4, h5, h6, h7⟩ := o3 (by simp [Fo.len])
        simp only [Fo.len] at o1
        have hfr := hst'.frozen st.length
        have hgl := hst'.lt
        have hb1 := below_alloc1 wr (.cells #[.int .i64 k', .int .i64 ix', .string nm', .slice ka ks'.len kcap] 29)
        have htop1 := (hb1.cell (p := ⟨g, st.length, none⟩) hgl.2).trans htop
        have hfr1 := (hb1.frozen (p := ⟨g, st.length, none⟩) hgl.2).trans hfr
        have hgne : g ≠ wr.heap.size := by omega
        have hgne' : ¬ wr.heap.size = g := by omega
        have o1' : r.len + 1 ≤ lc := o1
        have hil : i < LL.length := by
          have := congrArg List.length hfl
          simp [flat, Fo.pre] at this
          omega
        have hLi : LL.getD i (0, undef) = (st.length + 1, nodeV k' ix' nm' ka ks'.len kcap) := by
          have : LL[i]? = (LL.drop i)[0]? := by simp
          rw [List.getD_eq_getElem?_getD, this, ← hfl]
          simp [flat, Fo.pre]
        have hLe : encsOf LL i = #[.int .i64 ((st.length : Int) + 1), .agg #[.int .i64 k', .int .i64 ix', .string nm', .slice ka ks'.len kcap]] := by
          unfold encsOf
          rw [hLi]
          simp [nodeV]
        have hfl2 : ks'.pre (st.length + 1 + 1) ++ (r.pre (st.length + 1) ++ flat st) = LL.drop (i + 1) := by
          rw [← List.drop_drop (i := 1) (j := i), ← hfl]
          simp [flat, Fo.pre]
        have hYn : ∀ (na : Option Addr), (0 < r.len → na = some ⟨b, o + 4, none⟩) →
            YieldAt F (n - 1) Try.prog l #[.int .i64 ((st.length : Int) + 1), .agg #[.int .i64 k', .int .i64 ix', .string nm', .slice ka ks'.len kcap]]
              ((wr.setCell ⟨g, st.length, none⟩ (.slice na r.len (lc - 1))).alloc (.cells #[.int .i64 k', .int .i64 ix', .string nm', .slice ka ks'.len kcap] 29))
              fun e W' => (e = .returned (.bool true) ∧ Box4 W' wr.heap.size (.int .i64 k') (.int .i64 ix') (.string nm') (.slice ka ks'.len kcap) ∧ Stk W' W.heap.size g c (⟨na, lc - 1, r⟩ :: st) ∧ J (i + 1) (fun x => O x ∨ x = wr.heap.size) W' ∧
                Lev.Ok W' n0 W.heap.size ⟨ka, kcap, ks'⟩ ∧ Lev.Ok W' n0 W.heap.size ⟨na, lc - 1, r⟩ ∧ (∀ L ∈ st, L.Ok W' n0 W.heap.size) ∧ wr.heap.size < W'.heap.size ∧ NB W' W.heap.size ∧ W'.cell? ⟨fb, 0, none⟩ = some (.func (.func 78) #[] #[])) ∨ (e = .returned (.bool false) ∧ ∃ O, Jx i O W') := by
          intro na hna
          obtain ⟨w2, hw2⟩ : ∃ w2, (wr.setCell ⟨g, st.length, none⟩ (.slice na r.len (lc - 1))).alloc (.cells #[.int .i64 k', .int .i64 ix', .string nm', .slice ka ks'.len kcap] 29) = w2 := ⟨_, rfl⟩
          have hkg : Kept (fun x => x ≠ g) wr w2 := by rw [← hw2]; exact (Kept.setCell _ _ _ _ (by simp)).trans (Kept.alloc _ _ _)
          have hS2 : Stk w2 W.heap.size g c (⟨na, lc - 1, r⟩ :: st) := by rw [← hw2]; exact (hst'.set (L' := ⟨na, lc - 1, r⟩)).kept (Kept.alloc (fun _ => True) _ _) trivial
          have hB2 : Box4 w2 wr.heap.size (.int .i64 k') (.int .i64 ix') (.string nm') (.slice ka ks'.len kcap) := by
            rw [← hw2]
            have := Box4.new (wr.setCell ⟨g, st.length, none⟩ (.slice na r.len (lc - 1))) (.int .i64 k') (.int .i64 ix') (.string nm') (.slice ka ks'.len kcap) 29
            simpa using this
          have hJ2 : J i (fun x => O x ∨ x = wr.heap.size) w2 := hJ i O _ wr w2 hJi (hkg.mono (fun b _ x e => x (e ▸ hOg))) (fun b x => x.imp_right (fun e => by omega))
          have hlift : ∀ L : Lev, L.Ok wr n0 W.heap.size → L.Ok w2 n0 W.heap.size := fun L hL => hL.kept hkg (fun x hx => by
            have hxg : x ≠ g := by
              rcases hx with hx | hx
              · exact Nat.ne_of_lt (Nat.lt_of_lt_of_le hx (Nat.le_trans hn0B hgl.1))
              · rw [hx]; exact hgq.symm
            have hxw : x < wr.heap.size := by
              rcases hx with hx | hx
              · exact Nat.lt_trans (Nat.lt_of_lt_of_le hx hn0B) hzr
              · rw [hx]; exact hzr
            exact ⟨hxg, hxw⟩)
          have hok1 : Lev.Ok wr n0 W.heap.size ⟨ka, kcap, ks'⟩ := ⟨h4, h5, fun hl => by obtain ⟨b', o', e, s, x⟩ := h6 hl; exact ⟨b', o', e, .inl s, x⟩⟩
          have hok2 : Lev.Ok wr n0 W.heap.size ⟨na, lc - 1, r⟩ := ⟨by show r.len ≤ lc - 1; omega, by show lc - 1 ≤ maxLen; simp only at o2; omega, fun hl => ⟨b, o + 4, hna hl, hb, h7⟩⟩
          have hz2 : w2.heap.size = wr.heap.size + 1 := by rw [← hw2]; simp
          have hOb2 : ∀ x, (O x ∨ x = wr.heap.size) → NB w2 x := fun x hx => by
            rcases hx with hx | hx
            · by_cases e : x = g
              · subst e; exact hS2.nb
              · exact (hOb x hx).kept hkg e
            · subst hx
              rw [← hw2]
              have := NB.new (wr.setCell ⟨g, st.length, none⟩ (.slice na r.len (lc - 1))) #[.int .i64 k', .int .i64 ix', .string nm', .slice ka ks'.len kcap] 29 (by decide)
              simpa using this
          obtain ⟨fn, tmps, assign, body, hy, hR⟩ := hY i _ w2 (by omega) hOb2 hJ2
          rw [hLe] at hy
          rw [hw2]
          refine ⟨fn, tmps, assign, body, hy, hR.mono ?_⟩
          rintro e W' ⟨hK, (⟨rfl, hj⟩ | ⟨rfl, hj⟩)⟩
          · have hlift2 : ∀ L : Lev, L.Ok w2 n0 W.heap.size → L.Ok W' n0 W.heap.size := fun L hL => hL.kept hK (fun x hx => by
              rcases hx with hx | hx
              · exact ⟨.inr (.inl hx), by omega⟩
              · exact ⟨.inl (.inl (hx ▸ hOq)), by omega⟩)
            exact .inl ⟨rfl, hB2.kept hK (.inl (.inr rfl)), hS2.kept hK (.inl (.inl hOg)), hj, hlift2 _ (hlift _ hok1), hlift2 _ (hlift _ hok2), fun L hL => hlift2 _ (hlift _ (hoks L (List.mem_cons_of_mem _ hL))), by have := hK.size; omega, ((hOb _ hOq).kept hkg (Ne.symm hgq)).kept hK (.inl (.inl hOq)), (hK.cell (p := ⟨fb, 0, none⟩) (by show fb < _; omega) (.inr (.inr rfl))).trans ((hkg.cell (p := ⟨fb, 0, none⟩) (by show fb < _; omega) (by show fb ≠ g; omega)).trans hfc)⟩
          · exact .inr ⟨rfl, _, hj⟩
        have fin : ∀ (na : Option Addr) (W3 w1 : World) (X : Obj) (g' cap' : Nat), Stk W3 W.heap.size g c (⟨na, lc - 1, r⟩ :: st) → J (i + 1) (fun x => O x ∨ x = wr.heap.size) W3 → Lev.Ok W3 n0 W.heap.size ⟨ka, kcap, ks'⟩ →
            Lev.Ok W3 n0 W.heap.size ⟨na, lc - 1, r⟩ → (∀ L ∈ st, L.Ok W3 n0 W.heap.size) → wr.heap.size < W3.heap.size → NB W3 W.heap.size → W3.cell? ⟨fb, 0, none⟩ = some (.func (.func 78) #[] #[]) →
            w1.ownsRow W.heap.size 27 1 (.slice (some ⟨g', 0, none⟩) (st.length + 1 + 1) cap') (st.length + 1 + 1) (((⟨na, lc - 1, r⟩ :: st : List Lev).map Lev.val).reverse ++ [.slice ka ks'.len kcap]) →
            (W3.alloc X).grownBy w1 (some g) → (some g' = some g ∨ some g' = some (W3.alloc X).heap.size) →
            NInv fb J LL n0 W.heap.size (.slice (some ⟨g', 0, none⟩) (st.length + 1 + 1) cap') w1 (2 * (ks'.pre (st.length + 1 + 1) ++ (r.pre (st.length + 1) ++ flat st)).length + (st.length + 1 + 1)) := by
          intro na W3 w1 X g' cap' hS3 hj3 k1 k2 k3 hz3 hnbq hf3 hown hgrow hat
          have hS3l := hS3.lt
          have hkO : Kept (fun x => ¬ (O x ∨ x = wr.heap.size)) W3 w1 := (Kept.alloc _ _ _).trans (Kept.grown hgrow (fun x e h => by cases e; exact h (.inl hOg)))
          have hkg : Kept (fun x => x ≠ g) W3 w1 := (Kept.alloc _ _ _).trans (Kept.grown hgrow (fun x e h => by cases e; exact h rfl))
          have hlift : ∀ L : Lev, L.Ok W3 n0 W.heap.size → L.Ok w1 n0 W.heap.size := fun L hL => hL.kept hkg (fun x hx => by
            have hxg : x ≠ g := by
              rcases hx with hx | hx
              · exact Nat.ne_of_lt (Nat.lt_of_lt_of_le hx (Nat.le_trans hn0B hgl.1))
              · rw [hx]; exact hgq.symm
            have hxw : x < W3.heap.size := by
              rcases hx with hx | hx
              · exact Nat.lt_trans (Nat.lt_trans (Nat.lt_of_lt_of_le hx hn0B) hzr) hz3
              · rw [hx]; exact Nat.lt_trans hzr hz3
            exact ⟨hxg, hxw⟩)
          have hg'l : g' < w1.heap.size := (World.ownsRow.lt hown g' rfl).2
          have hg' : (O g' ∨ g' = wr.heap.size) ∨ W3.heap.size ≤ g' := by
            rcases hat with e | e
            · cases e; exact .inl (.inl hOg)
            · simp only [World.size_alloc, Option.some.injEq] at e
              exact .inr (by omega)
          have hgB : g' ≠ W.heap.size := by
            rcases hat with e | e
            · cases e; exact hgq
            · simp only [World.size_alloc, Option.some.injEq] at e
              omega
          refine ⟨⟨ka, kcap, ks'⟩ :: ⟨na, lc - 1, r⟩ :: st, fun x => x = W.heap.size ∨ x = g', i + 1, g', cap', rfl, rfl, ⟨?_⟩, .inr rfl, hgB, .inl rfl, hfl2, by omega, by simp only [List.length_cons]; omega,
            hJ _ _ _ _ _ hj3 hkO (fun x hx => by rcases hx with rfl | rfl; exact .inl (.inl hOq); exact hg'), ?_, ?_, ?_, (hkg.cell (p := ⟨fb, 0, none⟩) (by show fb < _; omega) (by show fb ≠ g; omega)).trans hf3⟩
          · simp only [List.length_cons, List.map_cons, List.reverse_cons, List.append_assoc] at hown ⊢
            exact hown
          · intro L hL
            rcases List.mem_cons.1 hL with rfl | hL
            · exact hlift _ k1
            · rcases List.mem_cons.1 hL with rfl | hL
              · exact hlift _ k2
              · exact hlift _ (k3 L hL)
          · have := hkO.size
            omega
          · intro x hx
            rcases hx with rfl | rfl
            · exact hnbq.kept hkg (Ne.symm hgq)
            · rcases hown.2 with ⟨h', _⟩ | ⟨g2, cap2, cur, h', hb', hg2, hr2⟩
              · simp at h'
              · simp only [Value.slice.injEq, Option.some.injEq, Addr.mk.injEq, and_true, true_and] at h'
                obtain ⟨rfl, rfl⟩ := h'
                exact NB.cells hg2 (by decide)
        have hmeas : 2 * (ks'.pre (st.length + 1 + 1) ++ (r.pre (st.length + 1) ++ flat st)).length + (st.length + 1 + 1) < 2 * (flat (⟨some ⟨b, o, none⟩, lc, .cons k' ix' nm' ka kcap ks' r⟩ :: st)).length + (st.length + 1) := by
          simp only [flat, Fo.pre, List.length_cons, List.length_append]
          omega
        have up : ∀ (na : Option Addr) (W3 : World) (X : Obj), Stk W3 W.heap.size g c (⟨na, lc - 1, r⟩ :: st) → J (i + 1) (fun x => O x ∨ x = wr.heap.size) W3 → Lev.Ok W3 n0 W.heap.size ⟨ka, kcap, ks'⟩ →
            Lev.Ok W3 n0 W.heap.size ⟨na, lc - 1, r⟩ → (∀ L ∈ st, L.Ok W3 n0 W.heap.size) → wr.heap.size < W3.heap.size → NB W3 W.heap.size → W3.cell? ⟨fb, 0, none⟩ = some (.func (.func 78) #[] #[]) →
            Stk (W3.alloc X) W.heap.size g c (⟨na, lc - 1, r⟩ :: st) ∧ J (i + 1) (fun x => O x ∨ x = wr.heap.size) (W3.alloc X) ∧ Lev.Ok (W3.alloc X) n0 W.heap.size ⟨ka, kcap, ks'⟩ ∧
            Lev.Ok (W3.alloc X) n0 W.heap.size ⟨na, lc - 1, r⟩ ∧ (∀ L ∈ st, L.Ok (W3.alloc X) n0 W.heap.size) ∧ wr.heap.size < (W3.alloc X).heap.size ∧ NB (W3.alloc X) W.heap.size ∧ (W3.alloc X).cell? ⟨fb, 0, none⟩ = some (.func (.func 78) #[] #[]) := by
          intro na W3 X hS3 hj3 k1 k2 k3 hz3 hnbq hf3
          have kT : ∀ S, Kept S W3 (W3.alloc X) := fun S => Kept.alloc _ _ _
          have hlift : ∀ L : Lev, L.Ok W3 n0 W.heap.size → L.Ok (W3.alloc X) n0 W.heap.size := fun L hL => hL.kept (kT (fun _ => True)) (fun x hx => ⟨trivial, by omega⟩)
          exact ⟨hS3.kept (kT (fun _ => True)) trivial, hJ _ _ _ _ _ hj3 (kT _) (fun x hx => .inl hx), hlift _ k1, hlift _ k2, fun L hL => hlift _ (k3 L hL), by simp; omega, hnbq.kept (kT (fun _ => True)) trivial, ((kT (fun _ => True)).cell (p := ⟨fb, 0, none⟩) (by show fb < _; omega) trivial).trans hf3⟩
        have UP := hide up
        clear up
        have FIN := hide fin
        have HME := hide hmeas
        clear fin hmeas
        by_cases hlc : lc = 1
        · subst hlc
          obtain ⟨fn, tmps, assign, body, hy, hR⟩ := hYn (some ⟨b, o, none⟩) (fun h => by omega)
          clear hYn
          have hr0 : r = .nil := by
            cases r with
            | nil => rfl
            | cons _ _ _ _ _ _ _ => simp only [Fo.len] at o1'; omega
          subst hr0
          simp only [Nat.sub_self, Fo.len] at hy htop htop1
          clear o1 o1' o3
          gi_wp2_with fail
          refine hR.mono ?_
          rintro e W3 (⟨rfl, q3, hS3, hj3, k1, k2, k3, hz3, hnq3, hf3⟩ | ⟨rfl, O', hj'⟩)
          · obtain ⟨q3l, x0, xi, x1, x2, -, -, -, -⟩ := q3
            obtain ⟨hS3', hj3', k1', k2', k3', hz3', hnq3', hf3'⟩ := UP.out _ W3 (.cells #[.int .i64 k', .int .i64 ix', .string nm', .slice ka ks'.len kcap] 29) hS3 hj3 k1 k2 k3 hz3 hnq3 hf3
            have hS3l := hS3'.lt
            obtain ⟨i0, hi0, hz0, hz1, hz2⟩ := info_parts Try.info27
            have HJ3 := hide hj3'
            have HK1 := hide k1'
            have HK2 := hide k2'
            have HK3 := hide k3'
            have HF3 := hide hf3'
            have HN3 := hide hnq3'
            clear hj3 k1 k2 k3 hnq3 hj3' k1' k2' k3' hnq3' hf3'
            gi_wp2_with (first
              | (gi_at_call 78; refine (below_in F (n - 1) h78 hro _ _ _ _ _ _ _).mono ?_; rintro e w' ⟨rfl, rfl⟩)
              | (gi_at_builtin; refine wpListIn_append_at _ rfl _ _ 74 rfl W.heap.size 27 i0 (.slice none 0 0) 1 24 Try.underlying74 hi0 hz0 hz1 hz2 rfl (by decide) _ _ _ rfl (hS3'.own.alloc _) ⟨W3.heap.size + 1, 0, none⟩ 1 1 [.slice ka ks'.len kcap] rfl rfl (by have := cell_one_new (W3.alloc (.cells #[.int .i64 k', .int .i64 ix', .string nm', .slice ka ks'.len kcap] 29)) (.slice ka ks'.len kcap) 27; rwa [World.size_alloc] at this) (by simp [Value.oneCell']) (by simp only [List.length_cons]; omega) (by simp only [List.length_cons]; omega) (by simp; omega) ?_; intro v' w1 hown' hgrow _ hat; obtain ⟨g', cap', rfl⟩ := ownsRow_succ hown'))
            go_roundw
            case rel => exact ⟨_, FIN.out _ _ w1 _ g' cap' hS3' HJ3.out HK1.out HK2.out HK3.out hz3' HN3.out HF3.out hown' hgrow hat⟩
            case measure =>
              rw [HM.out]
              exact Nat.lt_of_le_of_lt (least_le (FIN.out _ _ w1 _ g' cap' hS3' HJ3.out HK1.out HK2.out HK3.out hz3' HN3.out HF3.out hown' hgrow hat)) HME.out
          · gi_wp2_with fail
            refine bodyPost_ret (results_none rfl _ _ _) rfl ?_
            exact ⟨⟨_, rfl⟩, .inr ⟨i, O', by omega, hj'⟩⟩
        · obtain ⟨fn, tmps, assign, body, hy, hR⟩ := hYn (some ⟨b, o + 4, none⟩) (fun _ => rfl)
          clear hYn
          gi_wp2_with fail
          refine hR.mono ?_
          rintro e W3 (⟨rfl, q3, hS3, hj3, k1, k2, k3, hz3, hnq3, hf3⟩ | ⟨rfl, O', hj'⟩)
          · obtain ⟨q3l, x0, xi, x1, x2, -, -, -, -⟩ := q3
            obtain ⟨hS3', hj3', k1', k2', k3', hz3', hnq3', hf3'⟩ := UP.out _ W3 (.cells #[.int .i64 k', .int .i64 ix', .string nm', .slice ka ks'.len kcap] 29) hS3 hj3 k1 k2 k3 hz3 hnq3 hf3
            have hS3l := hS3'.lt
            obtain ⟨i0, hi0, hz0, hz1, hz2⟩ := info_parts Try.info27
            have HJ3 := hide hj3'
            have HK1 := hide k1'
            have HK2 := hide k2'
            have HK3 := hide k3'
            have HF3 := hide hf3'
            have HN3 := hide hnq3'
            clear hj3 k1 k2 k3 hnq3 hj3' k1' k2' k3' hnq3' hf3'
            gi_wp2_with (first
              | (gi_at_call 78; refine (below_in F (n - 1) h78 hro _ _ _ _ _ _ _).mono ?_; rintro e w' ⟨rfl, rfl⟩)
              | (gi_at_builtin; refine wpListIn_append_at _ rfl _ _ 74 rfl W.heap.size 27 i0 (.slice none 0 0) 1 24 Try.underlying74 hi0 hz0 hz1 hz2 rfl (by decide) _ _ _ rfl (hS3'.own.alloc _) ⟨W3.heap.size + 1, 0, none⟩ 1 1 [.slice ka ks'.len kcap] rfl rfl (by have := cell_one_new (W3.alloc (.cells #[.int .i64 k', .int .i64 ix', .string nm', .slice ka ks'.len kcap] 29)) (.slice ka ks'.len kcap) 27; rwa [World.size_alloc] at this) (by simp [Value.oneCell']) (by simp only [List.length_cons]; omega) (by simp only [List.length_cons]; omega) (by simp; omega) ?_; intro v' w1 hown' hgrow _ hat; obtain ⟨g', cap', rfl⟩ := ownsRow_succ hown'))
            go_roundw
            case rel => exact ⟨_, FIN.out _ _ w1 _ g' cap' hS3' HJ3.out HK1.out HK2.out HK3.out hz3' HN3.out HF3.out hown' hgrow hat⟩
            case measure =>
              rw [HM.out]
              exact Nat.lt_of_le_of_lt (least_le (FIN.out _ _ w1 _ g' cap' hS3' HJ3.out HK1.out HK2.out HK3.out hz3' HN3.out HF3.out hown' hgrow hat)) HME.out
          · gi_wp2_with fail
            refine bodyPost_ret (results_none rfl _ _ _) rfl ?_
            exact ⟨⟨_, rfl⟩, .inr ⟨i, O', by omega, hj'⟩⟩

end Go.Proofs.Ytjlefdalobgdfaa
