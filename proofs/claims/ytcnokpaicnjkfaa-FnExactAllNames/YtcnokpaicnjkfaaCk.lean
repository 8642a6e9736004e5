import Derived.Test.YtcnokpaicnjkfaaCj
import Derived.Deep.RegionLaw
namespace Go.Proofs.Ytcnokpaicnjkfaa
open Go.RowKit Go.Joins

/-- How many terms. -/
def Tm.nodes : Tm → Nat
  | .nil => 0
  | .nd _ ks al r => 1 + ks.nodes + al.nodes + r.nodes

open Classical in
/-- What a CCase's own name adds. -/
noncomputable def inB (nm : ByteArray) (B : List ByteArray) : List ByteArray := if nm = ⟨#[]⟩ then B else B ++ [nm]

open Classical in
/-- The names that stand free in a term, by those of its kids and alternatives; B is bound around. -/
noncomputable def ow (k : Int) (nm : ByteArray) (ns : List ByteArray) (ko : List ByteArray → List ByteArray → List (List ByteArray)) (ao : List ByteArray → List (List ByteArray)) (B : List ByteArray) : List ByteArray :=
  if k = 1 then (if nm ∈ B then [] else [nm])
  else if k = 6 ∨ k = 7 then (ko (B ++ ns) (B ++ ns)).flatten
  else if k = 8 then (ko B (inB nm B)).headD [] ++ ((ao (inB nm B)).flatten ++ ((ko B (inB nm B)).drop 1).flatten)
  else (ko B B).flatten

/-- The names that stand free, of each term of a row; B is bound around the first one, C around the others. -/
noncomputable def Tm.occ : Tm → List ByteArray → List ByteArray → List (List ByteArray)
  | .nil, _, _ => []
  | .nd h ks al r, B, C => ow h.k h.nm h.ns (fun X Y => ks.occ X Y) (fun X => al.occ X X) (B ++ h.cs) :: r.occ C C

theorem head_drop (L : List (List ByteArray)) : (L.headD []).length + ((L.drop 1).flatten).length = L.flatten.length := by
  cases L with
  | nil => rfl
  | cons a l => simp

theorem occ_len : ∀ (t : Tm) (B C : List ByteArray), (t.occ B C).flatten.length ≤ t.nodes
  | .nil, B, C => Nat.zero_le _
  | .nd h ks al r, B, C => by
    have hr := occ_len r C C
    have h1 := fun X Y => occ_len ks X Y
    have h2 := fun X => occ_len al X X
    rw [Tm.occ, List.flatten_cons, List.length_append, Tm.nodes]
    obtain ⟨X, hX⟩ : ∃ X, B ++ h.cs = X := ⟨_, rfl⟩
    rw [hX]
    dsimp only [ow]
    split
    · split
      · simp only [List.length_nil]; omega
      · simp only [List.length_cons, List.length_nil]; omega
    · split
      · have := h1 (X ++ h.ns) (X ++ h.ns); omega
      · split
        · rw [List.length_append, List.length_append]
          have := head_drop (ks.occ X (inB h.nm X))
          have := h1 X (inB h.nm X)
          have := h2 (inB h.nm X)
          omega
        · have := h1 X X; omega

open Classical in
/-- Names behind a list, each once. -/
noncomputable def adds (L : List ByteArray) : List ByteArray → List ByteArray
  | [] => L
  | x :: M => adds (if x ∈ L then L else L ++ [x]) M

theorem adds_append : ∀ (M K L : List ByteArray), adds L (M ++ K) = adds (adds L M) K
  | [], _, _ => rfl
  | x :: M, K, L => by
    show adds _ (M ++ K) = _
    rw [adds_append M K]
    rfl

theorem adds_len : ∀ (M L : List ByteArray), (adds L M).length ≤ L.length + M.length
  | [], L => Nat.le_refl _
  | x :: M, L => by
    unfold adds
    refine Nat.le_trans (adds_len M _) ?_
    split
    · simp only [List.length_cons]; omega
    · simp only [List.length_cons, List.length_append, List.length_nil]; omega

theorem nodesK : ∀ (m : Nat) (F : Fo), F.size ≤ m → (rdK F).nodes ≤ F.size ∧ (rdA F).nodes ≤ F.size := by
  intro m
  induction m with
  | zero =>
    intro F h
    cases F with
    | nil => rw [rdK_nil, rdA_nil]; exact ⟨Nat.le_refl _, Nat.le_refl _⟩
    | v _ _ => simp [Fo.size] at h
    | s _ _ _ _ _ => simp [Fo.size] at h
  | succ m ih =>
    intro F h
    constructor
    · unfold rdK
      split
      · rename_i k nm mn a1 n1 c1 lk a2 n2 c2 nk a3 n3 c3 kk a4 n4 c4 ak r
        simp only [Fo.size] at h
        have h1 := (ih kk (by omega)).1
        have h2 := (ih ak (by omega)).2
        have h3 := (ih r (by omega)).1
        simp only [Tm.nodes, Fo.size]
        omega
      · exact Nat.zero_le _
    · unfold rdA
      split
      · rename_i con a0 n0 c0 ck k nm mn a1 n1 c1 lk a2 n2 c2 nk a3 n3 c3 kk a4 n4 c4 ak r
        simp only [Fo.size] at h
        have h1 := (ih kk (by omega)).1
        have h2 := (ih ak (by omega)).2
        have h3 := (ih r (by omega)).2
        simp only [Tm.nodes, Fo.size]
        omega
      · exact Nat.zero_le _

theorem occK_le (F : Fo) (B C : List ByteArray) : ((rdK F).occ B C).flatten.length ≤ F.size := Nat.le_trans (occ_len _ _ _) (nodesK F.size F (Nat.le_refl _)).1

theorem occK_app {x : Fo} (hx : Fit E x (E 3)) (q : Fo) (B C : List ByteArray) : (rdK (x.app q)).occ B C = ((rdK x).occ B B).flatten :: (rdK q).occ C C := by
  obtain ⟨k, nm, mn, la, ln, lc, lk, na, nn, nc, nk, ka, kn, kc, kk, aa, an, ac, ak, rfl, -⟩ := core_open hx
  simp only [Fo.app]
  rw [rdK_nd, rdK_nd, rdK_nil]
  simp only [Tm.occ, List.flatten_cons, List.flatten_nil, List.append_nil]

theorem occA_app {x : Fo} (hx : Fit E x (E 2)) (q : Fo) (I : List ByteArray) : ∃ (con : ByteArray) (ca : Option Addr) (cn cc : Nat) (ck y : Fo), x = .v (.string con) (.s ca cn cc ck y) ∧ Fit E ck (rep (E 1) cn) ∧ Fit E y (E 3) ∧ ((rdA (x.app q)).occ I I).flatten = ((rdK y).occ (I ++ rdS ck) (I ++ rdS ck)).flatten ++ ((rdA q).occ I I).flatten := by
  obtain ⟨con, ca, cn, cc, ck, y, rfl, -, h1, hy⟩ := alt_open hx
  refine ⟨con, ca, cn, cc, ck, y, rfl, h1, hy, ?_⟩
  obtain ⟨k, nm, mn, la, ln, lc, lk, na, nn, nc, nk, ka, kn, kc, kk, aa, an, ac, ak, rfl, -⟩ := core_open hy
  simp only [Fo.app]
  rw [rdA_nd, rdK_nd, rdK_nil]
  simp only [Tm.occ, List.flatten_cons, List.flatten_nil, List.append_nil]

/-- A row of texts behind a row of our own, where a region draws. -/
theorem sr_draw {ops : Array Oper} {o : Oper} {a : Act} {K : Act → World → Prop} {Q : Exit → Act → World → Prop} {E : Prop} (hgd : o.guard = none) (s x : Operand)
    (ho : o.op = .call { callee := .builtin .append, args := #[s, x], argTypes := #[25, 25] }) (w : World) (v : Value) (L M : List ByteArray) (n m : Nat) (hn : n = L.length) (hm : m = M.length) (b : Option Addr) (c : Nat) (S : Nat → Prop) (hs : a.eval s = v) (hown : w.ownsRow 0 9 1 v n (L.map Value.string)) (hx : a.eval x = .slice b m c) (hM : SR w S b c M) (hle : n + m ≤ 33554432)
    (h : ∀ ga gc w', w'.ownsRow 0 9 1 (.slice ga (n + m) gc) (n + m) ((L ++ M).map Value.string) → w.grownBy w' v.ownBlock → (∀ g, (Value.slice ga (n + m) gc).ownBlock = some g → v.ownBlock = some g ∨ w.heap.size ≤ g) → K (a.put o.dst (.slice ga (n + m) gc)) w') :
    if Region.wanted o (yielded ops a.tmps) = true then Oper.wp Try.prog o a w K Q else E := by
  obtain ⟨i0, hi, hz0, hz1, hz2⟩ := info_parts Try.info9
  by_cases h0 : 0 < m
  · have hne : M ≠ [] := fun e => by rw [e] at hm; simp at hm; omega
    obtain ⟨bb, oo, rfl, -, hc⟩ := hM.at_ hne
    refine step_append_lies w hgd s x 25 ho 0 9 i0 (.string ⟨#[]⟩) 1 16 Try.underlying25 hi hz0 hz1 hz2 rfl (by decide) v n (L.map Value.string) hs hown ⟨bb, oo, none⟩ m c (M.map Value.string) hx (by rw [List.length_map]; omega) (fun j u hu => ?_) (fun u hu => ?_) h0 (by simp only [maxLen]; omega) (by omega) (Nat.zero_le _) w.heap.size rfl (fun g cap w' h1 h2 h3 _ => h _ _ w' (by rw [List.map_append]; exact h1) h2 (fun g' hg' => ?_))
    · rw [List.getElem?_map] at hu
      obtain ⟨y, hy, rfl⟩ := Option.map_eq_some_iff.1 hu
      rw [addr_add]
      exact hc j y hy
    · obtain ⟨y, -, rfl⟩ := List.mem_map.1 hu
      rfl
    · have e : g = g' := Option.some.inj hg'
      subst e
      rcases h3 with h3 | h3
      · exact .inl h3
      · exact .inr (by omega)
  · have e0 : m = 0 := by omega
    have e1 : M = [] := List.length_eq_zero_iff.1 (by omega)
    subst e1
    subst e0
    have hw : Region.wanted o (yielded ops a.tmps) = true := by simp [Region.wanted, hgd]
    rw [if_pos hw]
    obtain ⟨ga, gc, e, -, -⟩ := sr_row hown
    have hr := run_append_zero (ty := o.type) Try.underlying25 hi hown b c
    unfold Oper.wp execOp
    simp only [ho, resolve, invoke, builtin, Sem.run_bind, Sem.run_pure, Result.andThen_ok, List.map_toArray, List.map_cons, List.map_nil, hs, hx, hr]
    rw [e]
    rw [e] at hown
    exact h ga gc w (by simpa using hown) ⟨rfl, rfl, rfl, Nat.le_refl _, fun _ _ _ => rfl⟩ (fun g hg => .inl (by rw [e]; exact hg))

/-- What a call answers that puts names behind a row of our own. -/
def FrP (v : Value) (L' : List ByteArray) (W : World) (e : Ending) (W' : World) : Prop := ∃ a c, e = .returned (.slice a L'.length c) ∧ W'.ownsRow 0 9 1 (.slice a L'.length c) L'.length (L'.map Value.string) ∧ Kept (fun c => v.ownBlock ≠ some c) W W' ∧ (∀ g, (Value.slice a L'.length c).ownBlock = some g → v.ownBlock = some g ∨ W.heap.size ≤ g)

set_option maxHeartbeats 2000000 in
set_option maxRecDepth 100000 in
theorem m_add (v : Value) (L : List ByteArray) (x : ByteArray) (W : World) (hown : W.ownsRow 0 9 1 v L.length (L.map Value.string)) (hle : L.length ≤ 33554432) :
    Calls Try.prog 54 #[v, .string x] W (FrP v (adds L [x]) W) := by
  obtain ⟨a, c, rfl, -, hsr⟩ := sr_row hown
  obtain ⟨q, hq⟩ := truth (x ∈ L)
  have HIN := hide (m_in a c L x W _ hsr q hq)
  obtain ⟨n, hn⟩ : ∃ n, n = L.length := ⟨_, rfl⟩
  rw [← hn] at HIN hown ⊢
  have HN := hide hn
  have HOW := hide hown
  have HQ := hide hq
  clear hown hq hsr hn
  go_enter Try.func54, Try.ntmps54
  go_wp2_with fail
  refine HIN.out.mono ?_
  clear HIN
  rintro e w1 ⟨rfl, b1⟩
  have HO1 := hide (ownsRow_kept HOW.out (kt (S := fun _ => True) b1) (fun _ _ => trivial))
  have HB1 := hide b1
  cases q with
  | true =>
    have HF : Hid (adds L [x] = L) := by
      unfold Hid adds
      rw [if_pos (HQ.out.1 rfl)]
      rfl
    clear b1
    go_wp2_with fail
    go_ret
    unfold FrP
    rw [HF.out, ← HN.out]
    exact ⟨a, c, rfl, HO1.out, kt HB1.out, fun g hg => .inl hg⟩
  | false =>
    have HF : Hid (adds L [x] = L ++ [x]) := by
      unfold Hid adds
      rw [if_neg (fun h => absurd (HQ.out.2 h) (by simp))]
      rfl
    obtain ⟨V5, hV5⟩ : ∃ V, w1.alloc (.cells #[.string x] 9) = V := ⟨_, rfl⟩
    have k5 : Kept (fun _ => True) w1 V5 := by rw [← hV5]; exact Kept.alloc _ _ _
    have HBL : Hid (V5.heap[w1.heap.size]? = some (.cells [Value.string x].toArray 9)) := by unfold Hid; rw [← hV5]; exact (MapKept.heap_alloc w1 _).1
    have HO5 := hide (ownsRow_kept HO1.out k5 (fun _ _ => trivial))
    have HEND : Hid (∀ g5 q5 w5, w5.ownsRow 0 9 1 (.slice (some ⟨g5, 0, none⟩) (n + 1) q5) (n + 1) (L.map Value.string ++ [.string x]) → V5.grownBy w5 (Value.slice a n c).ownBlock → ((Value.slice a n c).ownBlock = some g5 ∨ g5 = V5.heap.size) → FrP (.slice a n c) (adds L [x]) W (.returned (.slice (some ⟨g5, 0, none⟩) (n + 1) q5)) w5) := fun g5 q5 w5 hO hG hat => by
      unfold FrP
      rw [HF.out]
      have e : (L ++ [x]).length = n + 1 := by rw [HN.out]; simp
      rw [e]
      refine ⟨_, _, rfl, by simpa using hO, ((kt HB1.out).trans (k5.mono (fun _ _ _ => trivial))).trans (Kept.grown hG (fun c' hc' h => h hc')), fun g hg => ?_⟩
      have e2 : g5 = g := Option.some.inj hg
      subst e2
      rcases hat with h | h
      · exact .inl h
      · exact .inr (by have := HB1.out.size; have := k5.size; omega)
    have HV5 := hide hV5
    have H63 : Hid (n + 1 ≤ maxLen ∧ (n + 1) * 16 ≤ 140737488355328) := by
      have := HN.out
      unfold Hid maxLen
      omega
    clear b1 hV5 k5 HF HOW HO1 HB1 HQ HN hle
    go_wp2_with (at_builtin; rw [HV5.out]; refine ur_stepL rfl _ _ 25 9 rfl Try.info9 Try.underlying25 rfl (by decide) 0 V5 (.slice a n c) n (L.map Value.string) [.string x] w1.heap.size 1 rfl rfl (Nat.zero_le _) HO5.out HBL.out rfl (by simp [Value.oneCell']) H63.out.1 H63.out.2 ?_; rintro g5 q5 w5 hO5 hG5 hat5; have HE5 := hide (HEND.out g5 q5 w5 hO5 hG5 hat5); clear hO5 hG5 hat5)
    go_ret
    exact HE5.out

end Go.Proofs.Ytcnokpaicnjkfaa
