import Derived.Test.YtjfoagmenehapaaDoorRows
import Derived.WalkKit
import Derived.WalkSpells
import Derived.WalkLawsBesides
import Derived.Deep.OwnRows
import Derived.Deep.QuietTactic
import Derived.BigQuiet
import Derived.Deep.RegionWith
import Derived.Lib.SmallJoins
import Derived.Laws.CopyOwn
import Derived.Laws.AppendOwnNone
import Derived.Laws.StructEq
import Derived.Deep.RegionHeld3
import Derived.Laws.Rows
import Derived.Laws.Tables
import Derived.Deep.Cut
namespace Go.Proofs.YtjfoagmenehapaaDoor.Big
open Go.RowKit Go.Joins

/-- The slice value reads as the n limbs f 0, f 1, .. -/
def Lim (w : World) (v : Value) (n : Nat) (f : Nat → Nat) : Prop :=
  ∃ a c, v = .slice a n c ∧ n ≤ c ∧ c ≤ maxLen ∧ (∀ i, i < n → f i < 4294967296) ∧
    (0 < n → ∃ b off, a = some ⟨b, off, none⟩ ∧ ∀ i, i < n → w.cell? ⟨b, off + i, none⟩ = some (.int .u32 (f i)))

/-- The same, in a block from B on that may be written. -/
def Own (B : Nat) (w : World) (v : Value) (n : Nat) (f : Nat → Nat) : Prop :=
  ∃ a c, v = .slice a n c ∧ n ≤ c ∧ (c ≤ maxLen ∧ (a = none → c = 0)) ∧ (∀ i, i < n → f i < 4294967296) ∧
    (0 < n → ∃ b off, a = some ⟨b, off, none⟩ ∧ B ≤ b ∧ (∀ i, i < n → w.cell? ⟨b, off + i, none⟩ = some (.int .u32 (f i))) ∧ ∀ i, i < n → w.frozen? ⟨b, off + i, none⟩ = false)

theorem Own.lim {B w v n f} (h : Own B w v n f) : Lim w v n f := by
  obtain ⟨a, c, rfl, h1, h2, h3, h4⟩ := h
  refine ⟨a, c, rfl, h1, h2.1, h3, fun hn => ?_⟩
  obtain ⟨b, off, rfl, _, h5, _⟩ := h4 hn
  exact ⟨b, off, rfl, h5⟩

/-- A slice value that is nil has no room. -/
def NilOk (v : Value) : Prop := ∀ n c, v = .slice none n c → c = 0

theorem Own.nil {B w v n f} (h : Own B w v n f) : NilOk v := by
  obtain ⟨a, c, rfl, h1, h2, h3, h4⟩ := h
  intro n' c' e
  simp only [Value.slice.injEq] at e
  obtain ⟨e1, e2, e3⟩ := e
  have := h2.2 e1
  omega

theorem Lim.below {w w' v n f} (h : Lim w v n f) (hb : Below w.heap.size w w') : Lim w' v n f := by
  obtain ⟨a, c, rfl, h1, h2, h3, h4⟩ := h
  refine ⟨a, c, rfl, h1, h2, h3, fun hn => ?_⟩
  obtain ⟨b, off, rfl, h5⟩ := h4 hn
  exact ⟨b, off, rfl, fun i hi => (hb.cell (block_lt_of_cell (h5 i hi))).trans (h5 i hi)⟩

theorem Tryd.info70 : (Tryd.prog.info? 70).map (fun i => (i.zero, i.size, i.bytes)) = some (some (.int .u32 0), 1, 4) := by kernel_rfl

/-- A block of n limbs of which the first k are f's. -/
def Half (w : World) (B : Nat) (n k : Nat) (f : Nat → Nat) : Prop :=
  ∃ cs : Array Value, w.heap[B]? = some (.cells cs 70 (0, 0)) ∧ cs.size = n ∧ ∀ i, i < k → cs[i]? = some (.int .u32 (f i))

theorem Half.own {w B B' n k f} (h : Half w B n k f) (hk : n = k) (hB : B' ≤ B) (hn : n ≤ maxLen) (hf : ∀ i, i < n → f i < 4294967296) : Own B' w (.slice (some ⟨B, 0, none⟩) n n) n f := by
  subst hk
  obtain ⟨cs, h1, h2, h3⟩ := h
  refine ⟨_, _, rfl, Nat.le_refl _, ⟨hn, fun e => by cases e⟩, hf, fun _ => ⟨B, 0, rfl, hB, fun i hi => ?_, fun i _ => unfrozen_of_block h1 _⟩⟩
  rw [cell_of_block h1, Nat.zero_add]; exact h3 i hi

theorem Half.cell {w B n k f} (h : Half w B n k f) (j : Nat) (hj : j < n) : ∃ u, w.cell? ⟨B, j, none⟩ = some u := by
  obtain ⟨cs, h1, h2, _⟩ := h
  rw [cell_of_block h1]; exact ⟨cs[j], by simp [h2, hj]⟩

theorem Half.frozen {w B n k f} (h : Half w B n k f) (j : Nat) : w.frozen? ⟨B, j, none⟩ = false := by
  obtain ⟨cs, h1, h2, _⟩ := h
  exact unfrozen_of_block h1 _

theorem Half.set {w B n k f} (h : Half w B n k f) (hk : k < n) : Half (w.setCell ⟨B, k, none⟩ (.int .u32 (f k))) B n (k + 1) f := by
  obtain ⟨cs, h1, h2, h3⟩ := h
  refine ⟨_, block_setCell h1 _, by simp [h2], fun i hi => ?_⟩
  by_cases e : i = k
  · subst e; simp [h2, hk]
  · rw [Array.getElem?_setIfInBounds_ne (by omega)]; exact h3 i (by omega)

theorem Own.below {B w w' v n f} (h : Own B w v n f) (hb : Below w.heap.size w w') : Own B w' v n f := by
  obtain ⟨a, c, rfl, h1, h2, h3, h4⟩ := h
  refine ⟨a, c, rfl, h1, h2, h3, fun hn => ?_⟩
  obtain ⟨b, off, rfl, h7, h5, h6⟩ := h4 hn
  exact ⟨b, off, rfl, h7, fun i hi => (hb.cell (block_lt_of_cell (h5 i hi))).trans (h5 i hi), fun i hi => (hb.frozen (block_lt_of_cell (h5 i hi))).trans (h6 i hi)⟩

/-- A store into another block, or behind draws: what is owned stays. -/
theorem Own.set {B w v n f} (h : Own B w v n f) (p : Addr) (u : Value) (hp : p.block < B) : Own B (w.setCell p u) v n f := by
  obtain ⟨a, c, rfl, h1, h2, h3, h4⟩ := h
  refine ⟨a, c, rfl, h1, h2, h3, fun hn => ?_⟩
  obtain ⟨b, off, rfl, h7, h5, h6⟩ := h4 hn
  refine ⟨b, off, rfl, h7, fun i hi => ?_, fun i hi => ?_⟩
  · rw [← h5 i hi]; simp only [World.cell?]; rw [Below.heap_setCell _ _ _ _ (by omega)]
  · rw [← h6 i hi]; simp only [World.frozen?]; rw [Below.heap_setCell _ _ _ _ (by omega)]

/-- The 81 cells of a magnitude: 80 limbs, the count. -/
structure MagC (cs : Array Value) (n : Nat) (f : Nat → Nat) : Prop where
  size : cs.size = 81
  limb : ∀ i, i < 80 → cs[i]? = some (.int .u32 (f i))
  count : cs[80]? = some (.int .i64 n)

/-- A block that holds a magnitude. -/
def MagAt (w : World) (b n : Nat) (f : Nat → Nat) : Prop := ∃ cs, w.heap[b]? = some (.cells cs 63 (0, 0)) ∧ MagC cs n f

/-- Nothing but block g has turned. -/
structure Only (g : Nat) (w w' : World) : Prop where
  os : w'.os = w.os
  tape : w'.tape = w.tape
  output : w'.output = w.output
  size : w'.heap.size = w.heap.size
  block : ∀ k, k ≠ g → w'.heap[k]? = w.heap[k]?

theorem Only.below {g B w w'} (h : Only g w w') (hB : B ≤ g) : Below B w w' := ⟨h.os, h.tape, h.output, by have := h.size; omega, fun k hk => h.block k (by omega)⟩

theorem Only.refl (g w) : Only g w w := ⟨rfl, rfl, rfl, rfl, fun _ _ => rfl⟩

theorem Only.trans {g a b c} (h : Only g a b) (k : Only g b c) : Only g a c := ⟨k.os.trans h.os, k.tape.trans h.tape, k.output.trans h.output, k.size.trans h.size, fun i hi => (k.block i hi).trans (h.block i hi)⟩

theorem Only.setCell (w : World) (p : Addr) (u : Value) : Only p.block w (w.setCell p u) := ⟨rfl, rfl, rfl, by simp [World.setCell], fun k hk => Below.heap_setCell _ _ _ _ hk⟩

theorem Only.cell {g w w'} (h : Only g w w') (b o : Nat) (hb : b ≠ g) : w'.cell? ⟨b, o, none⟩ = w.cell? ⟨b, o, none⟩ := by simp only [World.cell?]; rw [h.block b hb]

theorem Only.frozen {g w w'} (h : Only g w w') (b o : Nat) (hb : b ≠ g) : w'.frozen? ⟨b, o, none⟩ = w.frozen? ⟨b, o, none⟩ := by simp only [World.frozen?]; rw [h.block b hb]

theorem MagAt.below {B w w' b n f} (h : MagAt w b n f) (ho : Below B w w') (hb : b < B) : MagAt w' b n f := by
  obtain ⟨cs, h1, h2⟩ := h
  exact ⟨cs, (ho.block b hb).trans h1, h2⟩

theorem MagAt.limb {w b n f} (h : MagAt w b n f) (i : Nat) (hi : i < 80) : w.cell? ⟨b, i, none⟩ = some (.int .u32 (f i)) := by
  obtain ⟨cs, h1, h2⟩ := h
  rw [cell_of_block h1]; exact h2.limb i hi

theorem MagAt.count {w b n f} (h : MagAt w b n f) : w.cell? ⟨b, 80, none⟩ = some (.int .i64 n) := by
  obtain ⟨cs, h1, h2⟩ := h
  rw [cell_of_block h1]; exact h2.count

theorem MagAt.frozen {w b n f} (h : MagAt w b n f) (i : Nat) : w.frozen? ⟨b, i, none⟩ = false := by
  obtain ⟨cs, h1, h2⟩ := h
  exact unfrozen_of_block h1 _

theorem MagAt.lt {w b n f} (h : MagAt w b n f) : b < w.heap.size := block_lt_of_cell h.count

def upd (f : Nat → Nat) (i x : Nat) : Nat → Nat := fun j => if j = i then x else f j

def ext (n : Nat) (f : Nat → Nat) : Nat → Nat := fun i => if i < n then f i else 0

def trimN (f : Nat → Nat) : Nat → Nat
  | 0 => 0
  | n + 1 => if f n = 0 then trimN f n else n + 1

theorem trimN_le (f : Nat → Nat) (n : Nat) : trimN f n ≤ n := by
  induction n with
  | zero => exact Nat.le_refl _
  | succ n ih => unfold trimN; split <;> omega

def U32s (n : Nat) (f : Nat → Nat) : List Value := (List.range n).map fun i => Value.int .u32 (f i)

theorem U32s_length (n : Nat) (f : Nat → Nat) : (U32s n f).length = n := by simp [U32s]

theorem U32s_get (n : Nat) (f : Nat → Nat) (i : Nat) (h : i < n) : (U32s n f)[i]? = some (.int .u32 (f i)) := by simp [U32s, h]

theorem U32s_app (n m : Nat) (f g : Nat → Nat) : U32s n f ++ U32s m g = U32s (n + m) (fun i => if i < n then f i else g (i - n)) := by
  apply List.ext_getElem?
  intro i
  by_cases h : i < n
  · rw [List.getElem?_append_left (by rw [U32s_length]; exact h), U32s_get _ _ _ h, U32s_get _ _ _ (by omega), if_pos h]
  · rw [List.getElem?_append_right (by rw [U32s_length]; omega), U32s_length]
    by_cases h2 : i < n + m
    · rw [U32s_get _ _ _ (by omega), U32s_get _ _ _ h2, if_neg h]
    · rw [List.getElem?_eq_none (by rw [U32s_length]; omega), List.getElem?_eq_none (by rw [U32s_length]; omega)]

theorem U32s_congr {n : Nat} {f g : Nat → Nat} (h : ∀ i, i < n → f i = g i) : U32s n f = U32s n g := by
  unfold U32s
  apply List.map_congr_left
  intro i hi
  rw [h i (by simpa using hi)]

theorem addAt (b o j : Nat) : (⟨b, o, none⟩ : Addr).add j = ⟨b, o + j, none⟩ := by unfold Addr.add; split <;> simp_all

/-- A slice that the call itself has made, with whatever room. -/
def Row (B : Nat) (w : World) (v : Value) (n : Nat) (f : Nat → Nat) : Prop := w.ownsRow B 70 1 v n (U32s n f)

theorem Row.own {B w v n f} (h : Row B w v n f) (hf : ∀ i, i < n → f i < 4294967296) : Own B w v n f := by
  obtain ⟨h1, h2⟩ := h
  rcases h2 with ⟨rfl, rfl⟩ | ⟨g, cap, cur, rfl, hb, hg, hn, hc, hs, ht⟩
  · exact ⟨none, 0, rfl, Nat.le_refl _, ⟨by unfold maxLen; omega, fun _ => rfl⟩, fun i hi => by omega, fun h => by omega⟩
  · refine ⟨_, cap, rfl, hn, ⟨hc, fun e => by cases e⟩, hf, fun _ => ⟨g, 0, rfl, hb, fun i hi => ?_, fun i _ => unfrozen_of_block hg _⟩⟩
    rw [cell_of_block hg, Nat.zero_add]
    have := congrArg (fun l => l[i]?) ht
    simp only [U32s_get _ _ _ hi] at this
    rw [List.getElem?_take, if_pos (by omega)] at this
    simpa using this

theorem wpList_appendU {ops : Array Oper} {rest : List Oper} {o : Oper} {a : Act} {w : World} {Q : Exit → Act → World → Prop} (s x : Operand) (B : Nat) (v sv : Value) (n m : Nat) (f g : Nat → Nat)
    (hown : Row B w v n f) (hL : Lim w sv m g) (hnil : NilOk sv) (hb : n + m ≤ 1073741824) (hbase : B ≤ w.heap.size)
    (hgd : o.guard = none) (ho : o.op = .call { callee := .builtin .append, args := #[s, x], argTypes := #[59, 59] }) (hs : a.eval s = v) (hx : a.eval x = sv)
    (h : ∀ v' w', Row B w' v' (n + m) (fun i => if i < n then f i else g (i - n)) → Below B w w' → wpList Tryd.prog ops Q rest (a.put o.dst v') w') : wpList Tryd.prog ops Q (o :: rest) a w := by
  obtain ⟨i0, hi, hz0, hz1, hz2⟩ := info_parts Tryd.info70
  obtain ⟨sa, sc, rfl, h1, h2, h3, h4⟩ := hL
  cases sa with
  | none =>
    have hm : m = 0 := by
      rcases Nat.eq_zero_or_pos m with h0 | hp
      · exact h0
      · obtain ⟨b, off, e, _⟩ := h4 hp; cases e
    have hc : sc = 0 := hnil _ _ rfl
    subst hm hc
    refine wpList_append_own_none hgd s x 59 ho B 70 i0 1 Tryd.underlying59 hi v n _ hs hown hx ?_
    refine h v w ?_ (Below.refl _ _)
    show w.ownsRow B 70 1 v n (U32s n _)
    rw [U32s_congr (g := f) (fun i hi => by simp [hi])]
    exact hown
  | some ad =>
    refine wpList_append_own w hgd s x 59 ho B 70 i0 (.int .u32 0) 1 4 Tryd.underlying59 hi hz0 hz1 hz2 rfl (by decide) v n _ hs hown ad m sc (U32s m g) hx (by rw [U32s_length]; omega) ?_ ?_ (by unfold maxLen; omega) (by omega) hbase ?_
    · intro j u hj
      have hjm : j < m := by have := (List.getElem?_eq_some_iff.1 hj).1; rwa [U32s_length] at this
      obtain ⟨b, off, e, h5⟩ := h4 (by omega)
      rw [U32s_get _ _ _ hjm] at hj
      rw [← hj, Option.some.inj e, addAt]
      exact h5 j hjm
    · intro u hu
      simp only [U32s, List.mem_map] at hu
      obtain ⟨i, _, rfl⟩ := hu
      rfl
    · intro v' w' h5 h6 _
      rw [U32s_app] at h5
      exact h v' w' h5 ((Below.refl _ _).grown h6 hbase (fun k hk => (hown.lt k hk).1))

theorem Row.empty (w : World) (f : Nat → Nat) : Row w.heap.size (w.alloc (.cells #[] 70)) (.slice (some ⟨w.heap.size, 0, none⟩) 0 0) 0 f :=
  ⟨by simp [U32s], .inr ⟨w.heap.size, 0, #[], rfl, Nat.le_refl _, heap_alloc_new _ _, Nat.le_refl _, by unfold maxLen; omega, by simp, by simp [U32s]⟩⟩

theorem Row.eq {B w v n n' f f'} (h : Row B w v n f) (hn : n = n') (hf : ∀ i, i < n' → f i = f' i) : Row B w v n' f' := by
  subst hn
  show w.ownsRow B 70 1 v n (U32s n f')
  rw [← U32s_congr hf]; exact h

theorem Lim.take {w a n c f} (h : Lim w (.slice a n c) n f) (k : Nat) (hk : k ≤ n) : Lim w (.slice a k c) k f := by
  obtain ⟨a', c', e, h1, h2, h3, h4⟩ := h
  simp only [Value.slice.injEq] at e
  obtain ⟨rfl, -, rfl⟩ := e
  refine ⟨a, c, rfl, by omega, h2, fun i hi => h3 i (by omega), fun hp => ?_⟩
  obtain ⟨b, off, e, h5⟩ := h4 (by omega)
  exact ⟨b, off, e, fun i hi => h5 i (by omega)⟩

theorem nilOk_some (b : Addr) (n c : Nat) : NilOk (.slice (some b) n c) := fun _ _ e => by cases e

set_option maxHeartbeats 400000 in
set_option maxRecDepth 100000 in
theorem trim_some (b off n c : Nat) (f : Nat → Nat) (w : World) (hL : Lim w (.slice (some ⟨b, off, none⟩) n c) n f) (hn : n ≤ 2097152) (hp : 0 < n) (hcn : n ≤ c)
    (hc : ∀ i, i < n → w.cell? ⟨b, off + i, none⟩ = some (.int .u32 (f i))) :
    Calls Tryd.prog 30 #[.slice (some ⟨b, off, none⟩) n c] w fun e w' => ∃ v', e = .returned v' ∧ Row w.heap.size w' v' (trimN f n) f ∧ Below w.heap.size w w' := by
  go_enter Tryd.func30, Tryd.ntmps30
  go_wp2
  go_loop [3] (fun i => ∃ k : Nat, k ≤ n ∧ i = .int .i64 k ∧ trimN f k = trimN f n) (fun i => (intOf i).toNat)
  case atStart => exact ⟨n, Nat.le_refl _, rfl, rfl⟩
  case round =>
    obtain ⟨k, hk, rfl, he⟩ := hrel
    have He : Hid (trimN f k = trimN f n) := he
    clear he
    rcases Nat.eq_zero_or_pos k with hz | hp
    · subst hz
      go_wp2
      go_ret
      exact ⟨_, rfl, by rw [← He.out]; exact Row.empty w f, below_alloc1 _ _⟩
    · obtain ⟨j, rfl⟩ : ∃ j, k = j + 1 := ⟨k - 1, by omega⟩
      have g1 := hc j (by omega)
      by_cases h0 : f j = 0
      · have h0' : (((f j : Nat) : Int) == 0) = true := by simp [h0]
        have HH : Hid (trimN f j = trimN f n) := by rw [← He.out]; simp [trimN, h0, Hid]
        clear h0 He hc
        go_wp2
        go_round
        case rel => exact ⟨j, by omega, by go_num, HH.out⟩
        case measure => simp [intOf]
      · have h0' : (((f j : Nat) : Int) == 0) = false := by simp [h0]
        have HH : Hid (trimN f n = j + 1) := by rw [← He.out]; simp [trimN, h0, Hid]
        clear He h0 hc
        have hl := (hL.take (j + 1) hk).below (below_alloc1 w (.cells #[] 70))
        go_wp2_with (at_builtin; (with_reducible refine wpList_appendU (.tmp 18) (.tmp 21) w.heap.size _ _ 0 (j + 1) f f (Row.empty w f) hl (nilOk_some _ _ _) ?_ ?_ ?_ ?_ ?_ ?_ ?_); omega; (simp); rfl; rfl; rfl; rfl; intro v' w' hr hb)
        go_ret
        exact ⟨v', rfl, by rw [HH.out]; exact hr.eq (by omega) (fun i _ => by simp), (below_alloc1 _ _).trans hb⟩

set_option maxHeartbeats 400000 in
set_option maxRecDepth 100000 in
theorem trim_none (a : Option Addr) (c : Nat) (f : Nat → Nat) (w : World) (hnil : NilOk (.slice a 0 c)) :
    Calls Tryd.prog 30 #[.slice a 0 c] w fun e w' => ∃ v', e = .returned v' ∧ Row w.heap.size w' v' 0 f ∧ Below w.heap.size w w' := by
  cases a with
  | none =>
    have hc : c = 0 := hnil _ _ rfl
    subst hc
    clear hnil
    go_enter Tryd.func30, Tryd.ntmps30
    go_wp2
    go_loop [3] (fun i => i = .int .i64 0) (fun _ => 0)
    case atStart => rfl
    case round =>
      obtain rfl := hrel
      go_wp2
      go_ret
      exact ⟨_, rfl, Row.empty w f, below_alloc1 _ _⟩
  | some x =>
    clear hnil
    go_enter Tryd.func30, Tryd.ntmps30
    go_wp2
    go_loop [3] (fun i => i = .int .i64 0) (fun _ => 0)
    case atStart => rfl
    case round =>
      obtain rfl := hrel
      go_wp2
      go_ret
      exact ⟨_, rfl, Row.empty w f, below_alloc1 _ _⟩

theorem trim_any {v : Value} {n : Nat} {f : Nat → Nat} {w : World} (hL : Lim w v n f) (hnil : NilOk v) (hn : n ≤ 2097152) :
    Calls Tryd.prog 30 #[v] w fun e w' => ∃ v', e = .returned v' ∧ Row w.heap.size w' v' (trimN f n) f ∧ Below w.heap.size w w' := by
  obtain ⟨a, c, rfl, h1, h2, h3, h4⟩ := id hL
  rcases Nat.eq_zero_or_pos n with rfl | hp
  · exact trim_none a c f w hnil
  · obtain ⟨b, off, rfl, h5⟩ := h4 hp
    exact trim_some b off n c f w hL hn hp h1 h5

set_option maxHeartbeats 400000 in
theorem make_any (m : Bool) (a : Option Addr) (n c : Nat) (w : World) :
    Calls Tryd.prog 29 #[.bool m, .slice a n c] w fun e w' => e = .returned (.agg #[.bool (m && decide (0 < n)), .slice a n c]) ∧ Below w.heap.size w w' := by
  cases m
  · go_enter Tryd.func29, Tryd.ntmps29
    go_wp2
    refine bodyPost_ret (v := .agg #[.bool false, .slice a n c]) (by simp [results, Tryd.results29, go_sem]) rfl ⟨by simp, ?_⟩
    exact below_alloc1 _ _
  · go_enter Tryd.func29, Tryd.ntmps29
    go_wp2
    refine bodyPost_ret (v := .agg #[.bool (decide (0 < n)), .slice a n c]) (by simp [results, Tryd.results29, go_sem]) rfl ⟨by simp, ?_⟩
    exact below_alloc1 _ _

def two (U : Nat) : Nat → Nat := fun i => if i = 0 then U % 4294967296 else if i = 1 then U / 4294967296 else 0

theorem two_lt (U : Nat) (h : U ≤ 9223372036854775808) (i : Nat) : two U i < 4294967296 := by
  unfold two
  split
  · omega
  · split <;> omega

theorem lim_two (W : World) (U : Nat) (p q : Int) (b : Nat) (hb : b = W.heap.size) (h : U ≤ 9223372036854775808) (hp : p = ((U % 4294967296 : Nat) : Int)) (hq : q = ((U / 4294967296 : Nat) : Int)) :
    Lim (W.alloc (.cells #[.int .u32 p, .int .u32 q] 70)) (.slice (some ⟨b, 0, none⟩) 2 2) 2 (two U) := by
  subst hb hp hq
  refine ⟨_, 2, rfl, Nat.le_refl _, by unfold maxLen; omega, fun i _ => two_lt U h i, fun _ => ⟨_, 0, rfl, fun i hi => ?_⟩⟩
  match i, hi with
  | 0, _ => simp [two]
  | 1, _ => simp [two]

theorem wneg (U : Nat) (h : U ≤ 9223372036854775808) : IntKind.u64.wrap (-IntKind.u64.wrap (-(U : Int))) = U := by
  rw [IntKind.wrap_u64, IntKind.wrap_u64]; omega

structure Res2 (wx : World) (b : Nat) (x0 x1 : Value) : Prop where
  c0 : wx.cell? ⟨b, 0, none⟩ = some x0
  c1 : wx.cell? ⟨b, 1, none⟩ = some x1
  f0 : wx.frozen? ⟨b, 0, none⟩ = false
  f1 : wx.frozen? ⟨b, 1, none⟩ = false
  lt : b < wx.heap.size

theorem Res2.start (w : World) (x0 x1 : Value) (t : TypeId) : Res2 (w.alloc (.cells #[x0, x1] t)) w.heap.size x0 x1 := ⟨by simp, by simp, by simp, by simp, by simp⟩

theorem Res2.next {w1 w2 : World} {b : Nat} {x0 x1 : Value} (h : Res2 w1 b x0 x1) (hb : Below w1.heap.size w1 w2) : Res2 w2 b x0 x1 :=
  have hz := h.lt
  ⟨(hb.cell (p := ⟨b, 0, none⟩) hz).trans h.c0, (hb.cell (p := ⟨b, 1, none⟩) hz).trans h.c1, (hb.frozen (p := ⟨b, 0, none⟩) hz).trans h.f0, (hb.frozen (p := ⟨b, 1, none⟩) hz).trans h.f1, by have := hb.size; omega⟩

theorem Own.less {B B' w v n f} (h : Own B w v n f) (hb : B' ≤ B) : Own B' w v n f := by
  obtain ⟨a, c, rfl, h1, h2, h3, h4⟩ := h
  refine ⟨a, c, rfl, h1, h2, h3, fun hn => ?_⟩
  obtain ⟨b, off, rfl, h7, h5, h6⟩ := h4 hn
  exact ⟨b, off, rfl, by omega, h5, h6⟩


set_option maxHeartbeats 1000000 in
set_option maxRecDepth 100000 in
theorem sOf_pos (U : Nat) (w : World) (h1 : U ≤ 9223372036854775807) (n : Nat) (Hn : Hid (trimN (two U) 2 = n)) :
    Calls Tryd.prog 24 #[.int .i64 (U : Int)] w fun e w' => ∃ v', e = .returned (.agg #[.bool (false && decide (0 < n)), v']) ∧ Own w.heap.size w' v' n (two U) ∧ Below w.heap.size w w' := by
  have hd : decide ((U : Int) < 0) = false := by simp
  go_enter Tryd.func24, Tryd.ntmps24
  go_wp2_with fail
  refine (trim_any (lim_two _ U _ _ _ (by simp) (by omega) (by omega) (by omega)) (nilOk_some _ _ _) (by omega)).mono ?_
  rintro e w1 ⟨v1, rfl, hr1, hb1⟩
  rw [Hn.out] at hr1
  have ho1 := (hr1.own (fun i _ => two_lt U (by omega) i)).less (B' := w.heap.size + 1) (by simp)
  obtain ⟨a1, c1, rfl, -⟩ := id ho1
  have t1 := ((Res2.start w (.bool false) (.slice none 0 0) 61).next (below_alloc1 _ _)).next hb1
  have bel1 := (below_alloc2 w _ _).trans (hb1.mono (by simp; omega))
  clear hb1 hr1
  go_wp2_with fail
  refine (make_any _ a1 n c1 _).mono ?_
  rintro e w2 ⟨rfl, hb2⟩
  have t2 := t1.next hb2
  have ho2 := ho1.below hb2
  have bel2 := bel1.trans (hb2.mono (by have := t1.lt; omega))
  clear hb2 t1 ho1 bel1
  obtain ⟨c0, c1', f0, f1, lt⟩ := id t2
  go_wp2_with fail
  refine bodyPost_ret (v := .agg #[.bool (false && decide (0 < n)), .slice a1 n c1]) (by simp [results, Tryd.results24, go_sem, c0, c1']) rfl ⟨.slice a1 n c1, rfl, ?_, ?_⟩
  · exact ((ho2.set _ _ (by simp)).set _ _ (by simp)).less (by omega)
  · exact (bel2.setCell (by simp) _).setCell (by simp) _

set_option maxHeartbeats 1000000 in
set_option maxRecDepth 100000 in
theorem sOf_neg (U : Nat) (w : World) (h0 : 0 < U) (h1 : U ≤ 9223372036854775808) (n : Nat) (Hn : Hid (trimN (two U) 2 = n)) :
    Calls Tryd.prog 24 #[.int .i64 (-(U : Int))] w fun e w' => ∃ v', e = .returned (.agg #[.bool (true && decide (0 < n)), v']) ∧ Own w.heap.size w' v' n (two U) ∧ Below w.heap.size w w' := by
  have hneg : -(U : Int) < 0 := by omega
  go_enter Tryd.func24, Tryd.ntmps24
  go_wp2_with fail
  rw [wneg U h1]
  refine (trim_any (lim_two _ U _ _ _ (by simp) (by omega) (by omega) (by omega)) (nilOk_some _ _ _) (by omega)).mono ?_
  rintro e w1 ⟨v1, rfl, hr1, hb1⟩
  rw [Hn.out] at hr1
  have ho1 := (hr1.own (fun i _ => two_lt U (by omega) i)).less (B' := w.heap.size + 1) (by simp)
  obtain ⟨a1, c1, rfl, -⟩ := id ho1
  have t1 := ((Res2.start w (.bool false) (.slice none 0 0) 61).next (below_alloc1 _ _)).next hb1
  have bel1 := (below_alloc2 w _ _).trans (hb1.mono (by simp; omega))
  clear hb1 hr1
  go_wp2_with fail
  refine (make_any _ a1 n c1 _).mono ?_
  rintro e w2 ⟨rfl, hb2⟩
  have t2 := t1.next hb2
  have ho2 := ho1.below hb2
  have bel2 := bel1.trans (hb2.mono (by have := t1.lt; omega))
  clear hb2 t1 ho1 bel1
  obtain ⟨c0, c1', f0, f1, lt⟩ := id t2
  go_wp2_with fail
  refine bodyPost_ret (v := .agg #[.bool (true && decide (0 < n)), .slice a1 n c1]) (by simp [results, Tryd.results24, go_sem, c0, c1']) rfl ⟨.slice a1 n c1, rfl, ?_, ?_⟩
  · exact ((ho2.set _ _ (by simp)).set _ _ (by simp)).less (by omega)
  · exact (bel2.setCell (by simp) _).setCell (by simp) _

def faultB (m : Bool) (n : Nat) (f : Nat → Nat) : Bool := if n = 0 then m else decide (40 < n) || (f (n - 1) == 0)

theorem ret_bool {a b : Bool} (h : a = b) : Ending.returned (.bool a) = .returned (.bool b) := by rw [h]

set_option maxHeartbeats 400000 in
theorem sFault_any (m : Bool) (v : Value) (n : Nat) (f : Nat → Nat) (w : World) (hL : Lim w v n f) :
    Calls Tryd.prog 27 #[.agg #[.bool m, v]] w fun e w' => e = .returned (.bool (faultB m n f)) ∧ Below w.heap.size w w' := by
  obtain ⟨a, c, rfl, h1, h2, h3, h4⟩ := id hL
  unfold maxLen at h2
  by_cases hz : n = 0
  · have e : faultB m n f = m := by simp [faultB, hz]
    rw [e]
    clear hL h3 h4 e
    go_enter Tryd.func27, Tryd.ntmps27
    go_wp2
    go_ret
    exact ⟨ret_bool (by simp), below_alloc1 _ _⟩
  · by_cases hg : 40 < n
    · have e : faultB m n f = true := by simp [faultB, hz, hg]
      rw [e]
      clear hL h3 h4 e
      go_enter Tryd.func27, Tryd.ntmps27
      go_wp2
      go_ret
      exact ⟨ret_bool (by simp), below_alloc1 _ _⟩
    · obtain ⟨k, rfl⟩ : ∃ k, n = k + 1 := ⟨n - 1, by omega⟩
      obtain ⟨b, off, rfl, h5⟩ := h4 (by omega)
      have hbl := block_lt_of_cell (h5 k (by omega))
      have g1 : w.cell? ⟨b, off + k, none⟩ = some (.int .u32 (f k)) := h5 k (by omega)
      have e : faultB m (k + 1) f = (f k == 0) := by simp [faultB]; omega
      rw [e]
      clear hL h3 h4 e
      go_enter Tryd.func27, Tryd.ntmps27
      go_wp2
      all_goals
        go_ret
        exact ⟨ret_bool (by first | (rw [Bool.eq_iff_iff]; done) | (rw [Bool.eq_iff_iff]; simp; done) | (rw [Bool.eq_iff_iff]; simp; omega)), below_alloc1 _ _⟩

structure Box2 (w w1 : World) (x0 x1 y0 y1 : Value) : Prop where
  a0 : w1.cell? ⟨w.heap.size, 0, none⟩ = some x0
  a1 : w1.cell? ⟨w.heap.size, 1, none⟩ = some x1
  b0 : w1.cell? ⟨w.heap.size + 1, 0, none⟩ = some y0
  b1 : w1.cell? ⟨w.heap.size + 1, 1, none⟩ = some y1
  z : w.heap.size + 1 < w1.heap.size
  bel : Below w.heap.size w w1

theorem Box2.start (w : World) (x0 x1 y0 y1 : Value) (t s : TypeId) : Box2 w ((w.alloc (.cells #[x0, x1] t)).alloc (.cells #[y0, y1] s)) x0 x1 y0 y1 :=
  ⟨by simp, by simp, by simp, by simp, by simp, below_alloc2 _ _ _⟩

theorem Box2.next {w w1 w2 : World} {x0 x1 y0 y1 : Value} (h : Box2 w w1 x0 x1 y0 y1) (hb : Below w1.heap.size w1 w2) : Box2 w w2 x0 x1 y0 y1 :=
  have hz := h.z
  ⟨(hb.cell (p := ⟨w.heap.size, 0, none⟩) (by simp; omega)).trans h.a0, (hb.cell (p := ⟨w.heap.size, 1, none⟩) (by simp; omega)).trans h.a1,
   (hb.cell (p := ⟨w.heap.size + 1, 0, none⟩) (by simp; omega)).trans h.b0, (hb.cell (p := ⟨w.heap.size + 1, 1, none⟩) (by simp; omega)).trans h.b1,
   by have := hb.size; omega, h.bel.trans (hb.mono (by omega))⟩

/-- The number that n limbs say. -/
def val (f : Nat → Nat) : Nat → Nat
  | 0 => 0
  | n + 1 => val f n + f n * 4294967296 ^ n

theorem pow_pos' (n : Nat) : 0 < 4294967296 ^ n := Nat.pos_of_ne_zero (by simp)

theorem pow_s (n : Nat) : 4294967296 ^ (n + 1) = 4294967296 * 4294967296 ^ n := by rw [Nat.pow_succ, Nat.mul_comm]

theorem val_lt {f : Nat → Nat} (hf : ∀ i, f i < 4294967296) (n : Nat) : val f n < 4294967296 ^ n := by
  induction n with
  | zero => simp [val]
  | succ n ih =>
    unfold val
    rw [pow_s]
    have h := hf n
    have h2 : f n * 4294967296 ^ n ≤ 4294967295 * 4294967296 ^ n := Nat.mul_le_mul_right _ (by omega)
    generalize 4294967296 ^ n = p at *
    generalize f n * p = q at *
    omega

theorem val_zeros {f : Nat → Nat} {k n : Nat} (hk : k ≤ n) (h : ∀ i, k ≤ i → i < n → f i = 0) : val f n = val f k := by
  induction n with
  | zero => have : k = 0 := by omega
            subst this; rfl
  | succ n ih =>
    by_cases e : k = n + 1
    · subst e; rfl
    · show val f n + f n * 4294967296 ^ n = val f k
      rw [h n (by omega) (by omega), Nat.zero_mul, Nat.add_zero]
      exact ih (by omega) (fun i h1 h2 => h i h1 (by omega))

theorem trimN_zero (f : Nat → Nat) (n i : Nat) (h1 : trimN f n ≤ i) (h2 : i < n) : f i = 0 := by
  induction n with
  | zero => omega
  | succ n ih =>
    unfold trimN at h1
    by_cases h : f n = 0
    · rw [if_pos h] at h1
      by_cases e : i = n
      · rw [e]; exact h
      · exact ih h1 (by omega)
    · rw [if_neg h] at h1; omega

theorem trimN_top (f : Nat → Nat) (n : Nat) (h : 0 < trimN f n) : f (trimN f n - 1) ≠ 0 := by
  induction n with
  | zero => simp [trimN] at h
  | succ n ih =>
    unfold trimN at h ⊢
    by_cases e : f n = 0
    · rw [if_pos e] at h ⊢; exact ih h
    · rw [if_neg e]; exact e

theorem val_trim (f : Nat → Nat) (n : Nat) : val f (trimN f n) = val f n := (val_zeros (trimN_le f n) (fun i h1 h2 => trimN_zero f n i h1 h2)).symm

/-- Limbs without a 0 on top: the number says how many there are, and which. -/
theorem val_top {f : Nat → Nat} {n : Nat} (h : f n ≠ 0) : 4294967296 ^ n ≤ val f (n + 1) := by
  unfold val
  have : 1 * 4294967296 ^ n ≤ f n * 4294967296 ^ n := Nat.mul_le_mul_right _ (by omega)
  omega

theorem or_hi (lo hi : Nat) (h1 : lo < 4294967296) (h2 : hi < 4294967296) : bits .or .u64 ((hi : Int) * 4294967296) (lo : Int) = ((hi * 4294967296 + lo : Nat) : Int) := by
  have e : (hi : Int) * 4294967296 = ((hi * 4294967296 : Nat) : Int) := by omega
  rw [e, u64_or_nat _ _ (by omega) (by omega)]
  have := Nat.two_pow_add_eq_or_of_lt (i := 32) (b := lo) (by simpa using h1) hi
  rw [show 2 ^ 32 * hi = hi * 4294967296 from by omega] at this
  rw [this]

/-- The remainder behind j limbs from the top, and the quotient's limbs. -/
def dr (f : Nat → Nat) (d n : Nat) : Nat → Nat
  | 0 => 0
  | j + 1 => (dr f d n j * 4294967296 + f (n - 1 - j)) % d

def dq (f : Nat → Nat) (d n i : Nat) : Nat := (dr f d n (n - 1 - i) * 4294967296 + f i) / d

def topv (f : Nat → Nat) (n : Nat) : Nat → Nat
  | 0 => 0
  | j + 1 => topv f n j * 4294967296 + f (n - 1 - j)

theorem dr_lt {f : Nat → Nat} {d n : Nat} (hd : 0 < d) (j : Nat) : dr f d n j < d := by
  cases j with
  | zero => exact hd
  | succ j => exact Nat.mod_lt _ hd

theorem dq_lt {f : Nat → Nat} {d n : Nat} (hd : 0 < d) (hf : ∀ i, f i < 4294967296) (i : Nat) : dq f d n i < 4294967296 := by
  unfold dq
  rw [Nat.div_lt_iff_lt_mul hd]
  have h1 := dr_lt (f := f) (n := n) hd (n - 1 - i)
  have h2 := hf i
  have h3 : (dr f d n (n - 1 - i) + 1) * 4294967296 ≤ d * 4294967296 := Nat.mul_le_mul_right _ (by omega)
  rw [Nat.mul_comm 4294967296 d]
  omega

theorem topv_val (f : Nat → Nat) (n : Nat) : ∀ j, j ≤ n → val f n = topv f n j * 4294967296 ^ (n - j) + val f (n - j) := by
  intro j
  induction j with
  | zero => intro _; simp [topv]
  | succ j ih =>
    intro hj
    rw [ih (by omega)]
    obtain ⟨k, hk⟩ : ∃ k, n - j = k + 1 := ⟨n - j - 1, by omega⟩
    rw [hk, show n - (j + 1) = k from by omega]
    show topv f n j * 4294967296 ^ (k + 1) + (val f k + f k * 4294967296 ^ k) = (topv f n j * 4294967296 + f (n - 1 - j)) * 4294967296 ^ k + val f k
    rw [show n - 1 - j = k from by omega, pow_s, Nat.add_mul, Nat.mul_assoc]
    omega

theorem topv_full (f : Nat → Nat) (n : Nat) : topv f n n = val f n := by
  have := topv_val f n n (Nat.le_refl _)
  simp [val] at this
  exact this.symm

theorem topv_div {f : Nat → Nat} {d n : Nat} (j : Nat) (hj : j ≤ n) : topv (dq f d n) n j * d + dr f d n j = topv f n j := by
  induction j with
  | zero => simp [topv, dr]
  | succ j ih =>
    have h := ih (by omega)
    show (topv (dq f d n) n j * 4294967296 + dq f d n (n - 1 - j)) * d + (dr f d n j * 4294967296 + f (n - 1 - j)) % d = topv f n j * 4294967296 + f (n - 1 - j)
    have e : dq f d n (n - 1 - j) = (dr f d n j * 4294967296 + f (n - 1 - j)) / d := by unfold dq; rw [show n - 1 - (n - 1 - j) = j from by omega]
    rw [e, ← h]
    have h2 := Nat.div_add_mod (dr f d n j * 4294967296 + f (n - 1 - j)) d
    rw [Nat.mul_comm d] at h2
    have h3 : (topv (dq f d n) n j * 4294967296) * d = topv (dq f d n) n j * d * 4294967296 := by rw [Nat.mul_assoc, Nat.mul_comm 4294967296 d, ← Nat.mul_assoc]
    rw [Nat.add_mul, h3, Nat.add_mul]
    omega

theorem val_div {f : Nat → Nat} {d n : Nat} (hd : 0 < d) : val (dq f d n) n = val f n / d ∧ dr f d n n = val f n % d := by
  have h := topv_div (f := f) (d := d) n (Nat.le_refl n)
  rw [topv_full, topv_full] at h
  have h1 := dr_lt (f := f) (n := n) hd n
  have h2 : val f n / d = val (dq f d n) n := by
    rw [← h, Nat.add_comm, Nat.add_mul_div_right _ _ hd, Nat.div_eq_of_lt h1, Nat.zero_add]
  refine ⟨h2.symm, ?_⟩
  have h3 := Nat.div_add_mod (val f n) d
  rw [h2, Nat.mul_comm] at h3
  omega

theorem Row.alloc {B w v n f} (h : Row B w v n f) (o : Obj) : Row B (w.alloc o) v n f := World.ownsRow.alloc h o

theorem extLt {w v n f} (h : Lim w v n f) (i : Nat) : ext n f i < 4294967296 := by
  obtain ⟨_, _, _, _, _, h3, _⟩ := h
  unfold ext; split
  · exact h3 i (by assumption)
  · omega

theorem Half.limb {w B n f} (h : Half w B n n f) (j : Nat) (hj : j < n) : w.cell? ⟨B, j, none⟩ = some (.int .u32 (f j)) := by
  obtain ⟨cs, h1, h2, h3⟩ := h
  rw [cell_of_block h1]; exact h3 j hj

theorem Half.setAt {w B n f} (h : Half w B n n f) (i x : Nat) (hi : i < n) : Half (w.setCell ⟨B, i, none⟩ (.int .u32 x)) B n n (upd f i x) := by
  obtain ⟨cs, h1, h2, h3⟩ := h
  refine ⟨_, block_setCell h1 _, by simp [h2], fun j hj => ?_⟩
  by_cases e : j = i
  · subst e; rw [Array.getElem?_setIfInBounds_self_of_lt (by rw [h2]; omega)]; simp [upd]
  · rw [Array.getElem?_setIfInBounds_ne (by omega)]; simp only [upd, if_neg e]; exact h3 j hj

theorem Half.eq {w B n f f'} (h : Half w B n n f) (he : ∀ i, i < n → f i = f' i) : Half w B n n f' := by
  obtain ⟨cs, h1, h2, h3⟩ := h
  exact ⟨cs, h1, h2, fun i hi => by rw [← he i hi]; exact h3 i hi⟩

theorem half_made (w : World) (n : Nat) : Half (w.alloc (.cells (madeCells #[.int .u32 0] n) 70)) w.heap.size n n (fun _ => 0) :=
  ⟨_, heap_alloc_new _ _, size_madeCells _ _, fun i hi => by simp [madeCells, hi, Nat.mod_one]⟩

/-- At most K decimal digits of N, none for 0. -/
def dec : Nat → Nat → List UInt8
  | 0, _ => []
  | K + 1, N => if N = 0 then [] else dec K (N / 10) ++ [UInt8.ofNat (48 + N % 10)]

theorem dec_zero (K : Nat) : dec K 0 = [] := by cases K <;> simp [dec]

theorem dec_step (K N : Nat) (h : 0 < N) : dec (K + 1) N = dec K (N / 10) ++ [UInt8.ofNat (48 + N % 10)] := by
  show (if N = 0 then _ else _) = _
  rw [if_neg (by omega)]

theorem pow10_s (K : Nat) : 10 ^ (K + 1) = 10 * 10 ^ K := by rw [Nat.pow_succ, Nat.mul_comm]

theorem dec_bound {K N : Nat} (h : N < 10 ^ (K + 1)) : N / 10 < 10 ^ K := by rw [pow10_s] at h; omega

theorem dec_fuel {K N : Nat} (h : N < 10 ^ K) (h0 : 0 < N) : ∃ K', K = K' + 1 := by
  cases K with
  | zero => simp at h; omega
  | succ K => exact ⟨K, rfl⟩

theorem big10 : (4294967296 : Nat) ^ 40 ≤ 10 ^ 386 := by decide +kernel

theorem hideD {p : Prop} (h : p) : Hid p := h

def strLen : Value → Nat | .string s => s.size | _ => 0

/-- The inner loop of l1Digits. -/
def NextSt (wy : World) (b n k : Nat) (f : Nat → Nat) : Prop := Half wy b n n (fun i => if k ≤ i then dq f 10 n i else 0)

set_option maxHeartbeats 2000000 in
set_option maxRecDepth 100000 in
theorem sDigits_pos (v : Value) (n : Nat) (f : Nat → Nat) (w : World) (hL : Lim w v n f) (hf : ∀ i, f i < 4294967296) (hp : 0 < n) (hn : n ≤ 40) (htop : 0 < n → f (n - 1) ≠ 0) :
    Calls Tryd.prog 28 #[v] w fun e w' => e = .returned (.string ⟨(dec 386 (val f n)).toArray⟩) ∧ Below w.heap.size w w' := by
  obtain ⟨a, c, rfl, -⟩ := id hL
  have hV : val f n < 10 ^ 386 := Nat.lt_of_lt_of_le (Nat.lt_of_lt_of_le (val_lt hf n) (Nat.pow_le_pow_right (by decide) hn)) big10
  have hn0 : ((n : Int) == 0) = false := by simp; omega
  go_enter Tryd.func28, Tryd.ntmps28
  go_wp2_with fail
  go_loopw [0, 3] (fun s0 s3 wr => ∃ (n' K : Nat) (f' : Nat → Nat) (out : List UInt8), n' ≤ 40 ∧ (∀ i, f' i < 4294967296) ∧ Lim wr s0 n' f' ∧ s3 = .string ⟨out.toArray⟩ ∧ K + out.length = 386 ∧ val f' n' < 10 ^ K ∧ dec 386 (val f n) = dec K (val f' n') ++ out ∧ (0 < n' → f' (n' - 1) ≠ 0) ∧ Below w.heap.size w wr) (fun _ s3 _ => 386 - strLen s3)
  case atStart => exact ⟨n, 386, f, [], hn, hf, hL, rfl, rfl, hV, by simp, htop, Below.refl _ _⟩
  case round =>
    obtain ⟨n', K, f', out, hn', hf', hL', rfl, hK, hV', hD, htop', bel'⟩ := hrel
    clear htop hL hV
    have HD : Hid (dec 386 (val f n) = dec K (val f' n') ++ out) := hD
    clear hD
    obtain ⟨a1, c1, rfl, k1, k2, -, k4⟩ := id hL'
    rcases Nat.eq_zero_or_pos n' with hz | hp'
    · subst hz
      have HE : Hid (dec 386 (val f n) = out) := by unfold Hid; rw [HD.out]; show dec K 0 ++ out = out; rw [dec_zero]; rfl
      go_wp2_with fail
      go_ret
      exact ⟨by rw [HE.out]; rfl, bel'⟩
    · obtain ⟨b1, off1, rfl, h5⟩ := k4 hp'
      have hVp : 0 < val f' n' := by
        obtain ⟨k, rfl⟩ : ∃ k, n' = k + 1 := ⟨n' - 1, by omega⟩
        have := val_top (htop' (by omega))
        have h2 := pow_pos' k
        simp only [Nat.add_sub_cancel] at this
        omega
      obtain ⟨K', rfl⟩ := dec_fuel hV' hVp
      have hmk := run_make_row' (P := Tryd.prog) 59 70 (.int .u32 0) 4 Tryd.underlying59 Tryd.info70 rfl .i64 .i64 n' (by omega) (by omega)
      have z1 := bel'.size
      have hb1 : b1 < wr.heap.size := block_lt_of_cell (h5 0 hp')
      have HF' : Hid (∀ i, f' i < 4294967296) := hf'
      have H5 : Hid (∀ i, i < n' → wr.cell? ⟨b1, off1 + i, none⟩ = some (.int .u32 (f' i))) := h5
      clear hf' h5 k4 hL'
      go_wp2_with fail
      clear hmk
      go_loopw [4, 6] (fun s4 s6 wy => ∃ k : Nat, k ≤ n' ∧ s6 = .int .i64 ((k : Int) - 1) ∧ s4 = .int .u64 (dr f' 10 n' (n' - k)) ∧ NextSt wy wr.heap.size n' k f' ∧ Below wr.heap.size wr wy) (fun _ s6 _ => (intOf s6 + 1).toNat)
      case atStart => exact ⟨n', Nat.le_refl _, rfl, by rw [Nat.sub_self]; rfl, (half_made wr n').eq (fun i hi => by rw [if_neg (by omega)]), below_alloc1 _ _⟩
      case round =>
        rename World => wy
        obtain ⟨k, hk, rfl, rfl, hm', bel2⟩ := hrel
        rcases Nat.eq_zero_or_pos k with hz | hp
        · subst hz
          have hb : dr f' 10 n' (n' - 0) < 10 := dr_lt (by omega) _
          simp only [Nat.sub_zero] at hb ⊢
          have Hr : Hid (dr f' 10 n' n' = val f' n' % 10) := (val_div (by omega)).2
          generalize dr f' 10 n' n' = r at *
          obtain ⟨ch, hch⟩ : ∃ ch, ch = UInt8.ofNat (48 + r) := ⟨_, rfl⟩
          have hcv : (convert 34 9 (.slice (some ⟨wy.heap.size, 0, none⟩) 1 1)).run Tryd.prog (wy.alloc (.cells #[.int .u8 (48 + (r : Int))] 5)) = .ok (.string ⟨#[ch]⟩) (wy.alloc (.cells #[.int .u8 (48 + (r : Int))] 5)) :=
            run_convert_bytes_back (P := Tryd.prog) (wy.alloc (.cells #[.int .u8 (48 + (r : Int))] 5)) 34 9 5 ⟨wy.heap.size, 0, none⟩ 1 [ch] Tryd.underlying34 Tryd.underlying5 Tryd.underlying9 (fun j hj => by
              have : j = 0 := by simpa using hj
              subst this
              simp [Addr.add, hch]
              omega)
          have Hch : Hid (ch = UInt8.ofNat (48 + r)) := hch
          clear hch
          have hol : (out.length : Int) ≤ 8388608 := by omega
          have hq := hm'.eq (f' := dq f' 10 n') (fun i _ => by rw [if_pos (Nat.zero_le _)])
          have ho := hq.own (B' := 0) rfl (Nat.zero_le _) (by unfold maxLen; omega) (fun i _ => dq_lt (by omega) HF'.out i)
          have z2 := bel2.size
          go_wp2_with fail
          refine (trim_any (ho.lim.below (below_alloc1 _ _)) ho.nil (by omega)).mono ?_
          rintro e w5 ⟨v5, rfl, hr5, hb5⟩
          have ho5 := hr5.own (fun i _ => dq_lt (by omega) HF'.out i)
          obtain ⟨a5, c5, rfl, -⟩ := id ho5
          have bel5 : Below w.heap.size w w5 := (((bel'.trans (bel2.mono z1)).alloc (by omega) _)).trans (hb5.mono (by simp; omega))
          have hvd := (val_div (f := f') (d := 10) (n := n') (by omega)).1
          have hvt := val_trim (dq f' 10 n') n'
          have hle := trimN_le (dq f' 10 n') n'
          have R : Hid (val (dq f' 10 n') (trimN (dq f' 10 n') n') < 10 ^ K' ∧ dec 386 (val f n) = dec K' (val (dq f' 10 n') (trimN (dq f' 10 n') n')) ++ (ch :: out)) := by
            unfold Hid
            rw [hvt, hvd]
            refine ⟨dec_bound hV', ?_⟩
            rw [HD.out, dec_step _ _ hVp, ← Hr.out, ← Hch.out]
            simp
          have Ht := hideD (trimN_top (dq f' 10 n') n')
          have Hlt := hideD (fun i => dq_lt (n := n') (show 0 < 10 by omega) HF'.out i)
          generalize trimN (dq f' 10 n') n' = n2 at *
          generalize dq f' 10 n' = f2 at *
          clear hcv hq ho hr5 hb5 hm' bel2 hvd hvt HD Hr hV' hVp
          go_wp2_with fail
          go_roundw
          case rel => exact ⟨n2, K', f2, ch :: out, by omega, Hlt.out, ho5.lim, congrArg Value.string (ByteArray.mk_append_mk [ch] out), by simp; omega, R.out.1, R.out.2, Ht.out, bel5⟩
          case measure =>
            have e : (ByteArray.mk #[ch] ++ ByteArray.mk out.toArray) = ByteArray.mk (ch :: out).toArray := ByteArray.mk_append_mk [ch] out
            have e1 : (ByteArray.mk (ch :: out).toArray).size = out.length + 1 := by simp [ByteArray.size]
            have e2 : (ByteArray.mk out.toArray).size = out.length := by simp [ByteArray.size]
            simp only [strLen, e, e1, e2]
            omega
        · obtain ⟨j, rfl⟩ : ∃ j, k = j + 1 := ⟨k - 1, by omega⟩
          have g1 : wy.cell? ⟨b1, off1 + j, none⟩ = some (.int .u32 (f' j)) := (bel2.cell (p := ⟨b1, off1 + j, none⟩) hb1).trans (H5.out j (by omega))
          have g3 := hm'.limb j (by omega)
          have g4 := hm'.frozen j
          have bf := HF'.out j
          have br : dr f' 10 n' (n' - (j + 1)) < 10 := dr_lt (by omega) _
          have er : Hid (dr f' 10 n' (n' - j) = (dr f' 10 n' (n' - (j + 1)) * 4294967296 + f' j) % 10) := by
            unfold Hid
            rw [show n' - j = n' - (j + 1) + 1 from by omega]
            show (dr f' 10 n' (n' - (j + 1)) * 4294967296 + f' (n' - 1 - (n' - (j + 1)))) % 10 = _
            rw [show n' - 1 - (n' - (j + 1)) = j from by omega]
          have eq : Hid (dq f' 10 n' j = (dr f' 10 n' (n' - (j + 1)) * 4294967296 + f' j) / 10) := by
            unfold Hid dq; rw [show n' - 1 - j = n' - (j + 1) from by omega]
          generalize dr f' 10 n' (n' - (j + 1)) = r at *
          have ei : (((j + 1 : Nat) : Int) - 1) = (j : Int) := by omega
          rw [ei]
          clear ei
          go_upto_region 11 with fail
          rw [or_hi _ _ bf (by omega)]
          have hX0 : r * 4294967296 + f' j ≤ 42949672959 := by omega
          generalize r * 4294967296 + f' j = X at *
          have eq' : Hid ((X : Int) / 10 = ((dq f' 10 n' j : Nat) : Int)) := by unfold Hid; rw [eq.out]; omega
          have er' : Hid ((X : Int) % 10 = ((dr f' 10 n' (n' - j) : Nat) : Int)) := by unfold Hid; rw [er.out]; omega
          clear eq er br bf g1
          go_wp2_with fail
          go_roundw
          case rel =>
            refine ⟨j, by omega, rfl, by rw [er'.out], ?_, bel2.setCell (by exact Nat.le_refl _) _⟩
            have := hm'.setAt j (dq f' 10 n' j) (by omega)
            rw [← eq'.out] at this
            refine this.eq (fun i hi => ?_)
            show (if i = j then _ else if j + 1 ≤ i then dq f' 10 n' i else 0) = if j ≤ i then dq f' 10 n' i else 0
            by_cases h : i = j
            · subst h; rw [if_pos rfl, if_pos (Nat.le_refl _)]
            · rw [if_neg h]
              by_cases h2 : j + 1 ≤ i
              · rw [if_pos h2, if_pos (by omega)]
              · rw [if_neg h2, if_neg (by omega)]
          case measure => simp [intOf]

/-- The text's array of 400 bytes: its last ones are 'out'. -/
def TxtAt (w : World) (b : Nat) (out : List UInt8) : Prop :=
  ∃ cs : Array Value, w.heap[b]? = some (.cells cs 102 (0, 0)) ∧ cs.size = 400 ∧ out.length ≤ 400 ∧ ∀ j (hj : j < out.length), cs[400 - out.length + j]? = some (.int .u8 (out[j].toNat : Int))

theorem TxtAt.cell {w b out} (h : TxtAt w b out) (i : Nat) (hi : i < 400) : ∃ u, w.cell? ⟨b, i, none⟩ = some u := by
  obtain ⟨cs, h1, h2, _⟩ := h
  rw [cell_of_block h1]; exact ⟨cs[i], by simp [h2, hi]⟩

theorem TxtAt.frozen {w b out} (h : TxtAt w b out) (i : Nat) : w.frozen? ⟨b, i, none⟩ = false := by
  obtain ⟨cs, h1, h2, _⟩ := h
  exact unfrozen_of_block h1 _

theorem Lim.ext' {w v n f} (h : Lim w v n f) : Lim w v n (ext n f) := by
  obtain ⟨a, c, rfl, h1, h2, h3, h4⟩ := h
  refine ⟨a, c, rfl, h1, h2, fun i hi => by simp [ext, hi, h3 i hi], fun hn => ?_⟩
  obtain ⟨b, off, rfl, h5⟩ := h4 hn
  exact ⟨b, off, rfl, fun i hi => by rw [h5 i hi]; simp [ext, hi]⟩

theorem fault_top {m n f} (h : faultB m n f = false) (hn : 0 < n) : ext n f (n - 1) ≠ 0 := by
  unfold faultB at h
  rw [if_neg (by omega)] at h
  simp at h
  simp only [ext]
  rw [if_pos (by omega)]
  exact h.2

theorem fault_zero {m f} (h : faultB m 0 f = false) : m = false := by simpa [faultB] using h

def textOf (m : Bool) (n : Nat) (f : Nat → Nat) : List UInt8 :=
  if faultB m n f = true then [] else if n = 0 then [48] else if m = true then 45 :: dec 386 (val (ext n f) n) else dec 386 (val (ext n f) n)

theorem dec_len (K N : Nat) : (dec K N).length ≤ K := by
  induction K generalizing N with
  | zero => simp [dec]
  | succ K ih =>
    unfold dec
    split
    · simp
    · simp; have := ih (N / 10); omega

theorem at2_start (w : World) (x0 x1 : Value) (t : TypeId) (w1 : World) (hb : Below (w.alloc (.cells #[x0, x1] t)).heap.size (w.alloc (.cells #[x0, x1] t)) w1) : w1.cell? ⟨w.heap.size, 0, none⟩ = some x0 ∧ w1.cell? ⟨w.heap.size, 1, none⟩ = some x1 :=
  ⟨(hb.cell (p := ⟨w.heap.size, 0, none⟩) (by simp)).trans (by simp), (hb.cell (p := ⟨w.heap.size, 1, none⟩) (by simp)).trans (by simp)⟩

theorem faultB_le' {m n f} (h : faultB m n f = false) : n ≤ 40 := by
  unfold faultB at h
  by_cases hz : n = 0
  · omega
  · simp [hz] at h; omega

set_option maxHeartbeats 400000 in
theorem sDigits_zero (a : Option Addr) (n c : Nat) (w : World) (hz : n ≤ 0) :
    Calls Tryd.prog 28 #[.slice a n c] w fun e w' => e = .returned (.string ⟨#[48]⟩) ∧ w = w' := by
  have hn0 : ((n : Int) == 0) = true := by simp; omega
  go_enter Tryd.func28, Tryd.ntmps28
  go_wp2_with fail
  go_ret
  exact ⟨rfl, rfl⟩

set_option maxHeartbeats 1000000 in
set_option maxRecDepth 100000 in
theorem sText_any (m : Bool) (v : Value) (n : Nat) (f : Nat → Nat) (w : World) (hL : Lim w v n f) :
    Calls Tryd.prog 23 #[.agg #[.bool m, v]] w fun e w' => e = .returned (.string ⟨(textOf m n f).toArray⟩) ∧ Below w.heap.size w w' := by
  obtain ⟨a, c, rfl, -⟩ := id hL
  by_cases hf : faultB m n f = true
  · have HT : Hid (textOf m n f = []) := if_pos hf
    go_enter Tryd.func23, Tryd.ntmps23
    go_wp2_with fail
    refine (sFault_any m _ n f _ (hL.below (below_alloc1 _ _))).mono ?_
    rintro e w1 ⟨rfl, hb1⟩
    rw [hf]
    have bel1 := (below_alloc1 w _).trans (hb1.mono (by simp))
    clear hb1 hf
    go_wp2_with fail
    go_ret
    exact ⟨by rw [HT.out]; rfl, bel1⟩
  · have hf := Bool.eq_false_iff.2 hf
    have hn40 := faultB_le' hf
    rcases Nat.eq_zero_or_pos n with h0 | hp
    · have hm : m = false := fault_zero (f := f) (by rw [h0] at hf; exact hf)
      subst hm
      have HT : Hid (textOf false n f = [48]) := by unfold Hid textOf; rw [hf, if_neg (by simp), if_pos h0]
      have hz : n ≤ 0 := by omega
      clear h0
      go_enter Tryd.func23, Tryd.ntmps23
      go_wp2_with fail
      refine (sFault_any _ _ n f _ (hL.below (below_alloc1 _ _))).mono ?_
      rintro e w1 ⟨rfl, hb1⟩
      rw [hf]
      have t1 := (at2_start w (.bool false) (.slice a n c) 61 w1 hb1)
      have bel1 := (below_alloc1 w _).trans (hb1.mono (by simp))
      obtain ⟨c0, c1⟩ := t1
      clear hb1 hf
      go_wp2_with fail
      refine (sDigits_zero a n c _ (by omega)).mono ?_
      rintro e w2 ⟨rfl, rfl⟩
      go_wp2_with fail
      go_ret
      exact ⟨by rw [HT.out]; rfl, bel1⟩
    · have htop := fault_top hf hp
      have HE := hL.ext'
      have Hlt : Hid (∀ i, ext n f i < 4294967296) := extLt hL
      have hdl := dec_len 386 (val (ext n f) n)
      have hdl2 : ((dec 386 (val (ext n f) n)).length : Int) ≤ 8388608 := by omega
      cases m
      · have HT : Hid (textOf false n f = dec 386 (val (ext n f) n)) := by unfold Hid textOf; rw [hf, if_neg (by simp), if_neg (by omega), if_neg (by simp)]
        have HC : Hid (∀ w, Lim w (.slice a n c) n f → Calls Tryd.prog 28 #[.slice a n c] w fun e w' => e = .returned (.string ⟨(dec 386 (val (ext n f) n)).toArray⟩) ∧ Below w.heap.size w w') := fun w h => sDigits_pos _ n (ext n f) w h.ext' Hlt.out hp hn40 (fun _ => htop)
        generalize dec 386 (val (ext n f) n) = T at *
        go_enter Tryd.func23, Tryd.ntmps23
        go_wp2_with fail
        refine (sFault_any _ _ n f _ (hL.below (below_alloc1 _ _))).mono ?_
        rintro e w1 ⟨rfl, hb1⟩
        rw [hf]
        have t1 := (at2_start w (.bool false) (.slice a n c) 61 w1 hb1)
        have bel1 := (below_alloc1 w _).trans (hb1.mono (by simp))
        have z1 := bel1.size
        obtain ⟨c0, c1⟩ := t1
        clear hb1 hf
        go_wp2_with fail
        refine (HC.out _ (hL.below bel1)).mono ?_
        rintro e w2 ⟨rfl, hb2⟩
        have bel2 := bel1.trans (hb2.mono z1)
        go_wp2_with fail
        go_ret
        exact ⟨by rw [HT.out]; rfl, bel2⟩
      · have HT : Hid (textOf true n f = 45 :: dec 386 (val (ext n f) n)) := by unfold Hid textOf; rw [hf, if_neg (by simp), if_neg (by omega), if_pos rfl]
        have HC : Hid (∀ w, Lim w (.slice a n c) n f → Calls Tryd.prog 28 #[.slice a n c] w fun e w' => e = .returned (.string ⟨(dec 386 (val (ext n f) n)).toArray⟩) ∧ Below w.heap.size w w') := fun w h => sDigits_pos _ n (ext n f) w h.ext' Hlt.out hp hn40 (fun _ => htop)
        generalize dec 386 (val (ext n f) n) = T at *
        go_enter Tryd.func23, Tryd.ntmps23
        go_wp2_with fail
        refine (sFault_any _ _ n f _ (hL.below (below_alloc1 _ _))).mono ?_
        rintro e w1 ⟨rfl, hb1⟩
        rw [hf]
        have t1 := (at2_start w (.bool true) (.slice a n c) 61 w1 hb1)
        have bel1 := (below_alloc1 w _).trans (hb1.mono (by simp))
        have z1 := bel1.size
        obtain ⟨c0, c1⟩ := t1
        clear hb1 hf
        go_wp2_with fail
        refine (HC.out _ (hL.below bel1)).mono ?_
        rintro e w2 ⟨rfl, hb2⟩
        have bel2 := bel1.trans (hb2.mono z1)
        go_wp2_with fail
        go_ret
        exact ⟨by rw [HT.out]; exact congrArg (fun s => Ending.returned (Value.string s)) (ByteArray.mk_append_mk [45] T), bel2⟩

end Go.Proofs.YtjfoagmenehapaaDoor.Big
