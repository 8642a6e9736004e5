import Derived.Test.YtppfohpgcofkbaaCj
import Derived.Test.YtppfohpgcofkbaaUv
import Derived.Lib.FrozenHead2
import Derived.Lib.OthersKept
import Derived.Deep.RegionLaw
namespace Go.Proofs.Ytppfohpgcofkbaa
open Go.RowKit Go.Joins

theorem Try.info5 : (Try.prog.info? 5).map (fun i => (i.zero, i.size, i.bytes)) = some (some (.int .u8 0), 1, 1) := by kernel_rfl

def bs (t : ByteArray) : List UInt8 := t.data.toList

theorem bs_len (t : ByteArray) : (bs t).length = t.size := Array.length_toList

theorem bs_mk (t : ByteArray) : (⟨(bs t).toArray⟩ : ByteArray) = t := by
  cases t
  rfl

theorem bs_of (l : List UInt8) : bs ⟨l.toArray⟩ = l := rfl

/-- The value is a row of our own and holds the bytes l. -/
def BR (B : Nat) (W : World) (v : Value) (l : List UInt8) : Prop := W.ownsRowF B 5 1 v l.length (Lib.byteCells l)

/-- Blocks of one byte are as they were. -/
def Sm (W W' : World) : Prop := ∀ (c : Nat) (x : Value), W.heap[c]? = some (.cells #[x] 5) → W'.heap[c]? = some (.cells #[x] 5)

/-- Only rows of bytes from B on have turned; if p, none of one byte. -/
def BK (p : Prop) (B : Nat) (W W' : World) : Prop := Below B W W' ∧ Lib.OthersKept 5 none W W' ∧ (p → Sm W W')

theorem others_below {e : TypeId} {b : Option Nat} {w w' : World} (h : Below w.heap.size w w') : Lib.OthersKept e b w w' := fun k _ hk _ _ =>
  (h.block k (Array.getElem?_eq_some_iff.1 hk).1).trans hk

theorem BK.refl (p : Prop) (B : Nat) (W : World) : BK p B W W := ⟨Below.refl _ _, Lib.OthersKept.refl _ _ _, fun _ _ _ h => h⟩
theorem BK.trans {p : Prop} {B : Nat} {U V W : World} (h : BK p B U V) (k : BK p B V W) : BK p B U W := ⟨h.1.trans k.1, h.2.1.trans k.2.1, fun hp c x hx => k.2.2 hp c x (h.2.2 hp c x hx)⟩
theorem BK.of {p : Prop} {B : Nat} {U W : World} (hB : B ≤ U.heap.size) (h : Below U.heap.size U W) : BK p B U W := ⟨h.mono hB, others_below h, fun _ c _ hx => (h.block c (Array.getElem?_eq_some_iff.1 hx).1).trans hx⟩
theorem BK.size {p : Prop} {B : Nat} {U W : World} (h : BK p B U W) : U.heap.size ≤ W.heap.size := h.1.size

theorem BR.below {B : Nat} {W W' : World} {v : Value} {l : List UInt8} (h : BR B W v l) (k : Below W.heap.size W W') : BR B W' v l :=
  World.ownsRowF.kept (row := none) h ⟨k.os, k.tape, k.output, k.size, fun i hi _ => k.block i hi⟩ (by cases v.ownBlock <;> simp)

theorem BR.nil (B : Nat) (W : World) : BR B W (.slice none 0 0) [] := ⟨rfl, .inl ⟨rfl, rfl⟩⟩

/-- A box, whole, of another type than bytes. -/
theorem BK.box {p : Prop} {B b : Nat} {cs : Array Value} {t : TypeId} {W W' : World} (ht : t ≠ 5) (h : BK p B W W') (q : W.heap[b]? = some (.cells cs t)) : W'.heap[b]? = some (.cells cs t) :=
  h.2.1 b _ q (by simp) (fun c fz e => by injection e with e1 e2 e3; exact ht e2)

theorem box_cell {b i : Nat} {cs : Array Value} {t : TypeId} {W : World} {v : Value} (q : W.heap[b]? = some (.cells cs t)) (hi : cs[i]? = some v) : W.cell? ⟨b, i, none⟩ = some v := by
  rw [Lib.cell_of_heap q]
  exact hi

theorem bk_grown {p : Prop} {B : Nat} {W W' : World} {v : Value} {l : List UInt8} (hp : p → 2 ≤ l.length) (h : BR B W v l) (hB : B ≤ W.heap.size) (hg : W.grownBy W' v.ownBlock) : BK p B W W' := by
  refine ⟨(Below.refl _ _).grown hg hB (fun k hk => (World.ownsRowF.lt h k hk).1), (Lib.OthersKept.refl _ _ _).grown hg (Lib.ownsRowF_kind h), fun h0 c x hx => ?_⟩
  have h2 := hp h0
  refine (hg.block c (Array.getElem?_eq_some_iff.1 hx).1 (fun e => ?_)).trans hx
  rcases h.2 with ⟨-, h3⟩ | ⟨g, cap, cur, fz, rfl, -, hb, -, hn, -, hs, -⟩
  · omega
  · have e2 : g = c := Option.some.inj e.symm
    subst e2
    rw [hx] at hb
    injection hb with hb
    injection hb with hb
    rw [← hb] at hs
    simp at hs
    omega

theorem bytes_one (l : List UInt8) : ∀ v ∈ Lib.byteCells l, v.oneCell' = true := by
  intro v hv
  simp only [Lib.byteCells, List.mem_map] at hv
  obtain ⟨b, _, rfl⟩ := hv
  rfl

theorem run_str {p : Prop} (B : Nat) (W : World) (v : Value) (l m : List UInt8) (ty : TypeId) (hp : p → 2 ≤ l.length) (hB : B ≤ W.heap.size) (hown : BR B W v l) (hl : l.length + m.length ≤ 70368744177664) :
    ∃ v' W', (Builtin.append_ #[45, 9] ty #[v, .string ⟨m.toArray⟩]).run Try.prog W = .ok v' W' ∧ BR B W' v' (l ++ m) ∧ BK p B W W' := by
  obtain ⟨i0, hi, hz0, hz1, hz2⟩ := info_parts Try.info5
  have hs0 : (⟨m.toArray⟩ : ByteArray).size = m.length := by simp [ByteArray.size]
  obtain ⟨v', w', hr, h2, h3, -⟩ := Lib.run_append_own_stringF (P := Try.prog) W B 45 9 ty 5 i0 Try.underlying45 Try.underlying9 hi hz0 hz1 hz2 v _ _ hown ⟨m.toArray⟩ (by rw [hs0]; unfold maxLen; omega) (by rw [hs0]; omega) hB
  refine ⟨v', w', hr, ?_, bk_grown hp hown hB h3⟩
  rw [hs0] at h2
  unfold BR
  rw [List.length_append, Lib.byteCells_append]
  exact h2

theorem run_one {p : Prop} (B : Nat) (W : World) (v : Value) (l m : List UInt8) (j : Nat) (hj : j = m.length) (cs : Array Value) (hcs : cs.toList = Lib.byteCells m) (bb : Nat) (ty : TypeId) (hp : p → 2 ≤ l.length) (hB : B ≤ W.heap.size) (hown : BR B W v l) (hb : W.heap[bb]? = some (.cells cs 5)) (hl : l.length + j ≤ 70368744177664) :
    ∃ v' W', (Builtin.append_ #[45, 45] ty #[v, .slice (some ⟨bb, 0, none⟩) j j]).run Try.prog W = .ok v' W' ∧ BR B W' v' (l ++ m) ∧ BK p B W W' := by
  obtain ⟨i0, hi, hz0, hz1, hz2⟩ := info_parts Try.info5
  obtain ⟨v', w', hr, h2, h3, -⟩ := run_append_ownF (P := Try.prog) W B 45 ty 5 i0 (.int .u8 0) 1 1 Try.underlying45 hi hz0 hz1 hz2 rfl (by decide) v _ _ hown ⟨bb, 0, none⟩ j j (Lib.byteCells m) (by rw [Lib.byteCells_length, Nat.mul_one, hj]) (fun i u hu => by
      rw [← hcs] at hu
      exact World.news_of_block hb i u (by simpa using hu)) (bytes_one m) (by unfold maxLen; omega) (by omega) hB
  refine ⟨v', w', hr, ?_, bk_grown hp hown hB h3⟩
  unfold BR
  rw [List.length_append, Lib.byteCells_append, ← hj]
  exact h2

theorem str_step {p : Prop} {ops : Array Oper} {rest : List Oper} {o : Oper} {a : Act} {Q : Exit → Act → World → Prop} (hgd : o.guard = none) (s x : Operand)
    (ho : o.op = .call { callee := .builtin .append, args := #[s, x], argTypes := #[45, 9] })
    (B : Nat) (W : World) (v : Value) (l : List UInt8) (t : ByteArray) (hs : a.eval s = v) (hx : a.eval x = .string t) (hp : p → 2 ≤ l.length) (hB : B ≤ W.heap.size) (hown : BR B W v l) (hl : l.length + (bs t).length ≤ 70368744177664)
    (h : ∀ v' W', BR B W' v' (l ++ bs t) → BK p B W W' → wpList Try.prog ops Q rest (a.put o.dst v') W') : wpList Try.prog ops Q (o :: rest) a W := by
  refine wpList_plain hgd fun K hK => ?_
  obtain ⟨v', w', hr, h2, h3⟩ := run_str (p := p) B W v l (bs t) o.type hp hB hown hl
  rw [bs_mk] at hr
  unfold Oper.wp execOp
  simp only [ho, resolve, invoke, builtin, Sem.run_bind, Sem.run_pure, Result.andThen_ok, List.map_toArray, List.map_cons, List.map_nil, hs, hx, hr]
  exact hK _ _ (h v' w' h2 h3)

theorem str_draw {p : Prop} {ops : Array Oper} {o : Oper} {a : Act} {K : Act → World → Prop} {Q : Exit → Act → World → Prop} {E : Prop} (hgd : o.guard = none) (s x : Operand)
    (ho : o.op = .call { callee := .builtin .append, args := #[s, x], argTypes := #[45, 9] })
    (B : Nat) (W : World) (v : Value) (l : List UInt8) (t : ByteArray) (hs : a.eval s = v) (hx : a.eval x = .string t) (hp : p → 2 ≤ l.length) (hB : B ≤ W.heap.size) (hown : BR B W v l) (hl : l.length + (bs t).length ≤ 70368744177664)
    (h : ∀ v' W', BR B W' v' (l ++ bs t) → BK p B W W' → K (a.put o.dst v') W') :
    if Region.wanted o (yielded ops a.tmps) = true then Oper.wp Try.prog o a W K Q else E := by
  have hw : Region.wanted o (yielded ops a.tmps) = true := by simp [Region.wanted, hgd]
  rw [if_pos hw]
  obtain ⟨v', w', hr, h2, h3⟩ := run_str (p := p) B W v l (bs t) o.type hp hB hown hl
  rw [bs_mk] at hr
  unfold Oper.wp execOp
  simp only [ho, resolve, invoke, builtin, Sem.run_bind, Sem.run_pure, Result.andThen_ok, List.map_toArray, List.map_cons, List.map_nil, hs, hx, hr]
  exact h v' w' h2 h3

theorem one_step {p : Prop} {ops : Array Oper} {rest : List Oper} {o : Oper} {a : Act} {Q : Exit → Act → World → Prop} (hgd : o.guard = none) (s x : Operand)
    (ho : o.op = .call { callee := .builtin .append, args := #[s, x], argTypes := #[45, 45] })
    (B : Nat) (W : World) (v : Value) (l m : List UInt8) (j : Nat) (hj : j = m.length) (cs : Array Value) (hcs : cs.toList = Lib.byteCells m) (bb : Nat) (hs : a.eval s = v) (hx : a.eval x = .slice (some ⟨bb, 0, none⟩) j j) (hp : p → 2 ≤ l.length) (hB : B ≤ W.heap.size) (hown : BR B W v l) (hb : W.heap[bb]? = some (.cells cs 5)) (hl : l.length + j ≤ 70368744177664)
    (h : ∀ v' W', BR B W' v' (l ++ m) → BK p B W W' → wpList Try.prog ops Q rest (a.put o.dst v') W') : wpList Try.prog ops Q (o :: rest) a W := by
  refine wpList_plain hgd fun K hK => ?_
  obtain ⟨v', w', hr, h2, h3⟩ := run_one (p := p) B W v l m j hj cs hcs bb o.type hp hB hown hb hl
  unfold Oper.wp execOp
  simp only [ho, resolve, invoke, builtin, Sem.run_bind, Sem.run_pure, Result.andThen_ok, List.map_toArray, List.map_cons, List.map_nil, hs, hx, hr]
  exact hK _ _ (h v' w' h2 h3)

theorem one_draw {p : Prop} {ops : Array Oper} {o : Oper} {a : Act} {K : Act → World → Prop} {Q : Exit → Act → World → Prop} {E : Prop} (hgd : o.guard = none) (s x : Operand)
    (ho : o.op = .call { callee := .builtin .append, args := #[s, x], argTypes := #[45, 45] })
    (B : Nat) (W : World) (v : Value) (l m : List UInt8) (j : Nat) (hj : j = m.length) (cs : Array Value) (hcs : cs.toList = Lib.byteCells m) (bb : Nat) (hs : a.eval s = v) (hx : a.eval x = .slice (some ⟨bb, 0, none⟩) j j) (hp : p → 2 ≤ l.length) (hB : B ≤ W.heap.size) (hown : BR B W v l) (hb : W.heap[bb]? = some (.cells cs 5)) (hl : l.length + j ≤ 70368744177664)
    (h : ∀ v' W', BR B W' v' (l ++ m) → BK p B W W' → K (a.put o.dst v') W') :
    if Region.wanted o (yielded ops a.tmps) = true then Oper.wp Try.prog o a W K Q else E := by
  have hw : Region.wanted o (yielded ops a.tmps) = true := by simp [Region.wanted, hgd]
  rw [if_pos hw]
  obtain ⟨v', w', hr, h2, h3⟩ := run_one (p := p) B W v l m j hj cs hcs bb o.type hp hB hown hb hl
  unfold Oper.wp execOp
  simp only [ho, resolve, invoke, builtin, Sem.run_bind, Sem.run_pure, Result.andThen_ok, List.map_toArray, List.map_cons, List.map_nil, hs, hx, hr]
  exact h v' w' h2 h3

/-- A new row of bytes. -/
theorem BR.new (B : Nat) (w : World) (hB : B ≤ w.heap.size) (m : UInt8) : BR B (w.alloc (.cells #[.int .u8 m.toNat] 5)) (.slice (some ⟨w.heap.size, 0, none⟩) 1 1) [m] :=
  ⟨rfl, .inr ⟨w.heap.size, 1, #[.int .u8 m.toNat], (0, 0), rfl, hB, (MapKept.heap_alloc w _).1, by simp, Nat.le_refl _, by unfold maxLen; omega, by simp, by simp [Lib.byteCells]⟩⟩

/-- The row's bytes as a text. -/
theorem BR.text {B : Nat} {W : World} {v : Value} {l : List UInt8} (h : BR B W v l) : (convert 45 9 v).run Try.prog W = .ok (.string ⟨l.toArray⟩) W := by
  obtain ⟨h1, h2⟩ := h
  rcases h2 with ⟨rfl, h3⟩ | ⟨g, cap', cur, fz, rfl, hg, hb, _, _, _, _, ht⟩
  · obtain rfl := List.length_eq_zero_iff.1 h3
    rw [run_convert_bytes_string (P := Try.prog) W 45 9 5 none 0 0 Try.underlying45 Try.underlying5 Try.underlying9]
    rfl
  · refine run_convert_bytes_back (P := Try.prog) W 45 9 5 ⟨g, 0, none⟩ cap' l Try.underlying45 Try.underlying5 Try.underlying9 (fun j hj => ?_)
    rw [addr_add, Nat.zero_add, Lib.cell_of_heap hb]
    have : cur.toList[j]? = some (.int .u8 (l[j].toNat : Int)) := by
      have e : (cur.toList.take (l.length * 1))[j]? = (Lib.byteCells l)[j]? := by rw [ht]
      rw [List.getElem?_take, if_pos (by omega)] at e
      rw [e]
      simp [Lib.byteCells, hj]
    rw [Array.getElem?_toList] at this
    exact this

end Go.Proofs.Ytppfohpgcofkbaa

namespace Go.Proofs.Ytppfohpgcofkbaa
open Go.RowKit Go.Joins

/-- A byte as it is written between marks. -/
def escB (m b : UInt8) : List UInt8 := if b.toNat = 10 then [92, 110] else if b.toNat = 92 ∨ b = m then [92, b] else [b]
def escT (m : UInt8) (s : ByteArray) : List UInt8 := m :: s.data.toList.flatMap (escB m) ++ [m]

theorem drop_at {s : ByteArray} {i : Nat} (h : i < s.size) : s.data.toList.drop i = s[i] :: s.data.toList.drop (i + 1) := by
  have h' : i < s.data.toList.length := by simpa using h
  rw [List.drop_eq_getElem_cons h']
  congr 1

set_option maxHeartbeats 2000000 in
set_option maxRecDepth 100000 in
theorem mEscape (s : ByteArray) (m : UInt8) (w : World) (hs : s.size ≤ 1048576) : Calls Try.prog 31 #[.string s, .int .u8 m.toNat] w fun e w' => e = .returned (.string ⟨(escT m s).toArray⟩) ∧ Below w.heap.size w w' := by
  go_enter Try.func31, Try.ntmps31
  go_wp2_with fail
  go_loopw [5, 6, 21, 29] (fun s5 s6 _ _ wr => ∃ (i : Nat) (v : Value) (out : List UInt8), s5 = v ∧ s6 = .int .i64 i ∧ i ≤ s.size ∧ BR w.heap.size wr v out ∧ out.length ≤ 2 * i + 1 ∧ Hid (out ++ (s.data.toList.drop i).flatMap (escB m) ++ [m] = escT m s) ∧ Below w.heap.size w wr) (fun _ s6 _ _ _ => s.size - (intOf s6).toNat)
  case atStart => exact ⟨0, _, [m], rfl, rfl, Nat.zero_le _, BR.new _ w (Nat.le_refl _) m, by simp, by unfold Hid escT; simp, below_alloc1 _ _⟩
  case round =>
    obtain ⟨i, v, out, rfl, rfl, h1, hR, hol, hq, hb⟩ := hrel
    have hzw := hb.size
    by_cases hlt : i < s.size
    · have hlt' : (i : Int) < s.size := by omega
      have hQ := hq.out
      rw [drop_at hlt, List.flatMap_cons, ← List.append_assoc] at hQ
      by_cases e1 : s[i].toNat = 10
      · have hE : escB m s[i] = [92, 110] := by unfold escB; rw [if_pos e1]
        rw [hE] at hQ
        have HQ := hide hQ
        clear hQ hE
        go_wp2_with (at_builtin; refine one_step (p := False) rfl _ _ rfl w.heap.size _ _ out [92, 110] 2 rfl _ rfl wr.heap.size rfl rfl (fun h => h.elim) (by simp; omega) (hR.below (below_alloc1 _ _)) (MapKept.heap_alloc wr _).1 (by omega) ?_; intro v6 W6 hR6 bb6; replace bb6 := (BK.of hzw (below_alloc1 wr _)).trans bb6)
        go_roundw
        case rel => exact ⟨i + 1, v6, out ++ [92, 110], rfl, by go_num, by omega, hR6, by simp; omega, HQ, hb.trans bb6.1⟩
        case measure => simp [intOf]; omega
      · have z1 : ((s[i].toNat : Int) == 10) = false := by simp; omega
        by_cases e2 : s[i].toNat = 92 ∨ s[i] = m
        · have hE : escB m s[i] = [92, s[i]] := by unfold escB; rw [if_neg e1, if_pos e2]
          rw [hE] at hQ
          have HQ := hide hQ
          clear hQ hE
          by_cases e3 : s[i].toNat = 92
          · have z2 : ((s[i].toNat : Int) == 92) = true := by rw [e3]; rfl
            have HN : Hid (Lib.byteCells [92, s[i]] = [.int .u8 92, .int .u8 (s[i].toNat : Int)]) := rfl
            clear e1 e2 e3
            go_wp2_with (at_builtin; refine one_step (p := False) rfl _ _ rfl w.heap.size _ _ out [92, s[i]] 2 rfl _ rfl wr.heap.size rfl rfl (fun h => h.elim) (by simp; omega) (hR.below (below_alloc1 _ _)) (MapKept.heap_alloc wr _).1 (by omega) ?_; intro v6 W6 hR6 bb6; replace bb6 := (BK.of hzw (below_alloc1 wr _)).trans bb6)
            go_roundw
            case rel => exact ⟨i + 1, v6, out ++ [92, s[i]], rfl, by go_num, by omega, hR6, by simp; omega, HQ, hb.trans bb6.1⟩
            case measure => simp [intOf]; omega
          · have z2 : ((s[i].toNat : Int) == 92) = false := by simp; omega
            have e4 : s[i] = m := by rcases e2 with h | h; exact absurd h e3; exact h
            have z3 : ((s[i].toNat : Int) == (m.toNat : Int)) = true := by rw [e4]; simp
            clear e1 e2 e3 e4
            go_wp2_with (at_builtin; refine one_step (p := False) rfl _ _ rfl w.heap.size _ _ out [92, s[i]] 2 rfl _ rfl wr.heap.size rfl rfl (fun h => h.elim) (by simp; omega) (hR.below (below_alloc1 _ _)) (MapKept.heap_alloc wr _).1 (by omega) ?_; intro v6 W6 hR6 bb6; replace bb6 := (BK.of hzw (below_alloc1 wr _)).trans bb6)
            go_roundw
            case rel => exact ⟨i + 1, v6, out ++ [92, s[i]], rfl, by go_num, by omega, hR6, by simp; omega, HQ, hb.trans bb6.1⟩
            case measure => simp [intOf]; omega
        · have hE : escB m s[i] = [s[i]] := by unfold escB; rw [if_neg e1, if_neg e2]
          rw [hE] at hQ
          have HQ := hide hQ
          have z2 : ((s[i].toNat : Int) == 92) = false := by simp; omega
          have z3 : ((s[i].toNat : Int) == (m.toNat : Int)) = false := by
            simp
            intro h
            exact e2 (.inr (UInt8.toNat_inj.1 (by omega)))
          clear hQ hE e1 e2
          go_wp2_with (at_builtin; refine one_step (p := False) rfl _ _ rfl w.heap.size _ _ out [s[i]] 1 rfl _ rfl wr.heap.size rfl rfl (fun h => h.elim) (by simp; omega) (hR.below (below_alloc1 _ _)) (MapKept.heap_alloc wr _).1 (by omega) ?_; intro v6 W6 hR6 bb6; replace bb6 := (BK.of hzw (below_alloc1 wr _)).trans bb6)
          go_roundw
          case rel => exact ⟨i + 1, v6, out ++ [s[i]], rfl, by go_num, by omega, hR6, by simp; omega, HQ, hb.trans bb6.1⟩
          case measure => simp [intOf]; omega
    · have hlt' : ¬ (i : Int) < s.size := by omega
      have hE : out ++ [m] = escT m s := by
        have := hq.out
        rwa [List.drop_eq_nil_of_le (by simp; show s.size ≤ i; omega), List.flatMap_nil, List.append_nil] at this
      have HE := hide hE
      clear hE
      go_wp2_with (at_builtin; refine one_step (p := False) rfl _ _ rfl w.heap.size _ _ out [m] 1 rfl _ rfl wr.heap.size rfl rfl (fun h => h.elim) (by simp; omega) (hR.below (below_alloc1 _ _)) (MapKept.heap_alloc wr _).1 (by omega) ?_; intro v6 W6 hR6 bb6; replace bb6 := (BK.of hzw (below_alloc1 wr _)).trans bb6; have hcv6 := hR6.text)
      go_ret
      exact ⟨by rw [← HE.out]; rfl, hb.trans bb6.1⟩

end Go.Proofs.Ytppfohpgcofkbaa
