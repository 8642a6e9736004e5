import Derived.Test.YtjdncofdjabkiaaDoorQ18
import Derived.Test.YtjdncofdjabkiaaDoorQ12
import Derived.Deep.RegionHeld3
namespace Go.Proofs.YtjdncofdjabkiaaDoor
open Go.RowKit Go.Joins

theorem put_rune (B b : Nat) (l : List UInt8) (c : UInt8) (hc : c.toNat < 128) (w : World) (h : Lib.IsBuilderF 56 5 B b (Lib.byteCells l) w) (hl : l.length + 1 ≤ 1048576 * 4) (hBw : B ≤ w.heap.size) :
    Calls Tryd.prog 77 #[.pointer (some ⟨b, 0, none⟩), .int .i32 (c.toNat : Int)] w fun e w' => (∃ x y, e = .returned (.tuple #[x, y])) ∧ Lib.IsBuilderF 56 5 B b (Lib.byteCells (l ++ [c])) w' ∧ Below B w w' := by
  refine (writeRune_low B b _ c.toNat hc w h (by rw [Lib.byteCells_length]; omega) hBw).mono ?_
  rintro e w' ⟨rfl, hw⟩
  refine ⟨⟨_, _, rfl⟩, ?_, hw.2.1⟩
  rw [Lib.byteCells_append]
  exact .inr hw.1

theorem put_two (B b : Nat) (l : List UInt8) (w : World) (h : Lib.IsBuilderF 56 5 B b (Lib.byteCells l) w) (hl : l.length + 2 ≤ 70368744177664) (hBw : B ≤ w.heap.size) :
    Calls Tryd.prog 34 #[.pointer (some ⟨b, 0, none⟩), .string ⟨#[92, 110]⟩] w fun e w' => (∃ x y, e = .returned (.tuple #[x, y])) ∧ Lib.IsBuilderF 56 5 B b (Lib.byteCells (l ++ [92, 110])) w' ∧ Below B w w' := by
  refine (writeString_any B b _ ⟨#[92, 110]⟩ w h (by rw [Lib.byteCells_length]; show l.length + 2 ≤ _; omega) hBw).mono ?_
  rintro e w' ⟨he, hw⟩
  refine ⟨⟨_, _, he⟩, ?_, hw.2.1⟩
  rw [Lib.byteCells_append]
  exact .inr hw.1

set_option maxHeartbeats 2000000 in
set_option maxRecDepth 100000 in
theorem iQuote (s : ByteArray) (m : UInt8) (hm : m.toNat < 128) (w : World) (hs : s.size ≤ 60000) : Calls Tryd.prog 58 #[.string s, .int .i32 m.toNat] w fun e w' => e = .returned (.string ⟨(escT m s).toArray⟩) ∧ Below w.heap.size w w' := by
  have hm' : (m.toNat : Int) < 128 := by omega
  have H0 := hide (put_rune w.heap.size w.heap.size [] m hm (w.alloc (.cells #[.pointer none, .slice none 0 0] 56)) (Lib.IsBuilderF.of (Lib.fresh_isBuilder 56 5 w)) (by simp) (by simp))
  go_enter Tryd.func58, Tryd.ntmps58
  go_wp2_with fail
  refine H0.out.mono ?_
  rintro e w0 ⟨⟨x0, y0, rfl⟩, hI0, b0⟩
  have hb0 : Below w.heap.size w w0 := (below_alloc1 w _).trans b0
  clear H0 b0
  go_wp2_with fail
  go_loopw [6, 7, 12, 21, 24] (fun _ _ i _ _ wr => ∃ (j : Nat) (acc : List UInt8), i = .int .i64 j ∧ j ≤ s.size ∧ acc.length ≤ 2 * j + 1 ∧ Hid (acc ++ (s.data.toList.drop j).flatMap (escB m) ++ [m] = escT m s) ∧ Hid (Lib.IsBuilderF 56 5 w.heap.size w.heap.size (Lib.byteCells acc) wr) ∧ Below w.heap.size w wr) (fun _ _ i _ _ _ => s.size - (intOf i).toNat)
  case atStart => exact ⟨0, [m], rfl, Nat.zero_le _, by simp, by unfold Hid escT; simp, hI0, hb0⟩
  case round =>
    obtain ⟨j, acc, rfl, hj, hal, hq, HIw, hb⟩ := hrel
    have hzw := hb.size
    by_cases hlt : j < s.size
    · have hlt' : (j : Int) < s.size := by omega
      have hQ := hq.out
      rw [drop_at hlt, List.flatMap_cons, ← List.append_assoc] at hQ
      by_cases e1 : s[j].toNat = 10
      · have hE : escB m s[j] = [92, 110] := by unfold escB; rw [if_pos e1]
        rw [hE] at hQ
        have HQ := hide hQ
        have HP := hide (put_two w.heap.size w.heap.size acc wr HIw.out (by omega) hzw)
        clear hQ hE
        go_wp2_with fail
        refine HP.out.mono ?_
        rintro e w2 ⟨⟨x2, y2, rfl⟩, hI2, b2⟩
        have HI2 := hide hI2
        clear hI2
        go_wp2_with fail
        go_roundw
        case rel => exact ⟨j + 1, acc ++ [92, 110], by go_num, by omega, by simp; omega, HQ, HI2, hb.trans b2⟩
        case measure => simp [intOf]; omega
      · have z1 : ((s[j].toNat : Int) == 10) = false := by simp; omega
        by_cases e2 : s[j].toNat = 92 ∨ s[j] = m
        · have hE : escB m s[j] = [92] ++ [s[j]] := by unfold escB; rw [if_neg e1, if_pos e2]; rfl
          rw [hE, ← List.append_assoc] at hQ
          have HQ := hide hQ
          have HP := hide (put_byte w.heap.size w.heap.size acc 92 wr HIw.out (by omega) hzw)
          have HP2 : Hid (∀ w2, Lib.IsBuilderF 56 5 w.heap.size w.heap.size (Lib.byteCells (acc ++ [92])) w2 → w.heap.size ≤ w2.heap.size → _) := fun w2 h2 z2 => put_byte w.heap.size w.heap.size (acc ++ [92]) s[j] w2 h2 (by simp; omega) z2
          have HAL : Hid ((acc ++ [92] ++ [s[j]]).length ≤ 2 * (j + 1) + 1) := by unfold Hid; simp; omega
          clear hQ hE
          by_cases e3 : s[j].toNat = 92
          · have z2 : ((s[j].toNat : Int) == 92) = true := by rw [e3]; rfl
            clear e1 e2 e3
            go_wp2_with fail
            refine HP.out.mono ?_
            rintro e w2 ⟨rfl, hI2, b2, -⟩
            have hz2 := (hb.trans b2).size
            have HI2 := hide hI2
            clear hI2
            go_wp2_with fail
            refine (HP2.out w2 HI2.out hz2).mono ?_
            rintro e w3 ⟨rfl, hI3, b3, -⟩
            have HI3 := hide hI3
            clear hI3
            go_wp2_with fail
            go_roundw
            case rel => exact ⟨j + 1, acc ++ [92] ++ [s[j]], by go_num, by omega, HAL.out, HQ, HI3, (hb.trans b2).trans b3⟩
            case measure => simp [intOf]; omega
          · have z2 : ((s[j].toNat : Int) == 92) = false := by simp; omega
            have e4 : s[j] = m := by rcases e2 with h | h; exact absurd h e3; exact h
            have z3 : ((s[j].toNat : Int) == (m.toNat : Int)) = true := by rw [e4]; simp
            clear e1 e2 e3 e4
            go_wp2_with fail
            refine HP.out.mono ?_
            rintro e w2 ⟨rfl, hI2, b2, -⟩
            have hz2 := (hb.trans b2).size
            have HI2 := hide hI2
            clear hI2
            go_wp2_with fail
            refine (HP2.out w2 HI2.out hz2).mono ?_
            rintro e w3 ⟨rfl, hI3, b3, -⟩
            have HI3 := hide hI3
            clear hI3
            go_wp2_with fail
            go_roundw
            case rel => exact ⟨j + 1, acc ++ [92] ++ [s[j]], by go_num, by omega, HAL.out, HQ, HI3, (hb.trans b2).trans b3⟩
            case measure => simp [intOf]; omega
        · have hE : escB m s[j] = [s[j]] := by unfold escB; rw [if_neg e1, if_neg e2]
          rw [hE] at hQ
          have HQ := hide hQ
          have z2 : ((s[j].toNat : Int) == 92) = false := by simp; omega
          have z3 : ((s[j].toNat : Int) == (m.toNat : Int)) = false := by
            simp
            intro h
            exact e2 (.inr (UInt8.toNat_inj.1 (by omega)))
          have HP := hide (put_byte w.heap.size w.heap.size acc s[j] wr HIw.out (by omega) hzw)
          clear hQ hE e1 e2
          go_wp2_with fail
          refine HP.out.mono ?_
          rintro e w2 ⟨rfl, hI2, b2, -⟩
          have HI2 := hide hI2
          clear hI2
          go_wp2_with fail
          go_roundw
          case rel => exact ⟨j + 1, acc ++ [s[j]], by go_num, by omega, by simp; omega, HQ, HI2, hb.trans b2⟩
          case measure => simp [intOf]; omega
    · have hlt' : ¬ (j : Int) < s.size := by omega
      have hE : acc ++ [m] = escT m s := by
        have := hq.out
        rwa [List.drop_eq_nil_of_le (by simp; show s.size ≤ j; omega), List.flatMap_nil, List.append_nil] at this
      have HE := hide hE
      clear hE
      have HP := hide (put_rune w.heap.size w.heap.size acc m hm wr HIw.out (by omega) hzw)
      go_wp2_with fail
      refine HP.out.mono ?_
      rintro e w2 ⟨⟨x2, y2, rfl⟩, hI2, b2⟩
      have hz2 := (hb.trans b2).size
      have HS := hide (Tryd.Builder_String_any_k w.heap.size w.heap.size (acc ++ [m]) w2 hI2 hz2)
      clear hI2
      go_wp2_with fail
      refine HS.out.mono ?_
      rintro e w3 ⟨rfl, -, b3, -⟩
      go_wp2_with fail
      go_ret
      exact ⟨by rw [← HE.out]; rfl, (hb.trans b2).trans b3⟩

end Go.Proofs.YtjdncofdjabkiaaDoor

namespace Go.Proofs.YtjdncofdjabkiaaDoor
open Go.RowKit Go.Joins

theorem bt_list {u : ByteArray} {P R : List UInt8} {b : UInt8} (h : u.data.toList = P ++ b :: R) : bt u P.length = b.toNat ∧ P.length < u.size := by
  have hz : u.size = (P ++ b :: R).length := by rw [← h, Array.length_toList]; rfl
  have hlt : P.length < u.size := by rw [hz]; simp
  refine ⟨?_, hlt⟩
  rw [← bt_in hlt]
  have e : u.data.toList[P.length]? = some b := by rw [h]; simp
  have e2 : u.data.toList[P.length]? = some u[P.length] := by
    rw [List.getElem?_eq_getElem (by simpa using hlt)]
    rfl
  rw [e] at e2
  rw [Option.some.inj e2]

theorem quo_list (m : UInt8) (hm : m.toNat = 39 ∨ m.toNat = 34) (u : ByteArray) : ∀ (t P out : List UInt8), u.data.toList = P ++ (t.flatMap (escB m) ++ [m]) →
    quo u m.toNat P.length out = if t.all (fun b => pr b.toNat) then some (out ++ t, u.size) else none
  | [], P, out, h => by
    have h' : u.data.toList = P ++ m :: [] := h
    obtain ⟨h1, h2⟩ := bt_list h'
    have hz : u.size = P.length + 1 := by
      have : u.size = (P ++ [m]).length := by rw [← h', Array.length_toList]; rfl
      simpa using this
    rw [quo, if_neg (by omega), if_pos h1]
    simp [hz]
  | b :: t, P, out, h => by
    rw [List.flatMap_cons] at h
    by_cases e1 : b.toNat = 10
    · have hE : escB m b = [92, 110] := by unfold escB; rw [if_pos e1]
      rw [hE] at h
      have ha : u.data.toList = P ++ 92 :: (110 :: (t.flatMap (escB m) ++ [m])) := by simpa using h
      have hb : u.data.toList = (P ++ [92]) ++ 110 :: (t.flatMap (escB m) ++ [m]) := by simpa using h
      have hc : u.data.toList = (P ++ [92, 110]) ++ (t.flatMap (escB m) ++ [m]) := by simpa using h
      obtain ⟨a1, a2⟩ := bt_list ha
      obtain ⟨b1, b2⟩ := bt_list hb
      have ih := quo_list m hm u t (P ++ [92, 110]) (out ++ [10]) hc
      simp only [List.length_append, List.length_cons, List.length_nil, Nat.zero_add, Nat.reduceAdd] at b1 b2 ih
      have hb10 : b = 10 := UInt8.toNat_inj.1 e1
      have x92 : (92 : UInt8).toNat = 92 := rfl
      have x110 : (110 : UInt8).toNat = 110 := rfl
      rw [quo, if_neg (by omega), if_neg (by omega), if_neg (by omega), if_pos (by omega), if_neg (by omega), b1, x110]
      show quo u m.toNat (P.length + 2) (out ++ [10]) = _
      rw [ih, hb10]
      simp [pr]
    · by_cases e2 : b.toNat = 92 ∨ b = m
      · have hE : escB m b = [92, b] := by unfold escB; rw [if_neg e1, if_pos e2]
        rw [hE] at h
        have ha : u.data.toList = P ++ 92 :: (b :: (t.flatMap (escB m) ++ [m])) := by simpa using h
        have hb : u.data.toList = (P ++ [92]) ++ b :: (t.flatMap (escB m) ++ [m]) := by simpa using h
        have hc : u.data.toList = (P ++ [92, b]) ++ (t.flatMap (escB m) ++ [m]) := by simpa using h
        obtain ⟨a1, a2⟩ := bt_list ha
        obtain ⟨b1, b2⟩ := bt_list hb
        have ih := quo_list m hm u t (P ++ [92, b]) (out ++ [b]) hc
        simp only [List.length_append, List.length_cons, List.length_nil, Nat.zero_add, Nat.reduceAdd] at b1 b2 ih
        have x92 : (92 : UInt8).toNat = 92 := rfl
        have hbn : b.toNat = 92 ∨ b.toNat = 39 ∨ b.toNat = 34 := by
          rcases e2 with h | h
          · exact .inl h
          · rw [h]; exact .inr hm
        have hes : esc b.toNat = some b := by
          unfold esc
          rw [if_neg (by omega)]
          rcases hbn with h | h | h
          · rw [if_pos h]; exact congrArg some (UInt8.toNat_inj.1 h.symm)
          · rw [if_neg (by omega), if_pos h]; exact congrArg some (UInt8.toNat_inj.1 h.symm)
          · rw [if_neg (by omega), if_neg (by omega), if_pos h]; exact congrArg some (UInt8.toNat_inj.1 h.symm)
        have hpr : pr b.toNat = true := by unfold pr; simp; omega
        rw [quo, if_neg (by omega), if_neg (by omega), if_neg (by omega), if_pos (by omega), if_neg (by omega), b1, hes]
        show quo u m.toNat (P.length + 2) (out ++ [b]) = _
        rw [ih]
        simp [hpr]
      · have hE : escB m b = [b] := by unfold escB; rw [if_neg e1, if_neg e2]
        rw [hE] at h
        have ha : u.data.toList = P ++ b :: (t.flatMap (escB m) ++ [m]) := by simpa using h
        have hc : u.data.toList = (P ++ [b]) ++ (t.flatMap (escB m) ++ [m]) := by simpa using h
        obtain ⟨a1, a2⟩ := bt_list ha
        have ih := quo_list m hm u t (P ++ [b]) (out ++ [b]) hc
        simp only [List.length_append, List.length_cons, List.length_nil, Nat.zero_add] at ih
        have hbm : b.toNat ≠ m.toNat := fun h => e2 (.inr (UInt8.toNat_inj.1 h))
        rcases hpr : pr b.toNat with _ | _
        · have hbad : b.toNat < 32 ∨ 126 < b.toNat := by unfold pr at hpr; simp at hpr; omega
          rw [quo, if_neg (by omega), if_neg (by omega), if_pos (by omega)]
          simp [hpr]
        · have hgood : ¬ (b.toNat < 32 ∨ 126 < b.toNat) := by unfold pr at hpr; simp at hpr; omega
          rw [quo, if_neg (by omega), if_neg (by omega), if_neg (by omega), if_neg (by omega), a1, UInt8.ofNat_toNat, ih]
          simp [hpr]

end Go.Proofs.YtjdncofdjabkiaaDoor

namespace Go.Proofs.YtjdncofdjabkiaaDoor
open Go.RowKit Go.Joins

theorem okT_list (s : ByteArray) : okT s = s.data.toList.all (fun b => pr b.toNat) := by
  unfold okT
  rw [Bool.eq_iff_iff, List.all_eq_true, List.all_eq_true]
  constructor
  · intro h b hb
    obtain ⟨i, hi, rfl⟩ := List.mem_iff_getElem.1 hb
    have hi' : i < s.size := by simpa using hi
    have := h i (List.mem_range.2 hi')
    rw [← bt_in hi'] at this
    exact this
  · intro h i hi
    have hi' : i < s.size := List.mem_range.1 hi
    rw [← bt_in hi']
    refine h _ ?_
    have : s.data.toList[i]'(by simpa using hi') = s[i] := rfl
    rw [← this]
    exact List.getElem_mem _

/-- The text between marks. -/
def escA (m : UInt8) (s : ByteArray) : ByteArray := ⟨(escT m s).toArray⟩
/-- Whether what is written between marks is read as that text. -/
def okQ (m : UInt8) (s : ByteArray) : Bool := okT s && (m.toNat != 39 || s.size == 1)

theorem tok_esc (m : UInt8) (hm : m.toNat = 39 ∨ m.toNat = 34) (s : ByteArray) : tok (escA m s) 0 = if okQ m s = true then .ok (if m.toNat = 39 then 6 else 7) s (escA m s).size else .bad 4 := by
  have hl : (escA m s).data.toList = [] ++ m :: (s.data.toList.flatMap (escB m) ++ [m]) := by simp [escA, escT]
  have hl2 : (escA m s).data.toList = [m] ++ (s.data.toList.flatMap (escB m) ++ [m]) := by simp [escA, escT]
  obtain ⟨h1, h2⟩ := bt_list hl
  have hq := quo_list m hm (escA m s) s.data.toList [m] [] hl2
  simp only [List.length_nil, List.length_cons, Nat.zero_add] at h1 h2 hq
  rw [← okT_list] at hq
  have d1 : sml m.toNat = false := by simp [sml]; omega
  have d2 : cap m.toNat = false := by simp [cap]; omega
  have d3 : dig m.toNat = false := by simp [dig]; omega
  unfold tok
  rw [h1, if_neg (by rw [d1, d2]; decide), if_neg (by rw [d3]; decide), if_pos hm, hq]
  unfold okQ
  rcases q : okT s with _ | _
  · simp
  · simp only [if_true, List.nil_append, Bool.true_and]
    have hlen : s.data.toList.length = s.size := by rw [Array.length_toList]; rfl
    have hs : (⟨s.data.toList.toArray⟩ : ByteArray) = s := by simp
    rw [hlen, hs, Nat.sub_zero]
    by_cases e : m.toNat = 39
    · by_cases e2 : s.size = 1
      · have k : (m.toNat != 39 || s.size == 1) = true := by simp [e2]
        rw [if_neg (by omega), k]
        simp
      · rw [if_pos ⟨e, e2⟩, if_neg (by simp [e, e2])]
    · have k : (m.toNat != 39 || s.size == 1) = true := by simp [e]
      rw [if_neg (fun h => e h.1), k]
      simp

theorem lexF_esc (m : UInt8) (hm : m.toNat = 39 ∨ m.toNat = 34) (s : ByteArray) : lexF (escA m s) 0 = if okQ m s = true then ([⟨if m.toNat = 39 then 6 else 7, s, 1, 1⟩], 0, (escA m s).size) else ([], 4, 0) := by
  have hl : (escA m s).data.toList = [] ++ m :: (s.data.toList.flatMap (escB m) ++ [m]) := by simp [escA, escT]
  obtain ⟨h1, h2⟩ := bt_list hl
  simp only [List.length_nil] at h1 h2
  have hb : blank (escA m s) 0 = (0, true) := stop_of h2 (by omega) (by omega) (by omega) (by omega)
  have ht := tok_esc m hm s
  rcases q : okQ m s with _ | _
  · rw [q, if_neg (by decide)] at ht
    rw [if_neg (by decide), lex_bad h2 hb ht]
  · rw [q, if_pos rfl] at ht
    rw [if_pos rfl, lex_ok h2 hb ht, Nat.zero_add, lex_end]
    rfl

/-- The tokens that are read of what is written between marks. -/
theorem lexA_esc (m : UInt8) (hm : m.toNat = 39 ∨ m.toNat = 34) (s : ByteArray) : (lexA (escA m s)).2.2.2 = if okQ m s = true ∧ (escA m s).size ≤ 60000 then [⟨if m.toNat = 39 then 6 else 7, s, 1, 1⟩] else [] := by
  unfold lexA
  by_cases hz : 60000 < (escA m s).size
  · rw [if_pos hz, if_neg (by omega)]
  · rw [if_neg hz, lexF_esc m hm s]
    rcases q : okQ m s with _ | _
    · simp
    · simp; omega

end Go.Proofs.YtjdncofdjabkiaaDoor

namespace Go.Proofs.YtjdncofdjabkiaaDoor
open Go.RowKit Go.Joins

/-- Whether a list of tokens is one token of that kind and text. -/
def one (k : Int) (t : ByteArray) : List To → Bool
  | [o] => ((o.kind : Int) == k) && (o.text.toList == t.toList)
  | _ => false

theorem field3 (v0 v1 v2 v3 : Value) (w : World) : (Instr.field 24 (.agg #[v0, v1, v2, v3]) 3).run Tryd.prog w = .ok v3 w := by kernel_rfl

set_option maxHeartbeats 1000000 in
set_option maxRecDepth 100000 in
theorem iIfReadG (q1 q2 q3 : Nat) (T : List To) (hT : T.length ≤ 1048576) (mb : Nat) (k l c : Int) (t x : ByteArray) (w : World) (hm : mb < w.heap.size) (hK : KM w mb)
    (HL : Hid (∀ w1, KM w1 mb → mb < w1.heap.size → Calls Tryd.prog 25 #[.map (some mb), .string x] w1 (PostA q1 q2 q3 T w1))) :
    Calls Tryd.prog 57 #[.map (some mb), .agg #[.int .i64 k, .string t, .int .i64 l, .int .i64 c], .string x] w fun e w' => e = .returned (.string (if one k t T = true then x else ⟨#[]⟩)) ∧ Below w.heap.size w w' := by
  obtain ⟨X, hX⟩ : ∃ X, X = (if one k t T = true then x else (⟨#[]⟩ : ByteArray)) := ⟨_, rfl⟩
  rw [← hX]
  have HX := hide hX
  clear hX
  have b0 := below_alloc1 w (.cells #[.int .i64 k, .string t, .int .i64 l, .int .i64 c] 33)
  have H1 := hide (HL.out _ (hK.below b0 hm) (Nat.lt_of_lt_of_le hm b0.size))
  clear hK
  go_enter Tryd.func57, Tryd.ntmps57
  go_wp2_with fail
  refine H1.out.mono ?_
  rintro e w2 ⟨ao, cp, n, rfl, hTR, b2⟩
  have hb := b0.trans (b2.mono b0.size)
  have hbl : w.heap.size < (w.alloc (.cells #[.int .i64 k, .string t, .int .i64 l, .int .i64 c] 33)).heap.size := by simp
  have y0 : w2.cell? ⟨w.heap.size, 0, none⟩ = some (.int .i64 k) := (b2.cell (p := ⟨w.heap.size, 0, none⟩) hbl).trans (by simp)
  have y1 : w2.cell? ⟨w.heap.size, 1, none⟩ = some (.string t) := (b2.cell (p := ⟨w.heap.size, 1, none⟩) hbl).trans (by simp)
  have hn := hTR.1
  have hM := hTR.mine
  clear hTR H1 b2 hbl
  have hfd := field3 (.int .i64 q1) (.int .i64 q2) (.int .i64 q3) (.slice ao n cp) w2
  by_cases h1 : n = 1
  · subst h1
    obtain ⟨o, rfl⟩ : ∃ o, T = [o] := by
      match T, hn with
      | [o], _ => exact ⟨o, rfl⟩
    obtain ⟨g, rfl, hR, -⟩ := hM (by omega)
    obtain ⟨x0, x1, -, -⟩ := hR 0 (by omega)
    have x0' : w2.cell? ⟨g, 0, none⟩ = some (.int .i64 o.kind) := x0
    have x1' : w2.cell? ⟨g, 1, none⟩ = some (.string o.text) := x1
    clear x0 x1 hR hn hT
    have HO : Hid (one k t [o] = (((o.kind : Int) == k) && (o.text.toList == t.toList))) := rfl
    generalize one k t [o] = R at *
    generalize (o.kind : Int) = ok at *
    generalize o.text = ot at *
    by_cases z1 : ok = k
    · subst z1
      rcases z3 : (ot.toList == t.toList) with _ | _
      · have hR : Hid (X = ⟨#[]⟩) := by unfold Hid; rw [HX.out, HO.out, z3]; simp
        clear HX HO
        go_wp2_with fail
        go_region
        all_goals
          go_wp2_with fail
          go_ret
          exact ⟨by rw [hR.out]; rfl, hb.drew⟩
      · have hR : Hid (X = x) := by unfold Hid; rw [HX.out, HO.out, z3]; simp
        clear HX HO
        go_wp2_with fail
        go_region
        all_goals
          go_wp2_with fail
          go_ret
          exact ⟨by rw [hR.out]; rfl, hb.drew⟩
    · have hR : Hid (X = ⟨#[]⟩) := by unfold Hid; rw [HX.out, HO.out]; simp [z1]
      have z3 : (ok == k) = false := by simpa using z1
      clear HX HO
      go_wp2_with fail
      go_region
      all_goals
        go_wp2_with fail
        go_ret
        exact ⟨by rw [hR.out]; rfl, hb.drew⟩
  · have h1' : ((n : Int) == 1) = false := by simp; omega
    have hR : one k t T = false := by
      match T, hn with
      | [], _ => rfl
      | [o], hn => exact absurd hn h1
      | _ :: _ :: _, _ => rfl
    have HR : Hid (X = ⟨#[]⟩) := by unfold Hid; rw [HX.out, hR]; rfl
    clear hM hn h1 hT HL hR HX
    go_wp2_with fail
    go_region
    all_goals
      go_wp2_with fail
      go_ret
      exact ⟨by rw [HR.out]; rfl, hb.drew⟩

theorem iIfRead (mb : Nat) (k l c : Int) (t x : ByteArray) (w : World) (hm : mb < w.heap.size) (hK : KM w mb) (hx : x.size ≤ 1048576) :
    Calls Tryd.prog 57 #[.map (some mb), .agg #[.int .i64 k, .string t, .int .i64 l, .int .i64 c], .string x] w fun e w' => e = .returned (.string (if one k t (lexA x).2.2.2 = true then x else ⟨#[]⟩)) ∧ Below w.heap.size w w' :=
  iIfReadG _ _ _ _ (Nat.le_trans (lexA_len x) (by omega)) mb k l c t x w hm hK (fun w1 h1 h2 => iLexWith mb x w1 h1 h2 hx)

end Go.Proofs.YtjdncofdjabkiaaDoor

namespace Go.Proofs.YtjdncofdjabkiaaDoor
open Go.RowKit Go.Joins

theorem iClone (x : ByteArray) (w : World) (hx : x.size ≤ 1048576) : Calls Tryd.prog 56 #[.string x] w fun e w' => e = .returned (.string x) ∧ Below w.heap.size w w' := by
  have := Tryd.stringslite_Clone x w (by omega)
  go_enter Tryd.func56, Tryd.ntmps56
  go_wp2_with fail
  refine this.mono ?_
  rintro e w2 ⟨rfl, b2⟩
  go_wp2_with fail
  go_ret
  exact ⟨rfl, b2⟩

/-- A text if it is read as that token, else nothing. -/
def rd (k : Int) (t x : ByteArray) : ByteArray := if one k t (lexA x).2.2.2 = true then x else ⟨#[]⟩

set_option maxHeartbeats 1000000 in
set_option maxRecDepth 100000 in
theorem iWithElse (mb : Nat) (k l c : Int) (t : ByteArray) (w : World) (hm : mb < w.heap.size) (hK : KM w mb) (ht : t.size ≤ 60000) (n1 : k ≠ 11) (n2 : k ≠ 6) (n3 : k ≠ 7) :
    Calls Tryd.prog 31 #[.map (some mb), .agg #[.int .i64 k, .string t, .int .i64 l, .int .i64 c]] w fun e w' => e = .returned (.string (rd k t t)) ∧ Below w.heap.size w w' := by
  have HR : Hid (∀ wx, Below w.heap.size w wx → Calls Tryd.prog 57 #[.map (some mb), .agg #[.int .i64 k, .string t, .int .i64 l, .int .i64 c], .string t] wx fun e w' => e = .returned (.string (rd k t t)) ∧ Below wx.heap.size wx w') := fun wx hb => iIfRead mb k l c t t wx (Nat.lt_of_lt_of_le hm hb.size) (hK.below hb hm) (by omega)
  have HC : Hid (∀ wx, Calls Tryd.prog 56 #[.string t] wx fun e w' => e = .returned (.string t) ∧ Below wx.heap.size wx w') := fun wx => iClone t wx (by omega)
  generalize rd k t t = X at *
  have ht' : ¬ (60000 : Int) < t.size := by omega
  have z1 : (k == 11) = false := by simpa using n1
  have z2 : (k == 6) = false := by simpa using n2
  have z3 : (k == 7) = false := by simpa using n3
  have b0 := below_alloc1 w (.cells #[.int .i64 k, .string t, .int .i64 l, .int .i64 c] 33)
  have P := B4.new w (.int .i64 k) (.string t) (.int .i64 l) (.int .i64 c) 33
  clear n1 n2 n3 hK
  go_enter Tryd.func31, Tryd.ntmps31
  go_upto_region 11 with fail
  generalize w.alloc (.cells #[.int .i64 k, .string t, .int .i64 l, .int .i64 c] 33) = v at *
  obtain ⟨c0, c1, c2, c3, lt⟩ := id P
  have S0 : v.drew.cell? ⟨w.heap.size, 0, none⟩ = some (.int .i64 k) ∧ v.drew.cell? ⟨w.heap.size, 1, none⟩ = some (.string t) ∧ v.drew.cell? ⟨w.heap.size, 2, none⟩ = some (.int .i64 l) ∧ v.drew.cell? ⟨w.heap.size, 3, none⟩ = some (.int .i64 c) := ⟨c0, c1, c2, c3⟩
  go_region_held3 (fun w' => w'.cell? ⟨w.heap.size, 0, none⟩ = some (.int .i64 k) ∧ w'.cell? ⟨w.heap.size, 1, none⟩ = some (.string t) ∧ w'.cell? ⟨w.heap.size, 2, none⟩ = some (.int .i64 l) ∧ w'.cell? ⟨w.heap.size, 3, none⟩ = some (.int .i64 c)) (first | exact S0 | exact S5 | exact S6) (first
    | (go_at_call 56; refine (HC.out v.drew).mono ?_; rintro e w5 ⟨rfl, b5⟩; have hb5 := b0.drew.trans (b5.mono b0.size); have Q5 := P.keep (b5.block _ lt) b5.size; have S5 : w5.cell? ⟨w.heap.size, 0, none⟩ = some (.int .i64 k) ∧ w5.cell? ⟨w.heap.size, 1, none⟩ = some (.string t) ∧ w5.cell? ⟨w.heap.size, 2, none⟩ = some (.int .i64 l) ∧ w5.cell? ⟨w.heap.size, 3, none⟩ = some (.int .i64 c) := ⟨Q5.c0, Q5.c1, Q5.c2, Q5.c3⟩)
    | (go_at_call 57; refine (HR.out w5 hb5).mono ?_; rintro e w6 ⟨rfl, b6⟩; have hb6 := hb5.trans (b6.mono hb5.size); have Q6 := Q5.keep (b6.block _ Q5.lt) b6.size; have S6 : w6.cell? ⟨w.heap.size, 0, none⟩ = some (.int .i64 k) ∧ w6.cell? ⟨w.heap.size, 1, none⟩ = some (.string t) ∧ w6.cell? ⟨w.heap.size, 2, none⟩ = some (.int .i64 l) ∧ w6.cell? ⟨w.heap.size, 3, none⟩ = some (.int .i64 c) := ⟨Q6.c0, Q6.c1, Q6.c2, Q6.c3⟩))
  all_goals
    go_wp2_with fail
    go_ret
    exact ⟨rfl, hb6⟩

end Go.Proofs.YtjdncofdjabkiaaDoor

namespace Go.Proofs.YtjdncofdjabkiaaDoor
open Go.RowKit Go.Joins

theorem escB_len (m : UInt8) : ∀ L : List UInt8, (L.flatMap (escB m)).length ≤ 2 * L.length
  | [] => by simp
  | b :: L => by
    have := escB_len m L
    have h2 : (escB m b).length ≤ 2 := by
      unfold escB
      split
      · simp
      · split <;> simp
    rw [List.flatMap_cons, List.length_append, List.length_cons]
    omega
theorem escA_len (m : UInt8) (t : ByteArray) : (escA m t).size ≤ 2 * t.size + 2 := by
  have h := escB_len m t.data.toList
  have e : (escA m t).size = (escT m t).length := by simp [escA, ByteArray.size]
  have e2 : t.data.toList.length = t.size := by rw [Array.length_toList]; rfl
  rw [e]
  unfold escT
  simp only [List.length_append, List.length_cons, List.length_nil]
  omega

set_option maxHeartbeats 1000000 in
set_option maxRecDepth 100000 in
theorem iWith6 (mb : Nat) (l c : Int) (t : ByteArray) (w : World) (hm : mb < w.heap.size) (hK : KM w mb) (ht : t.size ≤ 60000) :
    Calls Tryd.prog 31 #[.map (some mb), .agg #[.int .i64 6, .string t, .int .i64 l, .int .i64 c]] w fun e w' => e = .returned (.string (rd 6 t (escA 39 t))) ∧ Below w.heap.size w w' := by
  have hz := escA_len 39 t
  have HR : Hid (∀ wx, Below w.heap.size w wx → Calls Tryd.prog 57 #[.map (some mb), .agg #[.int .i64 6, .string t, .int .i64 l, .int .i64 c], .string (escA 39 t)] wx fun e w' => e = .returned (.string (rd 6 t (escA 39 t))) ∧ Below wx.heap.size wx w') := fun wx hb => iIfRead mb 6 l c t (escA 39 t) wx (Nat.lt_of_lt_of_le hm hb.size) (hK.below hb hm) (by omega)
  have HC : Hid (∀ wx, Calls Tryd.prog 58 #[.string t, .int .i32 39] wx fun e w' => e = .returned (.string (escA 39 t)) ∧ Below wx.heap.size wx w') := fun wx => iQuote t 39 (by decide) wx ht
  clear hz
  generalize rd 6 t (escA 39 t) = X at *
  generalize escA 39 t = E at *
  have ht' : ¬ (60000 : Int) < t.size := by omega
  have b0 := below_alloc1 w (.cells #[.int .i64 6, .string t, .int .i64 l, .int .i64 c] 33)
  have P := B4.new w (.int .i64 6) (.string t) (.int .i64 l) (.int .i64 c) 33
  clear hK
  go_enter Tryd.func31, Tryd.ntmps31
  go_upto_region 10 with fail
  generalize w.alloc (.cells #[.int .i64 6, .string t, .int .i64 l, .int .i64 c] 33) = v at *
  obtain ⟨c0, c1, c2, c3, lt⟩ := id P
  have S0 : v.drew.cell? ⟨w.heap.size, 0, none⟩ = some (.int .i64 6) ∧ v.drew.cell? ⟨w.heap.size, 1, none⟩ = some (.string t) ∧ v.drew.cell? ⟨w.heap.size, 2, none⟩ = some (.int .i64 l) ∧ v.drew.cell? ⟨w.heap.size, 3, none⟩ = some (.int .i64 c) := ⟨c0, c1, c2, c3⟩
  go_region_held3 (fun w' => w'.cell? ⟨w.heap.size, 0, none⟩ = some (.int .i64 6) ∧ w'.cell? ⟨w.heap.size, 1, none⟩ = some (.string t) ∧ w'.cell? ⟨w.heap.size, 2, none⟩ = some (.int .i64 l) ∧ w'.cell? ⟨w.heap.size, 3, none⟩ = some (.int .i64 c)) (first | exact S0 | exact S5 | exact S6) (first
    | (go_at_call 59; refine (iQuote6 _).mono ?_; rintro e w4 ⟨rfl, hw4⟩; obtain rfl : v.drew = w4 := hw4.symm)
    | (go_at_call 58; refine (HC.out v.drew).mono ?_; rintro e w5 ⟨rfl, b5⟩; have hb5 := b0.drew.trans (b5.mono b0.size); have Q5 := P.keep (b5.block _ lt) b5.size; have S5 : w5.cell? ⟨w.heap.size, 0, none⟩ = some (.int .i64 6) ∧ w5.cell? ⟨w.heap.size, 1, none⟩ = some (.string t) ∧ w5.cell? ⟨w.heap.size, 2, none⟩ = some (.int .i64 l) ∧ w5.cell? ⟨w.heap.size, 3, none⟩ = some (.int .i64 c) := ⟨Q5.c0, Q5.c1, Q5.c2, Q5.c3⟩)
    | (go_at_call 57; refine (HR.out w5 hb5).mono ?_; rintro e w6 ⟨rfl, b6⟩; have hb6 := hb5.trans (b6.mono hb5.size); have Q6 := Q5.keep (b6.block _ Q5.lt) b6.size; have S6 : w6.cell? ⟨w.heap.size, 0, none⟩ = some (.int .i64 6) ∧ w6.cell? ⟨w.heap.size, 1, none⟩ = some (.string t) ∧ w6.cell? ⟨w.heap.size, 2, none⟩ = some (.int .i64 l) ∧ w6.cell? ⟨w.heap.size, 3, none⟩ = some (.int .i64 c) := ⟨Q6.c0, Q6.c1, Q6.c2, Q6.c3⟩))
  all_goals
    go_wp2_with fail
    go_ret
    exact ⟨rfl, hb6⟩

set_option maxHeartbeats 1000000 in
set_option maxRecDepth 100000 in
theorem iWith7 (mb : Nat) (l c : Int) (t : ByteArray) (w : World) (hm : mb < w.heap.size) (hK : KM w mb) (ht : t.size ≤ 60000) :
    Calls Tryd.prog 31 #[.map (some mb), .agg #[.int .i64 7, .string t, .int .i64 l, .int .i64 c]] w fun e w' => e = .returned (.string (rd 7 t (escA 34 t))) ∧ Below w.heap.size w w' := by
  have hz := escA_len 34 t
  have HR : Hid (∀ wx, Below w.heap.size w wx → Calls Tryd.prog 57 #[.map (some mb), .agg #[.int .i64 7, .string t, .int .i64 l, .int .i64 c], .string (escA 34 t)] wx fun e w' => e = .returned (.string (rd 7 t (escA 34 t))) ∧ Below wx.heap.size wx w') := fun wx hb => iIfRead mb 7 l c t (escA 34 t) wx (Nat.lt_of_lt_of_le hm hb.size) (hK.below hb hm) (by omega)
  have HC : Hid (∀ wx, Calls Tryd.prog 58 #[.string t, .int .i32 34] wx fun e w' => e = .returned (.string (escA 34 t)) ∧ Below wx.heap.size wx w') := fun wx => iQuote t 34 (by decide) wx ht
  clear hz
  generalize rd 7 t (escA 34 t) = X at *
  generalize escA 34 t = E at *
  have ht' : ¬ (60000 : Int) < t.size := by omega
  have b0 := below_alloc1 w (.cells #[.int .i64 7, .string t, .int .i64 l, .int .i64 c] 33)
  have P := B4.new w (.int .i64 7) (.string t) (.int .i64 l) (.int .i64 c) 33
  clear hK
  go_enter Tryd.func31, Tryd.ntmps31
  go_upto_region 10 with fail
  generalize w.alloc (.cells #[.int .i64 7, .string t, .int .i64 l, .int .i64 c] 33) = v at *
  obtain ⟨c0, c1, c2, c3, lt⟩ := id P
  have S0 : v.drew.cell? ⟨w.heap.size, 0, none⟩ = some (.int .i64 7) ∧ v.drew.cell? ⟨w.heap.size, 1, none⟩ = some (.string t) ∧ v.drew.cell? ⟨w.heap.size, 2, none⟩ = some (.int .i64 l) ∧ v.drew.cell? ⟨w.heap.size, 3, none⟩ = some (.int .i64 c) := ⟨c0, c1, c2, c3⟩
  go_region_held3 (fun w' => w'.cell? ⟨w.heap.size, 0, none⟩ = some (.int .i64 7) ∧ w'.cell? ⟨w.heap.size, 1, none⟩ = some (.string t) ∧ w'.cell? ⟨w.heap.size, 2, none⟩ = some (.int .i64 l) ∧ w'.cell? ⟨w.heap.size, 3, none⟩ = some (.int .i64 c)) (first | exact S0 | exact S5 | exact S6) (first
    | (go_at_call 59; refine (iQuote7 _).mono ?_; rintro e w4 ⟨rfl, hw4⟩; obtain rfl : v.drew = w4 := hw4.symm)
    | (go_at_call 58; refine (HC.out v.drew).mono ?_; rintro e w5 ⟨rfl, b5⟩; have hb5 := b0.drew.trans (b5.mono b0.size); have Q5 := P.keep (b5.block _ lt) b5.size; have S5 : w5.cell? ⟨w.heap.size, 0, none⟩ = some (.int .i64 7) ∧ w5.cell? ⟨w.heap.size, 1, none⟩ = some (.string t) ∧ w5.cell? ⟨w.heap.size, 2, none⟩ = some (.int .i64 l) ∧ w5.cell? ⟨w.heap.size, 3, none⟩ = some (.int .i64 c) := ⟨Q5.c0, Q5.c1, Q5.c2, Q5.c3⟩)
    | (go_at_call 57; refine (HR.out w5 hb5).mono ?_; rintro e w6 ⟨rfl, b6⟩; have hb6 := hb5.trans (b6.mono hb5.size); have Q6 := Q5.keep (b6.block _ Q5.lt) b6.size; have S6 : w6.cell? ⟨w.heap.size, 0, none⟩ = some (.int .i64 7) ∧ w6.cell? ⟨w.heap.size, 1, none⟩ = some (.string t) ∧ w6.cell? ⟨w.heap.size, 2, none⟩ = some (.int .i64 l) ∧ w6.cell? ⟨w.heap.size, 3, none⟩ = some (.int .i64 c) := ⟨Q6.c0, Q6.c1, Q6.c2, Q6.c3⟩))
  all_goals
    go_wp2_with fail
    go_ret
    exact ⟨rfl, hb6⟩

end Go.Proofs.YtjdncofdjabkiaaDoor

