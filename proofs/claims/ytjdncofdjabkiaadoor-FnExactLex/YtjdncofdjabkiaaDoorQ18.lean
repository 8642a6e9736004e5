import Derived.Test.YtjdncofdjabkiaaDoorQ17
import Derived.Test.YtjdncofdjabkiaaDoorQ03
import Derived.Test.YtjdncofdjabkiaaDoorQ07
import Derived.Test.YtjdncofdjabkiaaDoorQ05
namespace Go.Proofs.YtjdncofdjabkiaaDoor
open Go.RowKit Go.Joins

set_option maxHeartbeats 1000000 in
set_option maxRecDepth 100000 in
theorem mark0 (ao : Option Addr) (n cp : Nat) (w : World) (hn : n = 0) : Calls Tryd.prog 27 #[.slice ao n cp, .int .i64 1] w fun e w' => e = .returned (.int .i64 1) ∧ w = w' := by
  subst hn
  go_enter Tryd.func27, Tryd.ntmps27
  go_wp2_with fail
  go_loop [1, 5] (fun k i => i = .int .i64 0 ∧ k = .int .i64 1) (fun _ _ => 0)
  case atStart => exact ⟨rfl, rfl⟩
  case round =>
    obtain ⟨rfl, rfl⟩ := hrel
    go_wp2_with fail
    go_ret
    exact ⟨rfl, rfl⟩

set_option maxHeartbeats 1000000 in
set_option maxRecDepth 100000 in
theorem held0 (ao : Option Addr) (n cp : Nat) (w : World) (hn : n = 0) : Calls Tryd.prog 28 #[.slice ao n cp, .int .i64 1] w fun e w' => e = .returned (.int .i64 1) ∧ w = w' := by
  subst hn
  go_enter Tryd.func28, Tryd.ntmps28
  go_wp2_with fail
  go_loop [1, 5] (fun k i => i = .int .i64 0 ∧ k = .int .i64 1) (fun _ _ => 0)
  case atStart => exact ⟨rfl, rfl⟩
  case round =>
    obtain ⟨rfl, rfl⟩ := hrel
    go_wp2_with fail
    go_ret
    exact ⟨rfl, rfl⟩

set_option maxHeartbeats 1000000 in
set_option maxRecDepth 100000 in
theorem heldToks (g n cp : Nat) (w : World) (hn : n ≤ 1048576) (hg : g < w.heap.size) (hR : Row w g n mk) :
    Calls Tryd.prog 28 #[.slice (some ⟨g, 0, none⟩) n cp, .int .i64 1] w fun e w' => e = .returned (.int .i64 ((1 + n * 4 : Nat) : Int)) ∧ Below w.heap.size w w' := by
  have HR := hide hR
  clear hR
  go_enter Tryd.func28, Tryd.ntmps28
  go_wp2_with fail
  go_loopw [1, 5] (fun k i wr => ∃ (j K : Nat), j ≤ n ∧ Hid (K = 1 + j * 4) ∧ i = .int .i64 j ∧ k = .int .i64 K ∧ Below w.heap.size w wr) (fun _ i _ => n - (intOf i).toNat)
  case atStart => exact ⟨0, 1, Nat.zero_le _, rfl, rfl, rfl, Below.refl _ _⟩
  case round =>
    obtain ⟨j, K, hj, hK, rfl, rfl, hb⟩ := hrel
    have hKb : K ≤ 4194305 := by have := hK.out; omega
    by_cases hlt : j < n
    · have hlt' : (j : Int) < n := by omega
      have hrow : ∀ w1 : World, Below w.heap.size w w1 → w1.cell? ⟨g, j * 4, none⟩ = some (.int .i64 K) ∧ w1.cell? ⟨g, j * 4 + 1, none⟩ = some (.string (mt (K + 1))) ∧ w1.cell? ⟨g, j * 4 + 2, none⟩ = some (.int .i64 ((K : Int) + 1 + 1)) ∧ w1.cell? ⟨g, j * 4 + 3, none⟩ = some (.int .i64 ((K : Int) + 1 + 1 + 1)) := fun w1 b1 => by
        have h := HR.out.keep (b1.block g hg) j hlt
        unfold mk at h
        rw [← hK.out] at h
        exact h
      have HROW := hide hrow
      obtain ⟨x0, x1, x2, x3⟩ := HROW.out wr hb
      have HM : Hid (∀ w1, Calls Tryd.prog 54 #[.int .i64 ((K : Int) + 1)] w1 fun e w' => e = .returned (.string (mt (K + 1))) ∧ Below w1.heap.size w1 w') := fun w1 => markText (K + 1) w1 (by omega) (by omega)
      have hd0 : wr.drew.cell? ⟨g, j * 4 + 1, none⟩ = some (.string (mt (K + 1))) := x1
      have hgr : g < wr.heap.size := Nat.lt_of_lt_of_le hg hb.size
      clear hrow
      go_wp2_with fail
      go_region_held3 (fun w' => w'.cell? ⟨g, j * 4 + 1, none⟩ = some (.string (mt (K + 1)))) (first | exact hd0 | exact k6) (first
        | (go_at_call 54; refine (HM.out _).mono ?_; rintro e w6 ⟨rfl, b6⟩; have k6 : w6.cell? ⟨g, j * 4 + 1, none⟩ = some (.string (mt (K + 1))) := (b6.cell (p := ⟨g, j * 4 + 1, none⟩) hgr).trans x1))
      all_goals
        have hb6 := hb.drew.trans (b6.mono hb.size)
        obtain ⟨y0, y1, y2, y3⟩ := HROW.out _ hb6
        clear x0 x1 x2 x3
        go_wp2_with fail
        go_roundw
        case rel =>
          have hK := hK.out
          exact ⟨j + 1, K + 4, by omega, by unfold Hid; omega, by go_num, by go_num, hb6⟩
        case measure => simp [intOf]; omega
    · have hlt' : ¬ (j : Int) < n := by omega
      obtain rfl : j = n := by omega
      go_wp2_with fail
      go_ret
      exact ⟨congrArg (fun z => Ending.returned (.int .i64 z)) (show (K : Int) = 1 + (j : Int) * 4 by have := hK.out; omega), hb⟩

/-- A slice of n tokens of its own, from block B on. -/
def Mine (B : Nat) (w : World) (ao : Option Addr) (n : Nat) (f : Nat → Tq) : Prop := 0 < n → ∃ g, ao = some ⟨g, 0, none⟩ ∧ Row w g n f ∧ g < w.heap.size ∧ B ≤ g ∧ ∀ o, w.frozen? ⟨g, o, none⟩ = false

set_option maxHeartbeats 1000000 in
set_option maxRecDepth 100000 in
theorem markRes (q1 q2 q3 : Int) (B : Nat) (ao : Option Addr) (n cp : Nat) (f : Nat → Tq) (w : World) (hn : n ≤ 1048576) (hB : B ≤ w.heap.size) (h : Mine B w ao n f) :
    Calls Tryd.prog 10 #[.agg #[.int .i64 q1, .int .i64 q2, .int .i64 q3, .slice ao n cp], .int .i64 1] w fun e w' => e = .returned (.int .i64 ((1 + n * 4 : Nat) : Int)) ∧ Toks w' ao n mk ∧ Below B w w' ∧ ∀ x, x < w.heap.size → (∀ g, ao = some ⟨g, 0, none⟩ → g ≠ x) → w'.heap[x]? = w.heap[x]? := by
  have b0 := below_alloc1 w (.cells #[.int .i64 q1, .int .i64 q2, .int .i64 q3, .slice ao n cp] 24)
  have h1 : Calls Tryd.prog 27 #[.slice ao n cp, .int .i64 1] (w.alloc (.cells #[.int .i64 q1, .int .i64 q2, .int .i64 q3, .slice ao n cp] 24)) fun e w' => e = .returned (.int .i64 ((1 + n * 4 : Nat) : Int)) ∧ Toks w' ao n mk ∧ Below B w w' ∧ ∀ x, x < w.heap.size → (∀ g, ao = some ⟨g, 0, none⟩ → g ≠ x) → w'.heap[x]? = w.heap[x]? := by
    rcases Nat.eq_zero_or_pos n with h0 | hp
    · refine (mark0 ao n cp _ h0).mono ?_
      rintro e w' ⟨rfl, rfl⟩
      subst h0
      exact ⟨rfl, fun h => by omega, b0.mono hB, fun x hx _ => b0.block x hx⟩
    · obtain ⟨g, rfl, hR, hg, hBg, hF⟩ := h hp
      refine (markToks g n cp f _ hn (Nat.lt_of_lt_of_le hg b0.size) (hR.keep (b0.block g hg)) (fun o => (b0.frozen (p := ⟨g, o, none⟩) hg).trans (hF o))).mono ?_
      rintro e w' ⟨rfl, hR', hG⟩
      refine ⟨rfl, fun _ => ⟨g, rfl, hR', Nat.lt_of_lt_of_le (Nat.lt_of_lt_of_le hg b0.size) hG.size⟩, ?_, ?_⟩
      · exact (b0.mono hB).grown hG (Nat.le_trans hB b0.size) (fun k hk => by cases hk; exact hBg)
      · exact fun x hx hne => (hG.block x (Nat.lt_of_lt_of_le hx b0.size) (fun e => hne g rfl (by cases e; rfl))).trans (b0.block x hx)
  have H1 := hide h1
  clear h1 h
  go_enter Tryd.func10, Tryd.ntmps10
  go_wp2_with fail
  refine H1.out.mono ?_
  rintro e w2 ⟨rfl, h2, b2, k2⟩
  have K2 := hide k2
  clear k2
  go_wp2_with fail
  go_ret
  exact ⟨rfl, h2, b2, K2.out⟩

set_option maxHeartbeats 1000000 in
set_option maxRecDepth 100000 in
theorem heldRes (q1 q2 q3 : Int) (ao : Option Addr) (n cp : Nat) (w : World) (hn : n ≤ 1048576) (h : Toks w ao n mk) :
    Calls Tryd.prog 11 #[.agg #[.int .i64 q1, .int .i64 q2, .int .i64 q3, .slice ao n cp], .int .i64 1] w fun e w' => e = .returned (.int .i64 ((1 + n * 4 : Nat) : Int)) ∧ Below w.heap.size w w' := by
  have b0 := below_alloc1 w (.cells #[.int .i64 q1, .int .i64 q2, .int .i64 q3, .slice ao n cp] 24)
  have h1 : Calls Tryd.prog 28 #[.slice ao n cp, .int .i64 1] (w.alloc (.cells #[.int .i64 q1, .int .i64 q2, .int .i64 q3, .slice ao n cp] 24)) fun e w' => e = .returned (.int .i64 ((1 + n * 4 : Nat) : Int)) ∧ Below w.heap.size w w' := by
    rcases Nat.eq_zero_or_pos n with h0 | hp
    · refine (held0 ao n cp _ h0).mono ?_
      rintro e w' ⟨rfl, rfl⟩
      subst h0
      exact ⟨rfl, b0⟩
    · obtain ⟨g, rfl, hR, hg⟩ := h hp
      refine (heldToks g n cp _ hn (Nat.lt_of_lt_of_le hg b0.size) (hR.keep (b0.block g hg))).mono ?_
      rintro e w' ⟨rfl, hb⟩
      exact ⟨rfl, b0.trans (hb.mono b0.size)⟩
  have H1 := hide h1
  clear h1 h
  obtain ⟨Z, hZ⟩ : ∃ Z : Int, Z = ((1 + n * 4 : Nat) : Int) := ⟨_, rfl⟩
  have hZ0 : ¬ Z < 0 := by omega
  rw [← hZ] at H1 ⊢
  clear hZ
  go_enter Tryd.func11, Tryd.ntmps11
  go_wp2_with fail
  refine H1.out.mono ?_
  rintro e w2 ⟨rfl, b2⟩
  go_wp2_with fail
  go_ret
  exact ⟨rfl, b2⟩

end Go.Proofs.YtjdncofdjabkiaaDoor

namespace Go.Proofs.YtjdncofdjabkiaaDoor
open Go.RowKit Go.Joins

def fT (T : List To) (i : Nat) : Tq := match T[i]? with
  | some t => ⟨t.kind, t.text, t.line, t.col⟩
  | none => ⟨0, ⟨#[]⟩, 0, 0⟩

theorem flat_get : ∀ (T : List To) (i : Nat) (t : To), T[i]? = some t → ∀ c, c < 4 → (T.flatMap To.cells)[i * 4 + c]? = t.cells[c]?
  | [], i, t, h, c, hc => by simp at h
  | t0 :: T, 0, t, h, c, hc => by
    have : t0 = t := by simpa using h
    subst this
    rw [List.flatMap_cons, Nat.zero_mul, Nat.zero_add, List.getElem?_append_left (by simp only [To.cells, List.length_cons, List.length_nil]; omega)]
  | t0 :: T, i + 1, t, h, c, hc => by
    have h' : T[i]? = some t := by simpa using h
    have hl : t0.cells.length = 4 := rfl
    rw [List.flatMap_cons, List.getElem?_append_right (by rw [hl]; omega), hl, show (i + 1) * 4 + c - 4 = i * 4 + c by omega]
    exact flat_get T i t h' c hc

theorem TR.mine {B W ao cap n T} (h : TR B W ao cap n T) : Mine B W ao n (fT T) := fun hp => by
  obtain ⟨hn, hl, ⟨-, h0⟩ | ⟨g, cap', cur, e, hB, hb, hc, -, hs, ht⟩⟩ := h
  · omega
  · simp only [Value.slice.injEq] at e
    obtain ⟨rfl, -, rfl⟩ := e
    refine ⟨g, rfl, fun i hi => ?_, (Array.getElem?_eq_some_iff.1 hb).1, hB, fun o => Lib.frozen_of_heap hb o⟩
    obtain ⟨t, hti⟩ : ∃ t, T[i]? = some t := ⟨_, List.getElem?_eq_getElem (by omega)⟩
    have go : ∀ c, c < 4 → W.cell? ⟨g, i * 4 + c, none⟩ = t.cells[c]? := fun c hc => by
      rw [Lib.cell_of_heap hb, ← Array.getElem?_toList, ← flat_get T i t hti c hc, ← ht, List.getElem?_take, if_pos (by omega)]
    unfold fT
    rw [hti]
    exact ⟨go 0 (by omega), go 1 (by omega), go 2 (by omega), go 3 (by omega)⟩

theorem Mine.toks {B w ao n f} (h : Mine B w ao n f) : Toks w ao n f := fun hp => by
  obtain ⟨g, e, h1, h2, -⟩ := h hp
  exact ⟨g, e, h1, h2⟩
theorem Mine.next {B w w' ao n f} (h : Mine B w ao n f) (hb : Below w.heap.size w w') : Mine B w' ao n f := fun hp => by
  obtain ⟨g, e, h1, h2, h3, h4⟩ := h hp
  exact ⟨g, e, h1.keep (hb.block g h2), Nat.lt_of_lt_of_le h2 hb.size, h3, fun o => (hb.frozen (p := ⟨g, o, none⟩) h2).trans (h4 o)⟩

theorem lex_len (s : ByteArray) : ∀ m i, s.size - i ≤ m → i ≤ s.size → (lexF s i).1.length ≤ s.size - i := by
  intro m
  induction m with
  | zero =>
    intro i hm hi
    obtain rfl : i = s.size := by omega
    rw [lex_end]; simp
  | succ m ih =>
    intro i hm hi
    have hg := blank_ge s i hi
    rcases q : (blank s i).2 with _ | _
    · rw [lexF_open hi q]; simp
    · by_cases h2 : s.size ≤ (blank s i).1
      · rw [lexF_end hi q h2]; simp
      · rcases qt : tok s (blank s i).1 with ⟨k, t, n⟩ | c
        · have hl := tok_len (by omega) qt
          rw [lexF_ok hi q (by omega) qt]
          have := ih ((blank s i).1 + n) (by omega) (by omega)
          simp only [List.length_cons]
          omega
        · rw [lexF_bad hi q (by omega) qt]; simp

theorem lexA_len (s : ByteArray) : (lexA s).2.2.2.length ≤ 60000 := by
  unfold lexA
  split
  · simp
  · split
    · have := lex_len s s.size 0 (by omega) (by omega)
      simp only
      omega
    · simp

structure B4 (w : World) (b : Nat) (v0 v1 v2 v3 : Value) : Prop where
  c0 : w.cell? ⟨b, 0, none⟩ = some v0
  c1 : w.cell? ⟨b, 1, none⟩ = some v1
  c2 : w.cell? ⟨b, 2, none⟩ = some v2
  c3 : w.cell? ⟨b, 3, none⟩ = some v3
  lt : b < w.heap.size
theorem B4.keep {w w' b v0 v1 v2 v3} (h : B4 w b v0 v1 v2 v3) (hb : w'.heap[b]? = w.heap[b]?) (hz : w.heap.size ≤ w'.heap.size) : B4 w' b v0 v1 v2 v3 :=
  ⟨(World.cell?_of_block hb).trans h.c0, (World.cell?_of_block hb).trans h.c1, (World.cell?_of_block hb).trans h.c2, (World.cell?_of_block hb).trans h.c3, Nat.lt_of_lt_of_le h.lt hz⟩
theorem B4.new (w : World) (v0 v1 v2 v3 : Value) (t : TypeId) : B4 (w.alloc (.cells #[v0, v1, v2, v3] t)) w.heap.size v0 v1 v2 v3 := ⟨by simp, by simp, by simp, by simp, by simp⟩

/-- What stands while the law runs. -/
structure Fx (w : World) (q1 q2 q3 : Int) (b1 b2 : Nat) (a1 a2 : Option Addr) (n c1 c2 : Nat) (f f2 : Nat → Tq) (wx : World) : Prop where
  p1 : B4 wx b1 (.int .i64 q1) (.int .i64 q2) (.int .i64 q3) (.slice a1 n c1)
  p2 : B4 wx b2 (.int .i64 q1) (.int .i64 q2) (.int .i64 q3) (.slice a2 n c2)
  k1 : Toks wx a1 n f
  k2 : Toks wx a2 n f2
  bel : Below w.heap.size w wx
theorem Fx.next {w q1 q2 q3 b1 b2 a1 a2 n c1 c2 f f2 wx wy} (h : Fx w q1 q2 q3 b1 b2 a1 a2 n c1 c2 f f2 wx) (hb : Below wx.heap.size wx wy) : Fx w q1 q2 q3 b1 b2 a1 a2 n c1 c2 f f2 wy :=
  ⟨h.p1.keep (hb.block _ h.p1.lt) hb.size, h.p2.keep (hb.block _ h.p2.lt) hb.size, h.k1.next hb, h.k2.next hb, h.bel.trans (hb.mono h.bel.size)⟩

end Go.Proofs.YtjdncofdjabkiaaDoor

namespace Go.Proofs.YtjdncofdjabkiaaDoor
open Go.RowKit Go.Joins

set_option maxHeartbeats 4000000 in
set_option maxRecDepth 100000 in
theorem lawLexG (q1 q2 q3 : Nat) (T : List To) (hT : T.length ≤ 1048576) (s : ByteArray) (w : World) (hs : s.size ≤ 1048576) (ht : TabB w.heap.size w)
    (HS : Hid (∀ w1, Calls Tryd.prog 7 #[.string s] w1 (PostA q1 q2 q3 T w1))) (HI : Hid (∀ w1, TabB w1.heap.size w1 → Calls Tryd.prog 8 #[.string s] w1 (PostA q1 q2 q3 T w1))) :
    Calls Tryd.prog 3 #[.string s] w fun e w' => e = .returned (.bool true) ∧ Below w.heap.size w w' := by
  have hs' : ¬ (1048576 : Int) < s.size := by omega
  have HT := hide ht
  clear ht
  go_enter Tryd.func3, Tryd.ntmps3
  go_wp2_with fail
  refine (HS.out w).mono ?_
  rintro e w1 ⟨a1, c1, n, rfl, hT1, b1⟩
  have hn : n ≤ 1048576 := by rw [hT1.1]; exact hT
  have HN := hide hT1.1
  have m1 := hT1.mine
  have P1 := B4.new w1 (.int .i64 q1) (.int .i64 q2) (.int .i64 q3) (.slice a1 n c1) 24
  have bx1 := below_alloc1 w1 (.cells #[.int .i64 q1, .int .i64 q2, .int .i64 q3, .slice a1 n c1] 24)
  have hb1 : Below w.heap.size w (w1.alloc (.cells #[.int .i64 q1, .int .i64 q2, .int .i64 q3, .slice a1 n c1] 24)) := b1.trans (bx1.mono b1.size)
  have HI1 := hide (HI.out _ (HT.out.up hb1 hb1.size))
  have M1 := hide (m1.next bx1)
  have HL1 : Hid (∀ g, a1 = some ⟨g, 0, none⟩ → g < (w1.alloc (.cells #[.int .i64 q1, .int .i64 q2, .int .i64 q3, .slice a1 n c1] 24)).heap.size) := fun g e => Nat.lt_of_lt_of_le (World.ownsRow.lt hT1.2 g (by rw [e]; rfl)).2 bx1.size
  have HP1 := hide P1.lt
  clear m1 hT1 b1 bx1
  go_wp2_with fail
  generalize hW1 : w1.alloc (.cells #[.int .i64 q1, .int .i64 q2, .int .i64 q3, .slice a1 n c1] 24) = v1 at *
  refine HI1.out.mono ?_
  rintro e w2 ⟨a2, c2, n2, rfl, hT2, b2⟩
  obtain rfl : n2 = n := by rw [hT2.1]; exact HN.out.symm
  have bx2 := below_alloc1 w2 (.cells #[.int .i64 q1, .int .i64 q2, .int .i64 q3, .slice a2 n2 c2] 24)
  have by2 : Below v1.heap.size v1 (w2.alloc (.cells #[.int .i64 q1, .int .i64 q2, .int .i64 q3, .slice a2 n2 c2] 24)) := b2.trans (bx2.mono b2.size)
  have M2 := hide (hT2.mine.next bx2)
  have HX : Hid (Fx w q1 q2 q3 w1.heap.size w2.heap.size a1 a2 n2 c1 c2 (fT T) (fT T) (w2.alloc (.cells #[.int .i64 q1, .int .i64 q2, .int .i64 q3, .slice a2 n2 c2] 24))) :=
    ⟨P1.keep (by2.block _ P1.lt) by2.size, B4.new w2 _ _ _ _ 24, (M1.out.next by2).toks, M2.out.toks, hb1.trans (by2.mono hb1.size)⟩
  have hlt2 : ∀ g, a2 = some ⟨g, 0, none⟩ → g < w2.heap.size := fun g e => (World.ownsRow.lt hT2.2 g (by rw [e]; rfl)).2
  have HL2 := hide hlt2
  have HB12 := hide (Nat.le_trans by2.size (Nat.le_refl _))
  clear hT2 by2 b2 bx2 hlt2 P1 M1
  go_upto_region 5 with fail
  generalize w2.alloc (.cells #[.int .i64 q1, .int .i64 q2, .int .i64 q3, .slice a2 n2 c2] 24) = v2 at *
  have HE := hide (eqRes q1 q2 q3 a2 a1 n2 c2 c1 (fT T) v2 hn HX.out.k2 HX.out.k1)
  obtain ⟨x0, x1, x2, x3, xl⟩ := HX.out.p1
  obtain ⟨y0, y1, y2, y3, yl⟩ := HX.out.p2
  go_wp2_with fail
  refine HE.out.mono ?_
  rintro e w3 ⟨rfl, b3⟩
  have HX3 := hide (HX.out.next b3)
  have M3 := hide (M2.out.next b3)
  clear HE x0 x1 x2 x3 xl y0 y1 y2 y3 yl HX M2
  obtain ⟨Z, hZ⟩ : ∃ Z : Int, Z = ((1 + n2 * 4 : Nat) : Int) := ⟨_, rfl⟩
  have hZ0 : ¬ Z < 0 := by omega
  have hB3 : v1.heap.size ≤ w3.heap.size := Nat.le_trans HB12.out b3.size
  have HM := hide (markRes q1 q2 q3 v1.heap.size a2 n2 c2 (fT T) w3 hn hB3 M3.out)
  rw [← hZ] at HM
  obtain ⟨y0, y1, y2, y3, yl⟩ := HX3.out.p2
  go_wp2_with fail
  refine HM.out.mono ?_
  rintro e w4 ⟨rfl, t4, b4, k4⟩
  have HX4 : Hid (Fx w q1 q2 q3 w1.heap.size w2.heap.size a1 a2 n2 c1 c2 (fT T) mk w4) :=
    ⟨HX3.out.p1.keep (b4.block _ HP1.out) b4.size, HX3.out.p2.keep (k4 _ HX3.out.p2.lt (fun g e => Nat.ne_of_lt (HL2.out g e))) b4.size, HX3.out.k1.below b4 HL1.out, t4, HX3.out.bel.trans (b4.mono hb1.size)⟩
  clear y0 y1 y2 y3 yl HM k4 M3 HX3
  have HH := hide (heldRes q1 q2 q3 a2 n2 c2 w4 hn HX4.out.k2)
  rw [← hZ] at HH
  obtain ⟨y0, y1, y2, y3, yl⟩ := HX4.out.p2
  go_wp2_with fail
  refine HH.out.mono ?_
  rintro e w5 ⟨rfl, b5⟩
  have HX5 := hide (HX4.out.next b5)
  have HI2 := hide (HI.out w5 (HT.out.up HX5.out.bel HX5.out.bel.size))
  clear y0 y1 y2 y3 yl HH HX4
  go_wp2_with fail
  refine HI2.out.mono ?_
  rintro e w6 ⟨a6, c6, n6, rfl, hT6, b6⟩
  obtain rfl : n6 = n2 := by rw [hT6.1]; exact HN.out.symm
  have bx6 := below_alloc1 w6 (.cells #[.int .i64 q1, .int .i64 q2, .int .i64 q3, .slice a6 n6 c6] 24)
  have by6 : Below w5.heap.size w5 (w6.alloc (.cells #[.int .i64 q1, .int .i64 q2, .int .i64 q3, .slice a6 n6 c6] 24)) := b6.trans (bx6.mono b6.size)
  have M6 := hide (hT6.mine.next bx6)
  have P6 := hide (B4.new w6 (.int .i64 q1) (.int .i64 q2) (.int .i64 q3) (.slice a6 n6 c6) 24)
  have HX6 := hide (HX5.out.next by6)
  clear hT6 by6 bx6 b6 HX5
  go_upto_region 16 with fail
  generalize w6.alloc (.cells #[.int .i64 q1, .int .i64 q2, .int .i64 q3, .slice a6 n6 c6] 24) = v6 at *
  have HE := hide (eqRes q1 q2 q3 a6 a1 n6 c6 c1 (fT T) v6 hn M6.out.toks HX6.out.k1)
  obtain ⟨x0, x1, x2, x3, xl⟩ := HX6.out.p1
  obtain ⟨y0, y1, y2, y3, yl⟩ := P6.out
  go_wp2_with fail
  refine HE.out.mono ?_
  rintro e w7 ⟨rfl, b7⟩
  have HX7 := hide (HX6.out.next b7)
  clear HE x0 x1 x2 x3 xl y0 y1 y2 y3 yl HX6 M6
  have HH := hide (heldRes q1 q2 q3 a2 n6 c2 w7 hn HX7.out.k2)
  rw [← hZ] at HH
  obtain ⟨y0, y1, y2, y3, yl⟩ := HX7.out.p2
  go_wp2_with fail
  refine HH.out.mono ?_
  rintro e w8 ⟨rfl, b8⟩
  have HX8 := hide (HX7.out.next b8)
  clear y0 y1 y2 y3 yl HH HX7
  go_wp2_with fail
  go_ret
  exact ⟨rfl, HX8.out.bel⟩

set_option maxHeartbeats 1000000 in
theorem lawLex (s : ByteArray) (w : World) (ht : TabB w.heap.size w) : Calls Tryd.prog 3 #[.string s] w fun e w' => e = .returned (.bool true) ∧ Below w.heap.size w w' := by
  by_cases hs : s.size ≤ 1048576
  · exact lawLexG _ _ _ _ (Nat.le_trans (lexA_len s) (by omega)) s w hs ht (fun w1 => mLex s w1 hs) (fun w1 h1 => iLex s w1 hs h1)
  · have hs' : (1048576 : Int) < s.size := by omega
    go_enter Tryd.func3, Tryd.ntmps3
    go_wp2_with fail
    go_ret
    exact ⟨rfl, Below.refl _ _⟩

end Go.Proofs.YtjdncofdjabkiaaDoor

namespace Go.Proofs.YtjdncofdjabkiaaDoor
open Go.RowKit Go.Joins

/-- A byte that may stand in a text. -/
def pr (c : Nat) : Bool := c == 10 || (decide (32 ≤ c) && decide (c ≤ 126))
def okT (s : ByteArray) : Bool := (List.range s.size).all (fun i => pr (bt s i))

set_option maxHeartbeats 1000000 in
set_option maxRecDepth 100000 in
theorem mBytes (s : ByteArray) (w : World) (hs : s.size ≤ 1048576) : Calls Tryd.prog 29 #[.string s] w fun e w' => e = .returned (.bool (okT s)) ∧ w' = w := by
  go_enter Tryd.func29, Tryd.ntmps29
  go_wp2_with fail
  go_loop [3] (fun i => ∃ j : Nat, j ≤ s.size ∧ i = .int .i64 j ∧ Hid (∀ k, k < j → pr (bt s k) = true)) (fun i => s.size - (intOf i).toNat)
  case atStart => exact ⟨0, Nat.zero_le _, rfl, fun k hk => by omega⟩
  case round =>
    obtain ⟨j, hj, rfl, hall⟩ := hrel
    by_cases hlt : j < s.size
    · have hlt' : (j : Int) < s.size := by omega
      have hb := bt_in hlt
      have hle := bt_le s j
      rcases q : pr (bt s j) with _ | _
      · have HE : Hid (okT s = false) := by
          unfold Hid okT
          rw [List.all_eq_false]
          exact ⟨j, List.mem_range.2 hlt, by rw [q]; decide⟩
        simp [pr] at q
        have h1 : ((bt s j : Int) == 10) = false := by simp; omega
        by_cases h2 : bt s j < 32
        · have h2' : (bt s j : Int) < 32 := by omega
          go_wp2_with fail
          go_ret
          exact ⟨by rw [HE.out]; rfl, rfl⟩
        · have h2' : ¬ (bt s j : Int) < 32 := by omega
          have h3 : 126 < (bt s j : Int) := by omega
          go_wp2_with fail
          go_ret
          exact ⟨by rw [HE.out]; rfl, rfl⟩
      · have HQ := hide q
        simp [pr] at q
        by_cases h1 : bt s j = 10
        · rw [h1] at hb
          clear h1 q hle
          go_wp2_with fail
          go_round
          case rel => exact ⟨j + 1, by omega, by go_num, fun k hk => by rcases Nat.lt_or_eq_of_le (Nat.le_of_lt_succ hk) with h | h; exact hall.out k h; rw [h]; exact HQ.out⟩
          case measure => simp [intOf]; omega
        · have h1' : ((bt s j : Int) == 10) = false := by simp; omega
          have h2 : ¬ (bt s j : Int) < 32 := by omega
          have h3 : ¬ 126 < (bt s j : Int) := by omega
          go_wp2_with fail
          go_round
          case rel => exact ⟨j + 1, by omega, by go_num, fun k hk => by rcases Nat.lt_or_eq_of_le (Nat.le_of_lt_succ hk) with h | h; exact hall.out k h; rw [h]; exact HQ.out⟩
          case measure => simp [intOf]; omega
    · have hlt' : ¬ (j : Int) < s.size := by omega
      have HE : Hid (okT s = true) := by
        unfold Hid okT
        rw [List.all_eq_true]
        exact fun i hi => hall.out i (by have := List.mem_range.1 hi; omega)
      go_wp2_with fail
      go_ret
      exact ⟨by rw [HE.out]; rfl, rfl⟩

end Go.Proofs.YtjdncofdjabkiaaDoor

namespace Go.Proofs.YtjdncofdjabkiaaDoor
open Go.RowKit Go.Joins

/-- A byte as it is written between marks. -/
def escB (m b : UInt8) : List UInt8 := if b.toNat = 10 then [92, 110] else if b.toNat = 92 ∨ b = m then [92, b] else [b]
def escT (m : UInt8) (s : ByteArray) : List UInt8 := m :: s.data.toList.flatMap (escB m) ++ [m]

theorem BR.one (w : World) (m : UInt8) : BR w.heap.size (w.alloc (.cells #[.int .u8 m.toNat] 5)) (some ⟨w.heap.size, 0, none⟩) 1 1 [m] :=
  ⟨rfl, rfl, .inr ⟨w.heap.size, 1, #[.int .u8 m.toNat], (0, 0), rfl, Nat.le_refl _, heap_new w _, by simp, Nat.le_refl _, by unfold maxLen; omega, by simp, by simp [Lib.byteCells]⟩⟩

theorem drop_at {s : ByteArray} {i : Nat} (h : i < s.size) : s.data.toList.drop i = s[i] :: s.data.toList.drop (i + 1) := by
  have h' : i < s.data.toList.length := by simpa using h
  rw [List.drop_eq_getElem_cons h']
  congr 1

set_option maxHeartbeats 2000000 in
set_option maxRecDepth 100000 in
theorem mEscape (s : ByteArray) (m : UInt8) (w : World) (hs : s.size ≤ 1048576) : Calls Tryd.prog 55 #[.string s, .int .u8 m.toNat] w fun e w' => e = .returned (.string ⟨(escT m s).toArray⟩) ∧ Below w.heap.size w w' := by
  go_enter Tryd.func55, Tryd.ntmps55
  go_wp2_with fail
  go_loopw [5, 6, 21, 29] (fun s5 s6 _ _ wr => ∃ (i n cp : Nat) (ao : Option Addr) (out : List UInt8), s5 = .slice ao n cp ∧ s6 = .int .i64 i ∧ i ≤ s.size ∧ BR w.heap.size wr ao cp n out ∧ out.length ≤ 2 * i + 1 ∧ Hid (out ++ (s.data.toList.drop i).flatMap (escB m) ++ [m] = escT m s) ∧ Below w.heap.size w wr) (fun _ s6 _ _ _ => s.size - (intOf s6).toNat)
  case atStart => exact ⟨0, 1, 1, _, [m], rfl, rfl, Nat.zero_le _, BR.one w m, by simp, by unfold Hid escT; simp, below_alloc1 _ _⟩
  case round =>
    obtain ⟨i, n, cp, ao, out, rfl, rfl, h1, hR, hol, hq, hb⟩ := hrel
    have hzw := hb.size
    by_cases hlt : i < s.size
    · have hlt' : (i : Int) < s.size := by omega
      have hQ := hq.out
      rw [drop_at hlt, List.flatMap_cons, ← List.append_assoc] at hQ
      by_cases e1 : s[i].toNat = 10
      · have hE : escB m s[i] = [92, 110] := by unfold escB; rw [if_pos e1]
        rw [hE] at hQ
        have HQ := hide hQ
        clear hQ hE
        go_wp2_with (at_builtin; refine push_step rfl _ _ rfl w.heap.size _ ao cp n out [92, 110] 2 rfl ⟨wr.heap.size, 0, none⟩ rfl rfl (by simp; omega) (hR.alloc _) (new_bytes wr [92, 110] _ 5 rfl) (by simp; omega) ?_; intro ao6 cp6 n6 W6 hR6 bb6; replace bb6 := ((BK.refl w.heap.size wr).alloc hzw _).trans bb6)
        go_roundw
        case rel => exact ⟨i + 1, n6, cp6, ao6, out ++ [92, 110], rfl, by go_num, by omega, hR6, by simp; omega, HQ, hb.trans bb6.1⟩
        case measure => simp [intOf]; omega
      · have z1 : ((s[i].toNat : Int) == 10) = false := by simp; omega
        by_cases e2 : s[i].toNat = 92 ∨ s[i] = m
        · have hE : escB m s[i] = [92, s[i]] := by unfold escB; rw [if_neg e1, if_pos e2]
          rw [hE] at hQ
          have HQ := hide hQ
          clear hQ hE
          by_cases e3 : s[i].toNat = 92
          · have z2 : ((s[i].toNat : Int) == 92) = true := by rw [e3]; rfl
            have HN : Hid (Lib.byteCells [92, s[i]] = [.int .u8 92, .int .u8 (s[i].toNat : Int)]) := rfl
            clear e1 e2 e3
            go_wp2_with (at_builtin; refine push_step rfl _ _ rfl w.heap.size _ ao cp n out [92, s[i]] 2 rfl ⟨wr.heap.size, 0, none⟩ rfl rfl (by simp; omega) (hR.alloc _) (new_bytes wr [92, s[i]] _ 5 rfl) (by simp; omega) ?_; intro ao6 cp6 n6 W6 hR6 bb6; replace bb6 := ((BK.refl w.heap.size wr).alloc hzw _).trans bb6)
            go_roundw
            case rel => exact ⟨i + 1, n6, cp6, ao6, out ++ [92, s[i]], rfl, by go_num, by omega, hR6, by simp; omega, HQ, hb.trans bb6.1⟩
            case measure => simp [intOf]; omega
          · have z2 : ((s[i].toNat : Int) == 92) = false := by simp; omega
            have e4 : s[i] = m := by rcases e2 with h | h; exact absurd h e3; exact h
            have z3 : ((s[i].toNat : Int) == (m.toNat : Int)) = true := by rw [e4]; simp
            clear e1 e2 e3 e4
            go_wp2_with (at_builtin; refine push_step rfl _ _ rfl w.heap.size _ ao cp n out [92, s[i]] 2 rfl ⟨wr.heap.size, 0, none⟩ rfl rfl (by simp; omega) (hR.alloc _) (new_bytes wr [92, s[i]] _ 5 rfl) (by simp; omega) ?_; intro ao6 cp6 n6 W6 hR6 bb6; replace bb6 := ((BK.refl w.heap.size wr).alloc hzw _).trans bb6)
            go_roundw
            case rel => exact ⟨i + 1, n6, cp6, ao6, out ++ [92, s[i]], rfl, by go_num, by omega, hR6, by simp; omega, HQ, hb.trans bb6.1⟩
            case measure => simp [intOf]; omega
        · have hE : escB m s[i] = [s[i]] := by unfold escB; rw [if_neg e1, if_neg e2]
          rw [hE] at hQ
          have HQ := hide hQ
          have z2 : ((s[i].toNat : Int) == 92) = false := by simp; omega
          have z3 : ((s[i].toNat : Int) == (m.toNat : Int)) = false := by
            simp
            intro h
            exact e2 (.inr (UInt8.toNat_inj.1 (by omega)))
          clear hQ hE e1 e2
          go_wp2_with (at_builtin; refine push_step rfl _ _ rfl w.heap.size _ ao cp n out [s[i]] 1 rfl ⟨wr.heap.size, 0, none⟩ rfl rfl (by simp; omega) (hR.alloc _) (new_bytes wr [s[i]] _ 5 rfl) (by simp; omega) ?_; intro ao6 cp6 n6 W6 hR6 bb6; replace bb6 := ((BK.refl w.heap.size wr).alloc hzw _).trans bb6)
          go_roundw
          case rel => exact ⟨i + 1, n6, cp6, ao6, out ++ [s[i]], rfl, by go_num, by omega, hR6, by simp; omega, HQ, hb.trans bb6.1⟩
          case measure => simp [intOf]; omega
    · have hlt' : ¬ (i : Int) < s.size := by omega
      have hE : out ++ [m] = escT m s := by
        have := hq.out
        rwa [List.drop_eq_nil_of_le (by simp; show s.size ≤ i; omega), List.flatMap_nil, List.append_nil] at this
      have HE := hide hE
      clear hE
      go_wp2_with (at_builtin; refine push_step rfl _ _ rfl w.heap.size _ ao cp n out [m] 1 rfl ⟨wr.heap.size, 0, none⟩ rfl rfl (by simp; omega) (hR.alloc _) (new_bytes wr [m] _ 5 rfl) (by simp; omega) ?_; intro ao6 cp6 n6 W6 hR6 bb6; replace bb6 := ((BK.refl w.heap.size wr).alloc hzw _).trans bb6; have hcv6 := hR6.text)
      go_ret
      exact ⟨by rw [← HE.out]; rfl, hb.trans bb6.1⟩

end Go.Proofs.YtjdncofdjabkiaaDoor

namespace Go.Proofs.YtjdncofdjabkiaaDoor
open Go.RowKit Go.Joins

set_option maxHeartbeats 1000000 in
set_option maxRecDepth 100000 in
theorem writeRune_low (B b : Nat) (bs : List Value) (c : Nat) (hc : c < 128) (w : World) (h : Lib.IsBuilderF 56 5 B b bs w) (hlen : bs.length + 1 ≤ 4194304) (hBw : B ≤ w.heap.size) :
    Calls Tryd.prog 77 #[.pointer (some ⟨b, 0, none⟩), .int .i32 c] w fun e w' => e = .returned (.tuple #[.int .i64 1, .nilIface]) ∧ Wrote B b (bs ++ [.int .u8 c]) w w' := by
  obtain ⟨i0, hi, hz0, hz1, hz2⟩ := info_parts Tryd.info5
  have hc1 : (c : Int) ≤ 127 := by omega
  go_enter Tryd.func77, Tryd.ntmps77
  go_wp2_with fail
  refine (copyCheck_any B b bs w h).mono ?_
  rintro e w1 ⟨rfl, h1, hb1, hk1⟩
  have hlt := h1.lt
  obtain ⟨hB, v, hbk, hown, hne⟩ := h1
  have z1 := hb1.size
  have c1 : w1.cell? ⟨b, 1, none⟩ = some v := by rw [Lib.cell_of_heap hbk]; rfl
  have hAp : Calls Tryd.prog 90 #[v, .int .i32 c] w1 fun e w2 => ∃ v' wa, wa = w1.alloc (.cells #[.int .u8 c] 5) ∧ e = .returned v' ∧ w2.ownsRowF B 5 1 v' (bs.length + 1) (bs ++ [.int .u8 c]) ∧ wa.grownBy w2 v.ownBlock := by
    go_enter Tryd.func90, Tryd.ntmps90
    go_wp2_with (at_builtin; refine wpList_append_ownF _ rfl _ _ 53 rfl B 5 i0 (.int .u8 0) 1 1 Tryd.underlying53 hi hz0 hz1 hz2 rfl (by decide) _ _ _ rfl (hown.alloc _) ⟨w1.heap.size, 0, none⟩ 1 1 [.int .u8 c] rfl rfl (cell_one_new _ _ _) (by simp [Value.oneCell']) (by unfold maxLen; omega) (by omega) (by simp; omega) ?_)
    intro v' w2 hown' hgrow _
    go_wp2_with fail
    go_ret
    exact ⟨v', _, rfl, rfl, by simpa using hown', hgrow⟩
  have HAp := hide hAp
  clear hAp
  obtain ⟨av, cv, rfl⟩ : ∃ av cv, v = .slice av bs.length cv := by
    rcases hown.2 with ⟨rfl, h0⟩ | ⟨g, cap, cur, fz, hv, _⟩
    · exact ⟨none, 0, by rw [h0]⟩
    · exact ⟨_, cap, hv⟩
  have hl63 : (bs.length : Int) ≤ 4194304 := by omega
  go_wp2_with fail
  refine HAp.out.mono ?_
  rintro e w2 ⟨v', wa, rfl, rfl, hown', hgrow⟩
  have hb2 : w2.heap[b]? = some (.cells #[.pointer (some ⟨b, 0, none⟩), .slice av bs.length cv] 56 (0, 0)) := by
    rw [hgrow.block b (by simp; omega) (fun e => hne e.symm)]
    exact (Below.heap_alloc w1 _ b hlt).trans hbk
  have d1 : w2.cell? ⟨b, 1, none⟩ = some (.slice av bs.length cv) := by rw [Lib.cell_of_heap hb2]; rfl
  have f1 : w2.frozen? ⟨b, 1, none⟩ = false := Lib.frozen_of_heap hb2 1
  obtain ⟨g, cap, rfl⟩ : ∃ g cap, v' = .slice (some ⟨g, 0, none⟩) (bs.length + 1) cap := by
    rcases hown'.2 with ⟨_, h0⟩ | ⟨g, cap, cur, fz, hv, _⟩
    · omega
    · exact ⟨g, cap, hv⟩
  have hfin : Wrote B b (bs ++ [.int .u8 c]) w (w2.setCell ⟨b, 1, none⟩ (.slice (some ⟨g, 0, none⟩) (bs.length + 1) cap)) := by
    refine ⟨?_, ?_, ((hk1.alloc _).grown hgrow (Lib.ownsRowF_kind (hown.alloc _))).setCell ⟨b, 1, none⟩ rfl _⟩
    · exact Lib.BuilderAtF.put hB hb2 (bs' := bs ++ [.int .u8 c]) (by simpa using hown') (by decide)
    · exact ((hb1.alloc (by omega) _).grown hgrow (by simp; omega) (fun k hk => (hown.lt k hk).1)).setCell (p := ⟨b, 1, none⟩) hB _
  have HF := hide hfin
  clear hfin hown hown' hgrow
  generalize bs.length = L at *
  go_wp2_with fail
  go_ret2
  exact ⟨by congr 3; go_num, HF.out⟩

end Go.Proofs.YtjdncofdjabkiaaDoor

