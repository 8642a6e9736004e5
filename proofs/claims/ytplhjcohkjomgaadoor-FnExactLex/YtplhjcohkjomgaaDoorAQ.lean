import Derived.Test.YtplhjcohkjomgaaDoorAP
namespace Go.Proofs.YtplhjcohkjomgaaDoor
open Go.RowKit Go.Joins

def fT (T : List To) (i : Nat) : Tq := match T[i]? with
  | some t => ⟨t.kind, t.text, t.line, t.col⟩
  | none => ⟨0, ⟨#[]⟩, 0, 0⟩

theorem flat_get : ∀ (T : List To) (i : Nat) (t : To), T[i]? = some t → ∀ c, c < 4 → (T.flatMap To.cells)[i * 4 + c]? = t.cells[c]?
  | [], i, t, h, c, hc => by simp at h
  | t0 :: T, 0, t, h, c, hc => by
    have : t0 = t := by simpa using h
    subst this
    rw [List.flatMap_cons, Nat.zero_mul, Nat.zero_add, List.getElem?_append_left (by simp only [To.cells, List.length_cons, List.length_nil]; omega)]
  | t0 :: T, i + 1, t, h, c, hc => by
    have h' : T[i]? = some t := by simpa using h
    have hl : t0.cells.length = 4 := rfl
    rw [List.flatMap_cons, List.getElem?_append_right (by rw [hl]; omega), hl, show (i + 1) * 4 + c - 4 = i * 4 + c by omega]
    exact flat_get T i t h' c hc

theorem TR.mine {B W ao cap n T} (h : TR B W ao cap n T) : Mine B W ao n (fT T) := fun hp => by
  obtain ⟨hn, hl, ⟨-, h0⟩ | ⟨g, cap', cur, e, hB, hb, hc, -, hs, ht⟩⟩ := h
  · omega
  · simp only [Value.slice.injEq] at e
    obtain ⟨rfl, -, rfl⟩ := e
    refine ⟨g, rfl, fun i hi => ?_, (Array.getElem?_eq_some_iff.1 hb).1, hB, fun o => Lib.frozen_of_heap hb o⟩
    obtain ⟨t, hti⟩ : ∃ t, T[i]? = some t := ⟨_, List.getElem?_eq_getElem (by omega)⟩
    have go : ∀ c, c < 4 → W.cell? ⟨g, i * 4 + c, none⟩ = t.cells[c]? := fun c hc => by
      rw [Lib.cell_of_heap hb, ← Array.getElem?_toList, ← flat_get T i t hti c hc, ← ht, List.getElem?_take, if_pos (by omega)]
    unfold fT
    rw [hti]
    exact ⟨go 0 (by omega), go 1 (by omega), go 2 (by omega), go 3 (by omega)⟩

theorem Mine.toks {B w ao n f} (h : Mine B w ao n f) : Toks w ao n f := fun hp => by
  obtain ⟨g, e, h1, h2, -⟩ := h hp
  exact ⟨g, e, h1, h2⟩
theorem Mine.next {B w w' ao n f} (h : Mine B w ao n f) (hb : Below w.heap.size w w') : Mine B w' ao n f := fun hp => by
  obtain ⟨g, e, h1, h2, h3, h4⟩ := h hp
  exact ⟨g, e, h1.keep (hb.block g h2), Nat.lt_of_lt_of_le h2 hb.size, h3, fun o => (hb.frozen (p := ⟨g, o, none⟩) h2).trans (h4 o)⟩

theorem lex_len (s : ByteArray) : ∀ m i, s.size - i ≤ m → i ≤ s.size → (lexF s i).1.length ≤ s.size - i := by
  intro m
  induction m with
  | zero =>
    intro i hm hi
    obtain rfl : i = s.size := by omega
    rw [lex_end]; simp
  | succ m ih =>
    intro i hm hi
    have hg := blank_ge s i hi
    rcases q : (blank s i).2 with _ | _
    · rw [lexF_open hi q]; simp
    · by_cases h2 : s.size ≤ (blank s i).1
      · rw [lexF_end hi q h2]; simp
      · rcases qt : tok s (blank s i).1 with ⟨k, t, n⟩ | c
        · have hl := tok_len (by omega) qt
          rw [lexF_ok hi q (by omega) qt]
          have := ih ((blank s i).1 + n) (by omega) (by omega)
          simp only [List.length_cons]
          omega
        · rw [lexF_bad hi q (by omega) qt]; simp

theorem lexA_len (s : ByteArray) : (lexA s).2.2.2.length ≤ 60000 := by
  unfold lexA
  split
  · simp
  · split
    · have := lex_len s s.size 0 (by omega) (by omega)
      simp only
      omega
    · simp

structure B4 (w : World) (b : Nat) (v0 v1 v2 v3 : Value) : Prop where
  c0 : w.cell? ⟨b, 0, none⟩ = some v0
  c1 : w.cell? ⟨b, 1, none⟩ = some v1
  c2 : w.cell? ⟨b, 2, none⟩ = some v2
  c3 : w.cell? ⟨b, 3, none⟩ = some v3
  lt : b < w.heap.size
theorem B4.keep {w w' b v0 v1 v2 v3} (h : B4 w b v0 v1 v2 v3) (hb : w'.heap[b]? = w.heap[b]?) (hz : w.heap.size ≤ w'.heap.size) : B4 w' b v0 v1 v2 v3 :=
  ⟨(World.cell?_of_block hb).trans h.c0, (World.cell?_of_block hb).trans h.c1, (World.cell?_of_block hb).trans h.c2, (World.cell?_of_block hb).trans h.c3, Nat.lt_of_lt_of_le h.lt hz⟩
theorem B4.new (w : World) (v0 v1 v2 v3 : Value) (t : TypeId) : B4 (w.alloc (.cells #[v0, v1, v2, v3] t)) w.heap.size v0 v1 v2 v3 := ⟨by simp, by simp, by simp, by simp, by simp⟩

/-- What stands while the law runs. -/
structure Fx (w : World) (q1 q2 q3 : Int) (b1 b2 : Nat) (a1 a2 : Option Addr) (n c1 c2 : Nat) (f f2 : Nat → Tq) (wx : World) : Prop where
  p1 : B4 wx b1 (.int .i64 q1) (.int .i64 q2) (.int .i64 q3) (.slice a1 n c1)
  p2 : B4 wx b2 (.int .i64 q1) (.int .i64 q2) (.int .i64 q3) (.slice a2 n c2)
  k1 : Toks wx a1 n f
  k2 : Toks wx a2 n f2
  bel : Below w.heap.size w wx
theorem Fx.next {w q1 q2 q3 b1 b2 a1 a2 n c1 c2 f f2 wx wy} (h : Fx w q1 q2 q3 b1 b2 a1 a2 n c1 c2 f f2 wx) (hb : Below wx.heap.size wx wy) : Fx w q1 q2 q3 b1 b2 a1 a2 n c1 c2 f f2 wy :=
  ⟨h.p1.keep (hb.block _ h.p1.lt) hb.size, h.p2.keep (hb.block _ h.p2.lt) hb.size, h.k1.next hb, h.k2.next hb, h.bel.trans (hb.mono h.bel.size)⟩

end Go.Proofs.YtplhjcohkjomgaaDoor
