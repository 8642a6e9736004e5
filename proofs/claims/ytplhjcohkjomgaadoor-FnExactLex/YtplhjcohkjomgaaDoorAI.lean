import Derived.Test.YtplhjcohkjomgaaDoorAH
import Derived.Test.YtplhjcohkjomgaaDoorS
namespace Go.Proofs.YtplhjcohkjomgaaDoor
open Go.RowKit Go.Joins

theorem dash_sym {s : ByteArray} {p : Nat} (hp : p < s.size) (h : sym (bt s p) = false) : dash s p = false := by
  unfold dash
  have : rl sym s p = 0 := by rw [rl, if_neg (by omega), if_neg (by rw [h]; decide)]
  rw [this]
  simp
  omega

theorem iRead {s p b mb nx ln ls ao cp n T w} (h : At s p b mb nx ln ls ao cp n T w) (hl : bt s p < 128) :
    Calls Tryd.prog 51 #[.pointer (some ⟨b, 0, none⟩), .int .i64 p, .int .i32 (bt s p)] w (RP s p b mb ln ls T w) := by
  have hp := h.lt
  have hc : bt s p ≤ 2147483647 := by omega
  by_cases hb : bt s p = 32 ∨ bt s p = 10
  · exact rBlank h _ hb rfl
  · have z1 : ((bt s p : Int) == 32) = false := by simp; omega
    have z2 : ((bt s p : Int) == 10) = false := by simp; omega
    by_cases hn : sml (bt s p) = true ∨ cap (bt s p) = true
    · exact rName h _ z1 z2 rfl hn
    · have n1 : sml (bt s p) = false := by rcases q : sml (bt s p) with _ | _; rfl; exact absurd (.inl q) hn
      have n2 : cap (bt s p) = false := by rcases q : cap (bt s p) with _ | _; rfl; exact absurd (.inr q) hn
      have n12 : (cap (bt s p) || sml (bt s p)) = false := by rw [n1, n2]; rfl
      rcases n3 : dig (bt s p) with _ | _
      · by_cases h39 : bt s p = 39
        · exact rQuo6 h _ z1 z2 (by rw [h39]; rfl) n12 n3 h39
        · have z3 : ((bt s p : Int) == 39) = false := by simp; omega
          by_cases h34 : bt s p = 34
          · exact rQuo7 h _ z1 z2 z3 (by rw [h34]; rfl) n12 n3 h34
          · have z4 : ((bt s p : Int) == 34) = false := by simp; omega
            rcases n4 : sym (bt s p) with _ | _
            · rcases n5 : two s p 123 45 with _ | _
              · rcases n6 : spc (bt s p) with _ | _
                · refine (rNone h _ z1 z2 z3 z4 hc n12 n3 n4 n5 n6 (lex_bad hp (blank_stop hp hb n5 (dash_sym hp n4)) ?_)).mono (fun e w' hh => .inl ⟨1, hh.1, hh.2⟩)
                  unfold tok
                  rw [if_neg hn, if_neg (by rw [n3]; decide), if_neg (by omega), if_neg (by rw [n4]; decide), if_neg (by rw [n6]; decide)]
                · exact rSpc h _ z1 z2 z3 z4 hc n12 n3 n4 n5 n6 rfl
              · exact rNest h _ z1 z2 z3 z4 hc n12 n3 n4 n5
            · exact rSym h _ z1 z2 z3 z4 hc n12 n3 n4 rfl
      · exact rDig h _ z1 z2 rfl n1 n2 n3

theorem high_no {c : Nat} (h : 128 ≤ c) : sml c = false ∧ cap c = false ∧ dig c = false ∧ sym c = false ∧ spc c = false := by
  refine ⟨?_, ?_, ?_, ?_, ?_⟩
  · simp [sml]; omega
  · simp [cap]; omega
  · simp [dig]; omega
  · simp [sym]; omega
  · simp [spc]; omega

theorem iReadHigh {s p b mb nx ln ls ao cp n T w} (h : At s p b mb nx ln ls ao cp n T w) (hl : 128 ≤ bt s p) (c : Nat) (hc : 128 ≤ c) (hc2 : c ≤ 2147483647) :
    Calls Tryd.prog 51 #[.pointer (some ⟨b, 0, none⟩), .int .i64 p, .int .i32 c] w fun e w' => e = .returned (.int .i64 (1 : Nat)) ∧ RB s p b mb ln ls 1 w w' := by
  have hp := h.lt
  obtain ⟨a1, a2, a3, a4, a5⟩ := high_no hl
  obtain ⟨d1, d2, d3, d4, d5⟩ := high_no hc
  have n5 : two s p 123 45 = false := two_high hl (by omega)
  have hlx : lexF s p = ([], 1, p) := by
    refine lex_bad hp (blank_stop hp (by omega) n5 (dash_sym hp a4)) ?_
    unfold tok
    rw [if_neg (by rw [a1, a2]; decide), if_neg (by rw [a3]; decide), if_neg (by omega), if_neg (by rw [a4]; decide), if_neg (by rw [a5]; decide)]
  have z1 : ((c : Int) == 32) = false := by simp; omega
  have z2 : ((c : Int) == 10) = false := by simp; omega
  have z3 : ((c : Int) == 39) = false := by simp; omega
  have z4 : ((c : Int) == 34) = false := by simp; omega
  exact rNone h c z1 z2 z3 z4 hc2 (by rw [d1, d2]; rfl) d3 d4 n5 d5 hlx

theorem pl_run (s : ByteArray) (i : Nat) : ∀ k, (∀ j, j < k → bt s (i + j) ≠ 10) → pl s (i + k) = pl s i ∧ pc s (i + k) = pc s i + k
  | 0, _ => ⟨rfl, rfl⟩
  | k + 1, h => by
    obtain ⟨h1, h2⟩ := pl_run s i k (fun j hj => h j (by omega))
    have h3 := h k (by omega)
    rw [show i + (k + 1) = i + k + 1 by omega]
    constructor
    · rw [pl, if_neg h3, h1]
    · rw [pc, if_neg h3, h2]; omega

/-- The loop of the program's reader. -/
structure LW (s : ByteArray) (R mb : Nat) (w wr : World) (pos nx ln ls : Nat) (ao : Option Addr) (cp n : Nat) (T : List To) : Prop where
  it : wr.heap[R + 2]? = some (.stringIter s pos)
  sc : Sc wr (R + 1) s mb nx ln ls (.slice ao n cp)
  tr : TR (R + 1 + 1) wr ao cp n T
  line : ln = pl s pos
  col : (pos : Int) - ls + 1 = pc s pos
  bd : Bd s nx
  nxs : nx ≤ s.size
  ps : pos ≤ s.size
  tl : T.length ≤ max pos nx
  lex : lexF s 0 = (T ++ (lexF s (max pos nx)).1, (lexF s (max pos nx)).2)
  bel : Below (R + 1) w wr

theorem LW.at {s R mb w wr pos nx ln ls ao cp n T} (h : LW s R mb w wr pos nx ln ls ao cp n T) (hz : s.size ≤ 60000) (hlt : pos < s.size) (hnx : nx ≤ pos) (hk : KM wr mb) (hm : mb < R + 1) : At s pos (R + 1) mb nx ln ls ao cp n T wr :=
  ⟨h.sc, h.tr, hk, hm, by have := h.tl; omega, hz, hlt, hnx, h.line, h.col, h.bd⟩

theorem bd_stop {s : ByteArray} {nx pos wd : Nat} (h : Bd s nx) (hp : pos < nx) (hw : pos + wd ≤ s.size) (hl : bt s pos < 128 → wd = 1) (hh : 128 ≤ bt s pos → ∀ j, j < wd → 128 ≤ bt s (pos + j)) : pos + wd ≤ nx := by
  apply Decidable.byContradiction
  intro hc
  by_cases h1 : bt s pos < 128
  · have := hl h1; omega
  · have h2 := hh (by omega)
    rcases h with h | h | ⟨h, h3⟩
    · omega
    · have := h2 (nx - pos) (by omega)
      rw [show pos + (nx - pos) = nx by omega] at this
      omega
    · have := h2 (nx - 1 - pos) (by omega)
      rw [show pos + (nx - 1 - pos) = nx - 1 by omega] at this
      omega

end Go.Proofs.YtplhjcohkjomgaaDoor
