import Derived.Test.YtplhjcohkjomgaaDoorI
namespace Go.Proofs.YtplhjcohkjomgaaDoor
open Go.RowKit Go.Joins

theorem lex_of_blank {s : ByteArray} {p q : Nat} (hp : p ≤ s.size) (hq : q ≤ s.size) (h : blank s p = blank s q) : lexF s p = lexF s q := by
  rw [lexF, dif_neg (by omega), h]
  conv => rhs; rw [lexF, dif_neg (by omega)]

theorem blank_skip {s : ByteArray} {p : Nat} (hp : p < s.size) (h : bt s p = 32 ∨ bt s p = 10) : blank s p = blank s (p + 1) := by
  rw [blank, dif_neg (by omega), if_pos h]

theorem lex_skip {s : ByteArray} {p : Nat} (hp : p < s.size) (h : bt s p = 32 ∨ bt s p = 10) : lexF s p = lexF s (p + 1) :=
  lex_of_blank (by omega) (by omega) (blank_skip hp h)

theorem two_bt {s : ByteArray} {p x y : Nat} (h : two s p x y = true) : bt s p = x ∧ bt s (p + 1) = y := by
  unfold two at h
  simp only [Bool.and_eq_true, decide_eq_true_eq, beq_iff_eq] at h
  exact h.2

theorem blank_nest {s : ByteArray} {p : Nat} (hp : p < s.size) (h : two s p 123 45 = true) : blank s p = match nest s p 0 with | none => (p, false) | some j => blank s j := by
  have h1 := two_bt h
  rw [blank, dif_neg (by omega), if_neg (by omega), if_pos h]
  split <;> rename_i e <;> rw [e]

theorem lex_nest {s : ByteArray} {p j : Nat} (hp : p < s.size) (h : two s p 123 45 = true) (hn : nest s p 0 = some j) : lexF s p = lexF s j := by
  have h1 := nest_gt _ _ _ hn
  refine lex_of_blank (by omega) (by omega) ?_
  rw [blank_nest hp h, hn]

theorem lex_open {s : ByteArray} {p : Nat} (hp : p < s.size) (h : two s p 123 45 = true) (hn : nest s p 0 = none) : lexF s p = ([], 2, p) := by
  have h1 := blank_nest hp h
  rw [hn] at h1
  rw [lexF, dif_neg (by omega), h1, if_pos rfl]

theorem lex_dash {s : ByteArray} {p : Nat} (hp : p < s.size) (h1 : ¬ (bt s p = 32 ∨ bt s p = 10)) (h2 : two s p 123 45 = false) (h3 : dash s p = true) : lexF s p = lexF s (p + eol s p) := by
  have h4 := dash_pos (by omega) h3
  refine lex_of_blank (by omega) (by omega) ?_
  rw [blank, dif_neg (by omega), if_neg h1, if_neg (by rw [h2]; decide), dif_pos h3]

theorem blank_stop {s : ByteArray} {p : Nat} (hp : p < s.size) (h1 : ¬ (bt s p = 32 ∨ bt s p = 10)) (h2 : two s p 123 45 = false) (h3 : dash s p = false) : blank s p = (p, true) := by
  rw [blank, dif_neg (by omega), if_neg h1, if_neg (by rw [h2]; decide), dif_neg (by rw [h3]; decide)]

theorem lex_bad {s : ByteArray} {p c : Nat} (hp : p < s.size) (hb : blank s p = (p, true)) (ht : tok s p = .bad c) : lexF s p = ([], c, p) := by
  rw [lexF, dif_neg (by omega), hb, if_neg (by simp), dif_neg (by simp only; omega)]
  simp only
  split
  · rename_i e; rw [ht] at e; cases e; rfl
  · rename_i e; rw [ht] at e; cases e

theorem lex_ok {s : ByteArray} {p k n : Nat} {t : ByteArray} (hp : p < s.size) (hb : blank s p = (p, true)) (ht : tok s p = .ok k t n) :
    lexF s p = (⟨k, t, pl s p, pc s p⟩ :: (lexF s (p + n)).1, (lexF s (p + n)).2) := by
  rw [lexF, dif_neg (by omega), hb, if_neg (by simp), dif_neg (by simp only; omega)]
  simp only
  split
  · rename_i e; rw [ht] at e; cases e
  · rename_i e; rw [ht] at e; cases e; rfl

theorem lex_end {s : ByteArray} : lexF s s.size = ([], 0, s.size) := by
  have hb : blank s s.size = (s.size, true) := by rw [blank, dif_pos (Nat.le_refl _)]
  rw [lexF, dif_neg (by omega), hb, if_neg (by simp), dif_pos (by simp only; omega)]

end Go.Proofs.YtplhjcohkjomgaaDoor
