import Derived.Test.YtpcnmolncoaddaaDraws
namespace Go.Proofs.Ytpcnmolncoaddaa
open Go.RowKit Go.Joins

theorem Ans.one {w w' : World} {e : Ending} {Z : Int} (h : Ans w w' e Z) :
    ∃ (code : Int) (m : Bool) (a : Option Addr) (n c : Nat) (f : Nat → Nat), e = .returned (.agg #[.int .i64 code, .bool m, .slice a n c]) ∧ Own w.heap.size w' (.slice a n c) n f ∧ ((code = 0 ∧ Z.natAbs < Lid ∧ Num w' m (.slice a n c) n f Z) ∨ (code = 2 ∧ Lid ≤ Z.natAbs)) := by
  by_cases hz : Z.natAbs < Lid
  · obtain ⟨m, v, n, f, rfl, ho, hN⟩ := h.1 hz
    obtain ⟨a, c, rfl, -⟩ := id ho
    exact ⟨0, m, a, n, c, f, rfl, ho, .inl ⟨rfl, hz, hN⟩⟩
  · obtain ⟨v, rfl, ho⟩ := h.2 (by omega)
    obtain ⟨a, c, rfl, -⟩ := id ho
    exact ⟨2, false, a, 0, c, _, rfl, ho, .inr ⟨rfl, by omega⟩⟩

theorem Num.slice {w m v n f Z} (h : Num w m v n f Z) : ∃ a c, v = .slice a n c := by
  obtain ⟨a, c, e, -⟩ := h.lim
  exact ⟨a, c, e⟩

theorem sum_large {w w' m m' v v' n n' f f' A B} (h : Num w m v n f A) (h' : Num w' m' v' n' f' B) (hs : Lid ≤ (A + B).natAbs) : 40 ≤ n ∨ 40 ≤ n' := by
  apply Decidable.byContradiction
  intro hn
  have h1 := val_lt h.norm.lt n
  have h2 := val_lt h'.norm.lt n'
  rw [h.norm.val] at h1
  rw [h'.norm.val] at h2
  have p1 : 4294967296 ^ n ≤ 4294967296 ^ 39 := Nat.pow_le_pow_right (by decide) (by omega)
  have p2 : 4294967296 ^ n' ≤ 4294967296 ^ 39 := Nat.pow_le_pow_right (by decide) (by omega)
  have p3 : Lid = 4294967296 * 4294967296 ^ 39 := by unfold Lid; rw [pow_s]
  have := Int.natAbs_add_le A B
  generalize 4294967296 ^ 39 = P at *
  generalize 4294967296 ^ n = P1 at *
  generalize 4294967296 ^ n' = P2 at *
  omega

theorem mul_large {w w' m m' v v' n n' f f' A B} (h : Num w m v n f A) (h' : Num w' m' v' n' f' B) (hs : Lid ≤ (A * B).natAbs) : 40 < n + n' := by
  apply Decidable.byContradiction
  intro hn
  have h1 := val_lt h.norm.lt n
  have h2 := val_lt h'.norm.lt n'
  rw [h.norm.val] at h1
  rw [h'.norm.val] at h2
  have h3 : A.natAbs * B.natAbs < 4294967296 ^ n * 4294967296 ^ n' := Nat.mul_lt_mul'' h1 h2
  rw [← Nat.pow_add] at h3
  have p1 : 4294967296 ^ (n + n') ≤ 4294967296 ^ 40 := Nat.pow_le_pow_right (by decide) (by omega)
  rw [Int.natAbs_mul] at hs
  unfold Lid at hs
  omega

theorem mul_len {w w' w2 m m' m2 v v' v2 n n' n2 f f' f2 A B} (h : Num w m v n f A) (h' : Num w' m' v' n' f' B) (h2 : Num w2 m2 v2 n2 f2 (A * B)) :
    n2 ≤ n + n' ∧ (0 < n → 0 < n' → n + n' ≤ n2 + 1) ∧ (n2 = 0 ↔ n = 0 ∨ n' = 0) := by
  have e := h2.norm
  rw [Int.natAbs_mul] at e
  refine ⟨?_, fun ha hb => ?_, ?_⟩
  · apply e.count
    have h1 := val_lt h.norm.lt n
    have h2 := val_lt h'.norm.lt n'
    rw [h.norm.val] at h1
    rw [h'.norm.val] at h2
    rw [Nat.pow_add]
    exact Nat.mul_lt_mul'' h1 h2
  · apply Decidable.byContradiction
    intro hn
    obtain ⟨i, rfl⟩ : ∃ i, n = i + 1 := ⟨n - 1, by omega⟩
    obtain ⟨j, rfl⟩ : ∃ j, n' = j + 1 := ⟨n' - 1, by omega⟩
    have h1 := val_top (h.norm.top (by omega))
    have h3 := val_top (h'.norm.top (by omega))
    rw [show i + 1 - 1 = i from rfl, h.norm.val] at h1
    rw [show j + 1 - 1 = j from rfl, h'.norm.val] at h3
    have h4 := Nat.mul_le_mul h1 h3
    rw [← Nat.pow_add] at h4
    have h5 := val_lt e.lt n2
    rw [e.val] at h5
    have p1 : 4294967296 ^ n2 ≤ 4294967296 ^ (i + j) := Nat.pow_le_pow_right (by decide) (by omega)
    omega
  · have q := e.pos
    have q1 := h.norm.pos
    have q2 := h'.norm.pos
    have q3 : 0 < A.natAbs * B.natAbs ↔ 0 < A.natAbs ∧ 0 < B.natAbs := by
      constructor
      · intro hh
        exact ⟨Nat.pos_of_mul_pos_right hh, Nat.pos_of_mul_pos_left hh⟩
      · intro hh; exact Nat.mul_pos hh.1 hh.2
    omega

end Go.Proofs.Ytpcnmolncoaddaa
