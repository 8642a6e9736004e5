import Derived.Test.YtjfoagmenehapaaDoorAlone
import Derived.Test.YtjfoagmenehapaaDoorNodes
namespace Go.Proofs.YtjfoagmenehapaaDoor
open Go.RowKit Go.Joins

/-- All kinds are kinds of int64. -/
def Fo.Good : Fo → Prop
  | .nil => True
  | .cons k _ _ _ ks r => (Lit.int .i64 k).wf = true ∧ ks.Good ∧ r.Good

theorem Fo.len_zero : ∀ {F : Fo}, F.len = 0 → F = .nil
  | .nil, _ => rfl
  | .cons _ _ _ _ _ _, h => by simp [Fo.len] at h

theorem Fo.Row.good {W : World} {S : Nat → Prop} : ∀ {F : Fo} {b o : Nat}, F.Row W S b o → F.Good
  | .nil, _, _, _ => trivial
  | .cons _ _ _ _ ks _, _, _, ⟨hk, _, _, _, _, _, _, h6, h7⟩ => by
    refine ⟨hk, ?_, h7.good⟩
    rcases Nat.eq_zero_or_pos ks.len with h | h
    · rw [Fo.len_zero h]; trivial
    · obtain ⟨_, _, _, _, hr⟩ := h6 h
      exact hr.good

theorem Fo.Sl.good {W : World} {S : Nat → Prop} {a : Option Addr} {cap : Nat} {F : Fo} (h : F.Sl W S a cap) : F.Good := by
  rcases Nat.eq_zero_or_pos F.len with h0 | h0
  · rw [Fo.len_zero h0]; trivial
  · obtain ⟨_, _, _, _, hr⟩ := h.2.2 h0
    exact hr.good

/-- The nodes, how deep each stands, its kind and name. -/
def Fo.preN : Fo → Nat → List (Nat × Int × ByteArray)
  | .nil, _ => []
  | .cons k nm _ _ ks r, d => (d, k, nm) :: (ks.preN (d + 1) ++ r.preN d)

theorem Fo.preN_length : ∀ (F : Fo) (d : Nat), (F.preN d).length = (F.pre d).length
  | .nil, _ => rfl
  | .cons _ _ _ _ ks r, d => by simp only [Fo.pre, Fo.preN, List.length_cons, List.length_append, ks.preN_length, r.preN_length]

/-- What stands at a place of one list, and at that of the other. -/
theorem pre_at : ∀ (F : Fo) (d i : Nat) (p : Nat × Value), (F.pre d)[i]? = some p → ∃ k nm a len cap, p.2 = nodeV k nm a len cap ∧ (F.preN d)[i]? = some (p.1, k, nm)
  | .nil, _, i, p, h => by simp [Fo.pre] at h
  | .cons k nm a cap ks r, d, 0, p, h => by
    simp [Fo.pre] at h
    subst h
    exact ⟨k, nm, a, ks.len, cap, rfl, rfl⟩
  | .cons k nm a cap ks r, d, i + 1, p, h => by
    simp only [Fo.pre, Fo.preN, List.getElem?_cons_succ] at h ⊢
    by_cases hl : i < (ks.pre (d + 1)).length
    · rw [List.getElem?_append_left hl] at h
      rw [List.getElem?_append_left (by rw [Fo.preN_length]; exact hl)]
      exact pre_at ks (d + 1) i p h
    · rw [List.getElem?_append_right (by omega)] at h
      rw [List.getElem?_append_right (by rw [Fo.preN_length]; omega), Fo.preN_length]
      exact pre_at r d _ p h

/-- Depths, kinds and names are bounded. -/
theorem preN_bound : ∀ (F : Fo) (d : Nat), F.Good → ∀ p ∈ F.preN d, d ≤ p.1 ∧ p.1 ≤ d + F.size ∧ (Lit.int .i64 p.2.1).wf = true ∧ p.2.2.size ≤ F.tot
  | .nil, _, _, p, hp => by simp [Fo.preN] at hp
  | .cons k nm a cap ks r, d, ⟨g1, g2, g3⟩, p, hp => by
    simp only [Fo.preN, List.mem_cons, List.mem_append] at hp
    simp only [Fo.size, Fo.tot]
    rcases hp with rfl | hp | hp
    · exact ⟨Nat.le_refl _, by omega, g1, by simp only; omega⟩
    · obtain ⟨h1, h2, h3, h4⟩ := preN_bound ks (d + 1) g2 p hp
      exact ⟨by omega, by omega, h3, by omega⟩
    · obtain ⟨h1, h2, h3, h4⟩ := preN_bound r d g3 p hp
      exact ⟨by omega, by omega, h3, by omega⟩

/-- What is written ahead of a node at depth d behind one at depth s. -/
def pfx (s d : Nat) : List UInt8 := if s = 0 then [] else if s < d then [40] else List.replicate (s - d) 41 ++ [32]

def stepS (x : List UInt8 × Nat) (p : Nat × Int × ByteArray) : List UInt8 × Nat := (x.1 ++ pfx x.2 p.1 ++ alone p.2.1 p.2.2, p.1)

/-- A row of trees as text. -/
def showR : Fo → List UInt8
  | .nil => []
  | .cons k nm _ _ ks r => alone k nm ++ (if ks.len = 0 then [] else 40 :: showR ks ++ [41]) ++ (if r.len = 0 then [] else 32 :: showR r)

theorem fold_row : ∀ (F : Fo) (d : Nat) (out : List UInt8) (s : Nat), 0 < F.len → 0 < d →
    ∃ (body : List UInt8) (e : Nat), (F.preN d).foldl stepS (out, s) = (out ++ pfx s d ++ body, e) ∧ d ≤ e ∧ body ++ List.replicate (e - d) 41 = showR F
  | .nil, _, _, _, h, _ => by simp [Fo.len] at h
  | .cons k nm a cap ks r, d, out, s, _, hd => by
    have h1 : ∃ (bk : List UInt8) (ek : Nat), (ks.preN (d + 1)).foldl stepS (out ++ pfx s d ++ alone k nm, d) = (out ++ pfx s d ++ alone k nm ++ bk, ek) ∧ d ≤ ek ∧ bk ++ List.replicate (ek - d) 41 = (if ks.len = 0 then [] else 40 :: showR ks ++ [41]) := by
      rcases Nat.eq_zero_or_pos ks.len with h0 | h0
      · rw [Fo.len_zero h0]
        exact ⟨[], d, by simp [Fo.preN], Nat.le_refl _, by simp [Fo.len]⟩
      · obtain ⟨body, e, e1, e2, e3⟩ := fold_row ks (d + 1) (out ++ pfx s d ++ alone k nm) d h0 (by omega)
        have hp : pfx d (d + 1) = [40] := by unfold pfx; rw [if_neg (by omega), if_pos (by omega)]
        refine ⟨40 :: body, e, by rw [e1, hp]; simp, by omega, ?_⟩
        rw [if_neg (by omega), ← e3]
        have : e - d = e - (d + 1) + 1 := by omega
        rw [this, List.replicate_succ']
        simp
    obtain ⟨bk, ek, f1, f2, f3⟩ := h1
    rcases Nat.eq_zero_or_pos r.len with h0 | h0
    · refine ⟨alone k nm ++ bk, ek, ?_, f2, ?_⟩
      · rw [Fo.len_zero h0]
        simp only [Fo.preN, List.foldl_cons, List.append_nil, stepS]
        rw [f1]
        simp
      · simp only [showR]
        rw [if_pos h0, List.append_nil, ← f3]
        simp
    · obtain ⟨body, e, e1, e2, e3⟩ := fold_row r d (out ++ pfx s d ++ alone k nm ++ bk) ek h0 hd
      have hp : pfx ek d = List.replicate (ek - d) 41 ++ [32] := by unfold pfx; rw [if_neg (by omega), if_neg (by omega)]
      refine ⟨alone k nm ++ bk ++ List.replicate (ek - d) 41 ++ [32] ++ body, e, ?_, e2, ?_⟩
      · simp only [Fo.preN, List.foldl_cons, List.foldl_append, stepS]
        rw [f1, e1, hp]
        simp
      · simp only [showR]
        rw [← f3, if_neg (show ¬ r.len = 0 by omega), ← e3]
        simp

end Go.Proofs.YtjfoagmenehapaaDoor
