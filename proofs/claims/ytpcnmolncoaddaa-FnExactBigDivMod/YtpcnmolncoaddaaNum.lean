import Derived.Test.YtpcnmolncoaddaaRead5
import Derived.Test.YtpcnmolncoaddaaIAdd
import Derived.Test.YtpcnmolncoaddaaISub
import Derived.Test.YtpcnmolncoaddaaICompare
namespace Go.Proofs.Ytpcnmolncoaddaa
open Go.RowKit Go.Joins

/-- The first size that is too large. -/
def Lid : Nat := 4294967296 ^ 40

/-- A number without fault that stands for Z. -/
structure Num (w : World) (m : Bool) (v : Value) (n : Nat) (f : Nat → Nat) (Z : Int) : Prop where
  lim : Lim w v n f
  fault : faultB m n f = false
  norm : Norm (ext n f) n Z.natAbs
  sign : m = decide (Z < 0)

theorem Num.below {w w' m v n f Z} (h : Num w m v n f Z) (hb : Below w.heap.size w w') : Num w' m v n f Z := ⟨h.lim.below hb, h.fault, h.norm, h.sign⟩

theorem Num.le {w m v n f Z} (h : Num w m v n f Z) : n ≤ 40 := faultB_le h.fault

theorem Num.lid {w m v n f Z} (h : Num w m v n f Z) : Z.natAbs < Lid := by
  have h1 := val_lt h.norm.lt n
  rw [h.norm.val] at h1
  exact Nat.lt_of_lt_of_le h1 (Nat.pow_le_pow_right (by decide) h.le)

theorem val_ext_out {f : Nat → Nat} {n k : Nat} (hk : n ≤ k) : val (ext n f) k = val (ext n f) n := val_zeros hk (fun i h1 h2 => by unfold ext; rw [if_neg (by omega)])

theorem addC_zero {F G : Nat → Nat} (hF : ∀ i, F i < 4294967296) (hG : ∀ i, G i < 4294967296) (k : Nat) (h1 : F k = 0) (h2 : G k = 0) : addC F G (k + 1) = 0 := by
  have := addC_le hF hG k
  simp only [addC, h1, h2]
  omega

theorem subNorm {f f' : Nat → Nat} {n n' A B : Nat} (h : Norm (ext n f) n A) (h' : Norm (ext n' f') n' B) (hle : B ≤ A) :
    Norm (ext (trimN (subD (ext n f) (ext n' f')) n) (subD (ext n f) (ext n' f'))) (trimN (subD (ext n f) (ext n' f')) n) (A - B) := by
  have hc : n' ≤ n := h'.count (by have := val_lt h.lt n; rw [h.val] at this; omega)
  have e := val_sub (ext n f) (ext n' f') h.lt h'.lt n
  have hl : ∀ i, subD (ext n f) (ext n' f') i < 4294967296 := fun i => Nat.mod_lt _ (by decide)
  have e2 := val_lt hl n
  have e3 := subB_le (ext n f) (ext n' f') n
  rw [val_ext_out (f := f') hc, h.val, h'.val] at e
  refine norm_trim (fun i _ => hl i) ?_
  generalize subB (ext n f) (ext n' f') n = q at *
  have : q = 0 ∨ q = 1 := by omega
  rcases this with rfl | rfl
  · omega
  · omega

theorem cmpNorm {f f' : Nat → Nat} {n n' A B : Nat} (h : Norm (ext n f) n A) (h' : Norm (ext n' f') n' B) :
    cmpF (ext n f) (ext n' f') (max n n') = (if A < B then -1 else if B < A then 1 else 0) := by
  have e := cmpF_val h.lt h'.lt (max n n')
  rw [val_ext_out (f := f) (by omega), val_ext_out (f := f') (by omega), h.val, h'.val] at e
  split
  · exact e.1.2 ‹_›
  · split
    · exact e.2.1.2 ‹_›
    · exact e.2.2.2 (by omega)

theorem addNorm {f f' : Nat → Nat} {n n' A B : Nat} (h : Norm (ext n f) n A) (h' : Norm (ext n' f') n' B) (m m' : Bool) (Z : Int)
    (hZ : Z = (if m = true then -(A : Int) else A) + (if m' = true then -(B : Int) else B)) :
    Norm (ext (addN m n (ext n f) m' n' (ext n' f')) (addF m n (ext n f) m' n' (ext n' f'))) (addN m n (ext n f) m' n' (ext n' f')) Z.natAbs ∧
    (Z ≠ 0 → addS m n (ext n f) m' n' (ext n' f') = decide (Z < 0)) := by
  unfold addN addS addF
  by_cases e : m = m'
  · subst e
    simp only [if_true]
    refine ⟨norm_trim (fun i _ => Nat.mod_lt _ (by decide)) ?_, fun hz => ?_⟩
    · have e := val_add (ext n f) (ext n' f') (max n n' + 1)
      rw [addC_zero h.lt h'.lt (max n n') (h.zero _ (by omega)) (h'.zero _ (by omega)), val_ext_out (f := f) (by omega), val_ext_out (f := f') (by omega), h.val, h'.val] at e
      cases m <;> simp at hZ <;> omega
    · cases m <;> simp at hZ ⊢ <;> omega
  · simp only [if_neg e, cmpNorm h h']
    by_cases hlt : A < B
    · simp only [hlt, if_true]
      rw [if_neg (by decide), if_neg (by decide), if_neg (by decide)]
      have := subNorm h' h (by omega)
      refine ⟨?_, fun hz => ?_⟩
      · rw [show Z.natAbs = B - A by cases m <;> cases m' <;> simp at hZ e <;> omega]; exact this
      · cases m <;> cases m' <;> simp at hZ e ⊢ <;> omega
    · have hg : (0 : Int) ≤ (if A < B then -1 else if B < A then 1 else 0) := by rw [if_neg hlt]; split <;> decide
      rw [if_pos hg, if_pos hg, if_pos hg]
      have := subNorm h h' (by omega)
      refine ⟨?_, fun hz => ?_⟩
      · rw [show Z.natAbs = A - B by cases m <;> cases m' <;> simp at hZ e <;> omega]; exact this
      · cases m <;> cases m' <;> simp at hZ e ⊢ <;> omega

theorem mulNorm {f f' : Nat → Nat} {n n' A B : Nat} (h : Norm (ext n f) n A) (h' : Norm (ext n' f') n' B) :
    Norm (ext (trimN (mulP (ext n f) (ext n' f') n' n) (n + n')) (mulP (ext n f) (ext n' f') n' n)) (trimN (mulP (ext n f) (ext n' f') n' n) (n + n')) (A * B) := by
  refine norm_trim (fun i _ => mulP_lt h.lt h'.lt n' n i) ?_
  rw [val_mulP, h.val, h'.val]

theorem Norm.pos {f : Nat → Nat} {n N : Nat} (h : Norm f n N) : 0 < n ↔ 0 < N := by
  constructor
  · intro hn
    obtain ⟨j, rfl⟩ : ∃ j, n = j + 1 := ⟨n - 1, by omega⟩
    have h1 := val_top (h.top (by omega))
    rw [show j + 1 - 1 = j from rfl, h.val] at h1
    have := pow_pos' j
    omega
  · intro hN
    apply Decidable.byContradiction
    intro hn
    have : n = 0 := by omega
    subst this
    have := h.val
    simp [Go.Proofs.Ytpcnmolncoaddaa.val] at this
    omega

/-- What a call answers that makes a number: the number, or that it is too large. -/
def Ans (w w' : World) (e : Ending) (Z : Int) : Prop :=
  (Z.natAbs < Lid → ∃ m v n f, e = .returned (.agg #[.int .i64 0, .bool m, v]) ∧ Own w.heap.size w' v n f ∧ Num w' m v n f Z) ∧
  (Lid ≤ Z.natAbs → ∃ v, e = .returned (.agg #[.int .i64 2, .bool false, v]) ∧ Own w.heap.size w' v 0 (fun _ => 0))

theorem ans_of {w w' : World} {e : Ending} {N : Nat} {S : Bool} {D : Nat → Nat} {Z : Int} (hN : Norm (ext N D) N Z.natAbs) (hS : Z ≠ 0 → S = decide (Z < 0))
    (he : ∃ v', e = .returned (.agg #[.int .i64 (doneC N), .bool (doneM S N), v']) ∧ Own w.heap.size w' v' (doneN N) D ∧ Below w.heap.size w w') : Ans w w' e Z ∧ Below w.heap.size w w' := by
  obtain ⟨v', rfl, ho, hb⟩ := he
  refine ⟨⟨fun hz => ?_, fun hz => ?_⟩, hb⟩
  · have hle : N ≤ 40 := hN.count hz
    have e1 : doneC N = 0 := by unfold doneC; rw [if_neg (by omega)]
    have e2 : doneM S N = (S && decide (0 < N)) := by unfold doneM; rw [if_neg (by omega)]
    have e3 : doneN N = N := by unfold doneN; rw [if_neg (by omega)]
    rw [e1, e2]
    rw [e3] at ho
    have hp := hN.pos
    refine ⟨_, _, N, D, rfl, ho, ⟨ho.lim, ?_, hN, ?_⟩⟩
    · unfold faultB
      split
      · have : ¬ 0 < N := by omega
        simp [this]
      · have := hN.top (by omega)
        rw [ext_of_lt _ (by omega)] at this
        have h40 : ¬ 40 < N := by omega
        simp [h40, this]
    · by_cases h0 : Z = 0
      · subst h0
        have : ¬ 0 < N := by rw [hp]; simp
        simp [this]
      · have : 0 < N := by rw [hp]; omega
        simp [this, hS h0]
  · have hg := hN.large hz
    have e1 : doneC N = 2 := by unfold doneC; rw [if_pos hg]
    have e2 : doneM S N = false := by unfold doneM; rw [if_pos hg]
    have e3 : doneN N = 0 := by unfold doneN; rw [if_pos hg]
    rw [e1, e2]
    rw [e3] at ho
    refine ⟨v', rfl, ?_⟩
    obtain ⟨a, c, rfl, h1, h2, h3, h4⟩ := ho
    exact ⟨a, c, rfl, h1, h2, fun i hi => by omega, fun hn => by omega⟩

theorem natAbs_sgn {m : Bool} {A : Int} (h : m = decide (A < 0)) : A = (if m = true then -(A.natAbs : Int) else A.natAbs) := by
  subst h
  by_cases h : A < 0
  · simp [h]; omega
  · simp [h]; omega

theorem iAddZ {m m' : Bool} {v v' : Value} {n n' : Nat} {f f' : Nat → Nat} {w : World} {A B : Int} (h : Num w m v n f A) (h' : Num w m' v' n' f' B) :
    Calls Try.prog 17 #[.agg #[.bool m, v], .agg #[.bool m', v']] w fun e w' => Ans w w' e (A + B) ∧ Below w.heap.size w w' := by
  refine (iAdd_ok m m' v v' n n' f f' w h.lim h'.lim h.fault h'.fault _ _ _ (hide rfl) (hide rfl) (hide rfl)).mono ?_
  intro e w' he
  have := addNorm h.norm h'.norm m m' (A + B) (by rw [← natAbs_sgn h.sign, ← natAbs_sgn h'.sign])
  exact ans_of this.1 this.2 he

theorem iSubZ {m m' : Bool} {v v' : Value} {n n' : Nat} {f f' : Nat → Nat} {w : World} {A B : Int} (h : Num w m v n f A) (h' : Num w m' v' n' f' B) :
    Calls Try.prog 18 #[.agg #[.bool m, v], .agg #[.bool m', v']] w fun e w' => Ans w w' e (A - B) ∧ Below w.heap.size w w' := by
  refine (iSub_ok m m' v v' n n' f f' w h.lim h'.lim h.fault h'.fault _ _ _ (hide rfl) (hide rfl) (hide rfl)).mono ?_
  intro e w' he
  have := addNorm h.norm h'.norm m (!m') (A - B) (by
    have e1 := natAbs_sgn h.sign
    have e2 := natAbs_sgn h'.sign
    rw [← e1]
    cases m' <;> simp at e2 ⊢ <;> omega)
  exact ans_of this.1 this.2 he

theorem iMulZ {m m' : Bool} {v v' : Value} {n n' : Nat} {f f' : Nat → Nat} {w : World} {A B : Int} (h : Num w m v n f A) (h' : Num w m' v' n' f' B) :
    Calls Try.prog 21 #[.agg #[.bool m, v], .agg #[.bool m', v']] w fun e w' => Ans w w' e (A * B) ∧ Below w.heap.size w w' := by
  refine (iMul_ok m m' v v' n n' f f' w h.lim h'.lim h.fault h'.fault _ _ _ (hide rfl) (hide rfl) (hide rfl)).mono ?_
  intro e w' he
  have := mulNorm h.norm h'.norm
  rw [← Int.natAbs_mul] at this
  refine ans_of this (fun hz => ?_) he
  rw [h.sign, h'.sign]
  have ha : A ≠ 0 := fun e => hz (by rw [e, Int.zero_mul])
  have hb : B ≠ 0 := fun e => hz (by rw [e, Int.mul_zero])
  by_cases h1 : A < 0 <;> by_cases h2 : B < 0
  · have := Int.mul_pos_of_neg_of_neg h1 h2
    simp [h1, h2]; omega
  · have := Int.mul_neg_of_neg_of_pos h1 (show 0 < B by omega)
    simp [h1, h2, this]
  · have := Int.mul_neg_of_pos_of_neg (show 0 < A by omega) h2
    simp [h1, h2, this]
  · have := Int.mul_pos (show 0 < A by omega) (show 0 < B by omega)
    simp [h1, h2]; omega

/-- The order of two numbers. -/
def ord (A B : Int) : Int := if A < B then -1 else if B < A then 1 else 0

theorem cmpB_ord {m m' : Bool} {v v' : Value} {n n' : Nat} {f f' : Nat → Nat} {w w' : World} {A B : Int} (h : Num w m v n f A) (h' : Num w' m' v' n' f' B) : cmpB m n f m' n' f' = ord A B := by
  unfold cmpB ord
  rw [if_neg (by rw [h.fault, h'.fault]; simp), cmpNorm h.norm h'.norm]
  have e1 := h.sign
  have e2 := h'.sign
  by_cases h1 : A < 0 <;> by_cases h2 : B < 0 <;> simp [h1] at e1 <;> simp [h2] at e2 <;> subst e1 e2
  · simp only [if_true]
    split
    · rw [if_neg (by omega), if_pos (by omega)]; rfl
    · split
      · rw [if_pos (by omega)]
      · rw [if_neg (by omega), if_neg (by omega)]; rfl
  · simp; omega
  · simp; omega
  · simp only [if_true, Bool.false_eq_true, if_false]
    split
    · rw [if_pos (by omega)]
    · split
      · rw [if_neg (by omega), if_pos (by omega)]
      · rw [if_neg (by omega), if_neg (by omega)]

theorem iCompareZ {m m' : Bool} {v v' : Value} {n n' : Nat} {f f' : Nat → Nat} {w : World} {A B : Int} (h : Num w m v n f A) (h' : Num w m' v' n' f' B) :
    Calls Try.prog 22 #[.agg #[.bool m, v], .agg #[.bool m', v']] w fun e w' => e = .returned (.int .i64 (ord A B)) ∧ Below w.heap.size w w' := by
  have := iCompare_any m m' v v' n n' f f' w h.lim h'.lim
  rwa [cmpB_ord h h'] at this

theorem sCompareZ {m m' : Bool} {v v' : Value} {n n' : Nat} {f f' : Nat → Nat} {w : World} {A B : Int} (h : Num w m v n f A) (h' : Num w m' v' n' f' B) :
    Calls Try.prog 44 #[.agg #[.bool m, v], .agg #[.bool m', v']] w fun e w' => e = .returned (.int .i64 (ord A B)) ∧ Below w.heap.size w w' := by
  have := sCompare_any m m' v v' n n' f f' w h.lim h'.lim
  rwa [cmpB_ord h h'] at this

theorem num_of {m : Bool} {v : Value} {n : Nat} {f : Nat → Nat} {w : World} (hL : Lim w v n f) (hf : faultB m n f = false) : ∃ Z, Num w m v n f Z := by
  have hn : Norm (ext n f) n (val (ext n f) n) := ⟨extLt hL, fun i hi => by unfold ext; rw [if_neg (by omega)], fun h => by
    rw [ext_of_lt _ (by omega)]
    unfold faultB at hf
    rw [if_neg (by omega)] at hf
    simp at hf
    exact hf.2, rfl⟩
  have hp := hn.pos
  refine ⟨if m = true then -(val (ext n f) n : Int) else val (ext n f) n, hL, hf, ?_, ?_⟩
  · rw [show (if m = true then -(val (ext n f) n : Int) else val (ext n f) n).natAbs = val (ext n f) n by cases m <;> simp]
    exact hn
  · cases m
    · simp
    · have : 0 < n := by
        apply Decidable.byContradiction
        intro h
        unfold faultB at hf
        rw [if_pos (by omega)] at hf
        cases hf
      simp; omega

end Go.Proofs.Ytpcnmolncoaddaa
