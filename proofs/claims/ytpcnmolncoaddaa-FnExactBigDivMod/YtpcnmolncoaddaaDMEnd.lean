import Derived.Test.YtpcnmolncoaddaaLawDM
import Derived.Test.YtpcnmolncoaddaaJC
namespace Go.Proofs.Ytpcnmolncoaddaa
open Go.RowKit Go.Joins

theorem Own.congr {B : Nat} {w : World} {v : Value} {n : Nat} {f g : Nat → Nat} (h : Own B w v n f) (he : ∀ i, i < n → f i = g i) : Own B w v n g := by
  obtain ⟨a, c, rfl, h1, h2, h3, h4⟩ := h
  refine ⟨a, c, rfl, h1, h2, fun i hi => by rw [← he i hi]; exact h3 i hi, fun hn => ?_⟩
  obtain ⟨b, off, rfl, h7, h5, h6⟩ := h4 hn
  exact ⟨b, off, rfl, h7, fun i hi => by rw [← he i hi]; exact h5 i hi, h6⟩

/-- How many limbs a number has. -/
def cnt (Q : Nat) : Nat := trimN (lmb Q) 40
theorem cnt_norm {Q : Nat} (h : Q < Lid) : Norm (ext (cnt Q) (lmb Q)) (cnt Q) Q :=
  norm_trim (fun i _ => lmb_lt Q i) (by rw [val_lmb]; exact Nat.mod_eq_of_lt h)
theorem cnt_le (Q : Nat) : cnt Q ≤ 40 := trimN_le _ _
theorem norm_cnt {f : Nat → Nat} {n Q : Nat} (h : Norm f n Q) (hQ : Q < Lid) : n = cnt Q ∧ f = lmb Q := ⟨(h.unique (cnt_norm hQ)).1, norm_lmb h⟩

theorem dvR_lt (s : Bool) (X Y : Nat) (hY : 0 < Y) : dvR s X Y < Y := by
  have := Nat.mod_lt X hY
  unfold dvR
  split <;> omega

theorem ownNil (B : Nat) (w : World) (f : Nat → Nat) : Own B w (.slice none 0 0) 0 f :=
  ⟨none, 0, rfl, Nat.le_refl _, ⟨by unfold maxLen; omega, fun _ => rfl⟩, fun i hi => by omega, fun hx => by omega⟩
theorem inNil (lo hi : Nat) : In lo hi (.slice none 0 0) 0 := fun b hn _ => by omega

theorem lawDM (m m' : Bool) (v v' : Value) (n n' : Nat) (f f' : Nat → Nat) (w : World) (hL : Lim w v n f) (hL' : Lim w v' n' f') :
    Calls Try.prog 15 #[.agg #[.bool m, v], .agg #[.bool m', v']] w fun e w' => e = .returned (.bool true) ∧ Below w.heap.size w w' := by
  by_cases hf : faultB m n f = true
  · refine lawDM_core m m' v v' n n' f f' w hL hL' 1 false false 0 0 (fun _ => 0) (fun _ => 0) (by omega) (by omega) (hide ?_) (hide ?_)
    · intro u u' w l l'
      refine (sDM_f1 m m' u u' n n' f f' w l l' hf).mono ?_
      rintro e w' ⟨rfl, hb⟩
      exact ⟨_, _, rfl, ownNil _ _ _, ownNil _ _ _, hb⟩
    · intro u u' w l l'
      refine (iDiv_f1 m m' u u' n n' f f' w l l' hf).mono ?_
      rintro e w' ⟨rfl, hb⟩
      exact ⟨_, _, w.heap.size, rfl, ownNil _ _ _, inNil _ _, ownNil _ _ _, Nat.le_refl _, hb.size, hb⟩
  replace hf := Bool.eq_false_iff.2 hf
  by_cases hf' : faultB m' n' f' = true
  · refine lawDM_core m m' v v' n n' f f' w hL hL' 1 false false 0 0 (fun _ => 0) (fun _ => 0) (by omega) (by omega) (hide ?_) (hide ?_)
    · intro u u' w l l'
      refine (sDM_f2 m m' u u' n n' f f' w l l' hf hf').mono ?_
      rintro e w' ⟨rfl, hb⟩
      exact ⟨_, _, rfl, ownNil _ _ _, ownNil _ _ _, hb⟩
    · intro u u' w l l'
      refine (iDiv_f2 m m' u u' n n' f f' w l l' hf hf').mono ?_
      rintro e w' ⟨rfl, hb⟩
      exact ⟨_, _, w.heap.size, rfl, ownNil _ _ _, inNil _ _, ownNil _ _ _, Nat.le_refl _, hb.size, hb⟩
  replace hf' := Bool.eq_false_iff.2 hf'
  by_cases h0 : n' = 0
  · refine lawDM_core m m' v v' n n' f f' w hL hL' 3 false false 0 0 (fun _ => 0) (fun _ => 0) (by omega) (by omega) (hide ?_) (hide ?_)
    · intro u u' w l l'
      refine (sDM_zero m m' u u' n n' f f' w l l' hf hf' h0).mono ?_
      rintro e w' ⟨rfl, hb⟩
      exact ⟨_, _, rfl, ownNil _ _ _, ownNil _ _ _, hb⟩
    · intro u u' w l l'
      refine (iDiv_zero m m' u u' n n' f f' w l l' hf hf' h0).mono ?_
      rintro e w' ⟨rfl, hb⟩
      exact ⟨_, _, w.heap.size, rfl, ownNil _ _ _, inNil _ _, ownNil _ _ _, Nat.le_refl _, hb.size, hb⟩
  have hp : 0 < n' := by omega
  obtain ⟨A, NA⟩ := num_of hL hf
  obtain ⟨B, NB⟩ := num_of hL' hf'
  have hB0 : 0 < B.natAbs := NB.norm.pos.1 hp
  have hQ : dvQ (m != m') A.natAbs B.natAbs < Lid := Nat.lt_of_le_of_lt ((dvQ_le _ _ _).resolve_right (by omega)) NA.lid
  have hR : dvR (m != m') A.natAbs B.natAbs < Lid := Nat.lt_trans (dvR_lt _ _ _ hB0) NB.lid
  generalize hq : dvQ (m != m') A.natAbs B.natAbs = Q at *
  generalize hr : dvR (m != m') A.natAbs B.natAbs = R at *
  refine lawDM_core m m' v v' n n' f f' w hL hL' 0 ((m != m') && decide (0 < cnt Q)) (m' && decide (0 < cnt R)) (cnt Q) (cnt R) (lmb Q) (lmb R) (cnt_le _) (cnt_le _) (hide ?_) (hide ?_)
  · intro u u' w l l'
    obtain ⟨a, c, rfl, -⟩ := id l
    obtain ⟨a', c', rfl, -⟩ := id l'
    refine (sDM_ok m m' a a' n c n' c' f f' A B w ⟨l, NA.fault, NA.norm, NA.sign⟩ ⟨l', NB.fault, NB.norm, NB.sign⟩ hp).mono ?_
    rintro e w' ⟨x, x', N, N', D, D', rfl, o1, o2, q1, q2, hb⟩
    rw [hq] at q1
    rw [hr] at q2
    obtain ⟨e1, e2⟩ := norm_cnt q1 hQ
    obtain ⟨e3, e4⟩ := norm_cnt q2 hR
    subst e1 e3
    refine ⟨x, x', rfl, o1.congr (fun i hi => ?_), o2.congr (fun i hi => ?_), hb⟩
    · rw [← e2]; unfold ext; rw [if_pos hi]
    · rw [← e4]; unfold ext; rw [if_pos hi]
  · intro u u' w l l'
    obtain ⟨a, c, rfl, -⟩ := id l
    obtain ⟨a', c', rfl, -⟩ := id l'
    refine (iDiv_core m m' a a' n c n' c' f f' A B w ⟨l, NA.fault, NA.norm, NA.sign⟩ ⟨l', NB.fault, NB.norm, NB.sign⟩ hp).mono ?_
    rintro e w' ⟨x, x', N, N', D, D', B1, rfl, o1, i1, o2, l1, q1, q2, hb⟩
    rw [hq] at q1
    rw [hr] at q2
    obtain ⟨e1, rfl⟩ := norm_cnt q1 hQ
    obtain ⟨e3, rfl⟩ := norm_cnt q2 hR
    subst e1 e3
    by_cases hB1 : B1 ≤ w'.heap.size
    · exact ⟨x, x', B1, rfl, o1, i1, o2, l1, hB1, hb⟩
    · have hz : cnt R = 0 := by
        apply Decidable.byContradiction
        intro hn
        obtain ⟨_, _, rfl, _, _, _, h4⟩ := id o2
        obtain ⟨b, off, rfl, h7, h5, _⟩ := h4 (by omega)
        have := block_lt_of_cell (h5 0 (by omega))
        have h8 : b < w'.heap.size := this
        omega
      refine ⟨x, x', w'.heap.size, rfl, o1, ?_, ?_, hb.size, Nat.le_refl _, hb⟩
      · exact o1.inn
      · obtain ⟨a1, c1, rfl, g1, g2, g3, g4⟩ := o2
        exact ⟨a1, c1, rfl, g1, g2, g3, fun hn => by omega⟩

end Go.Proofs.Ytpcnmolncoaddaa
