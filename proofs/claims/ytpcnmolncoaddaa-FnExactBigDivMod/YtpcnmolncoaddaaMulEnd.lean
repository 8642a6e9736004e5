import Derived.Test.YtpcnmolncoaddaaLawMul
import Derived.Test.YtpcnmolncoaddaaMul2
namespace Go.Proofs.Ytpcnmolncoaddaa
open Go.RowKit Go.Joins

theorem doneN_le2 (N : Nat) : doneN N ≤ 40 := by unfold doneN; split <;> omega

theorem lawMul (m m' : Bool) (v v' : Value) (n n' : Nat) (f f' : Nat → Nat) (w : World) (hL : Lim w v n f) (hL' : Lim w v' n' f') :
    Calls Try.prog 14 #[.agg #[.bool m, v], .agg #[.bool m', v']] w fun e w' => e = .returned (.bool true) ∧ Below w.heap.size w w' := by
  by_cases hf : faultB m n f = true ∨ faultB m' n' f' = true
  · refine lawMul_core m m' v v' n n' f f' w hL hL' 1 false 0 (fun _ => 0) (by omega) (fun v v' w h h' => ?_) (fun v v' w h h' => ?_)
    · refine (sMul2_f m m' v v' n n' f f' w h h' hf).mono ?_
      rintro e w' ⟨rfl, hb⟩
      exact ⟨_, rfl, own_nil _ _ _, hb⟩
    · refine (iMul_f m m' v v' n n' f f' w h h' hf).mono ?_
      rintro e w' ⟨rfl, hb⟩
      exact ⟨_, rfl, own_nil _ _ _, hb⟩
  · have h1 : faultB m n f = false := Bool.eq_false_iff.2 (fun h => hf (.inl h))
    have h2 : faultB m' n' f' = false := Bool.eq_false_iff.2 (fun h => hf (.inr h))
    refine lawMul_core m m' v v' n n' f f' w hL hL' _ _ _ _ (doneN_le2 _) (fun v v' w h h' => sMul2_ok m m' v v' n n' f f' w h h' h1 h2 _ _ _ rfl rfl rfl) (fun v v' w h h' => iMul_ok m m' v v' n n' f f' w h h' h1 h2 _ _ _ rfl rfl rfl)

end Go.Proofs.Ytpcnmolncoaddaa
