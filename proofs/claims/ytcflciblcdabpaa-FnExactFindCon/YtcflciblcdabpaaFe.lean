import Derived.Test.YtcflciblcdabpaaJA
import Derived.Test.YtcflciblcdabpaaShelf
namespace Go.Proofs.Ytcflciblcdabpaa
open Go.RowKit Go.Joins

set_option maxRecDepth 100000 in
theorem iClone (x : ByteArray) (w : World) (hx : x.size ≤ 1048576) : Calls Try.prog 26 #[.string x] w fun e w' => e = .returned (.string x) ∧ Below w.heap.size w w' := by
  have := Try.stringslite_Clone x w (by omega)
  go_enter Try.func26, Try.ntmps26
  go_wp2_with fail
  refine this.mono ?_
  rintro e w2 ⟨rfl, b2⟩
  go_wp2_with fail
  go_ret
  exact ⟨rfl, b2⟩

set_option maxRecDepth 100000 in
theorem eqNil (a : Addr) (n c : Nat) (w : World) : (binOp BinOp.eql 30 (.slice (some a) n c) (.slice none 0 0)).run Try.prog w = .ok (.bool false) w := by kernel_rfl

set_option maxHeartbeats 1000000 in
set_option maxRecDepth 100000 in
/-- slices.Clone of a row of types that is not empty: a row of its own with the same cells. -/
theorem i_clones (b o n c : Nat) (xs : List Value) (W : World) (hn : 0 < n) (hn2 : n ≤ 1048576) (hl : xs.length = n * 4) (h1 : ∀ u ∈ xs, u.oneCell' = true) (hc : Cel W xs b o) (hb : b < W.heap.size) :
    Calls Try.prog 72 #[.slice (some ⟨b, o, none⟩) n c] W fun e W' => ∃ g cap, e = .returned (.slice (some ⟨g, 0, none⟩) n cap) ∧ W'.ownsRow W.heap.size 53 4 (.slice (some ⟨g, 0, none⟩) n cap) n xs ∧ Below W.heap.size W W' := by
  obtain ⟨V0, hV0⟩ : ∃ V, W.alloc (.cells #[] 53) = V := ⟨_, rfl⟩
  have k0 : Kept (fun _ => True) W V0 := by rw [← hV0]; exact Kept.alloc _ _ _
  have z0 : V0.heap.size = W.heap.size + 1 := by rw [← hV0]; simp
  have HOWN : Hid (V0.ownsRow W.heap.size 53 4 (.slice (some ⟨W.heap.size, 0, none⟩) 0 0) 0 []) := by
    refine ⟨rfl, .inr ⟨W.heap.size, 0, #[], rfl, Nat.le_refl _, ?_, Nat.le_refl _, Nat.zero_le _, rfl, rfl⟩⟩
    rw [← hV0]
    exact (MapKept.heap_alloc W _).1
  have HCK : Hid (0 < n → ∃ b' o', some (⟨b, o, none⟩ : Addr) = some ⟨b', o', none⟩ ∧ Cel V0 xs b' o') := fun _ => ⟨b, o, rfl, hc.kept k0 hb trivial⟩
  have HL := hide hl
  have H1 := hide h1
  have HZ : Hid (W.heap.size ≤ V0.heap.size) := by show _ ≤ _; omega
  have HM : Hid (0 + n ≤ maxLen ∧ (0 + n) * 56 ≤ 140737488355328) := ⟨by unfold maxLen; omega, by omega⟩
  have HFIN : Hid (∀ v' w3, w3.ownsRow W.heap.size 53 4 v' n xs → V0.grownBy w3 (some W.heap.size) → ∃ g cap, v' = .slice (some ⟨g, 0, none⟩) n cap ∧ w3.ownsRow W.heap.size 53 4 (.slice (some ⟨g, 0, none⟩) n cap) n xs ∧ Below W.heap.size W w3) := fun v' w3 hO hG => by
    have kb : Below W.heap.size W w3 := ((k0.mono (T := fun c => c < W.heap.size) (fun _ _ _ => trivial)).trans (Kept.grown hG (fun c e h => by have := Option.some.inj e; omega))).below (fun _ h => h) (Nat.le_refl _)
    rcases hO.2 with ⟨-, e⟩ | ⟨g, cap, cur, rfl, h⟩
    · have h9 := HL.out
      rw [e] at h9
      simp at h9
      omega
    · exact ⟨g, cap, rfl, hO, kb⟩
  have HV0 := hide hV0
  clear hV0 k0 z0 hl h1 hc
  have hen := eqNil ⟨b, o, none⟩ n c W
  go_enter Try.func72, Try.ntmps72
  go_wp2_with (at_builtin; rw [HV0.out]; refine ur_step rfl _ _ 30 53 rfl Try.info53 Try.underlying30 rfl (by decide) W.heap.size V0 (.slice (some ⟨W.heap.size, 0, none⟩) 0 0) 0 [] xs (some ⟨b, o, none⟩) n c rfl rfl HZ.out HOWN.out HCK.out HL.out H1.out HM.out.1 HM.out.2 ?_; rintro v' w3 hO3 hG3; rw [Nat.zero_add, List.nil_append] at hO3; obtain ⟨g, cap, rfl, ho, hbe⟩ := HFIN.out v' w3 hO3 hG3; have HO := hide ho; have HBE := hide hbe; clear hO3 hG3 ho hbe)
  go_ret
  exact ⟨g, cap, rfl, HO.out, HBE.out⟩

end Go.Proofs.Ytcflciblcdabpaa
