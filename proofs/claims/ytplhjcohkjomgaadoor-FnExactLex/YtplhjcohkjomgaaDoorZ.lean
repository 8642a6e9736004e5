import Derived.Test.YtplhjcohkjomgaaDoorY
namespace Go.Proofs.YtplhjcohkjomgaaDoor
open Go.RowKit Go.Joins

/-- The kind of a kept text, else 0. -/
def kk (t : ByteArray) : Nat := if word t = true then 8 else if mark t = true then 9 else 0

/-- The kept texts lie in block mb. -/
def KM (w : World) (mb : Nat) : Prop := ∃ o, w.heap[mb]? = some o ∧ (∀ c t fz, o ≠ .cells c t fz) ∧
  ∀ (w' : World) (t : ByteArray), w'.heap[mb]? = some o → t.size ≤ maxLen → (Instr.lookup 49 (.map (some mb)) (.string t) false).run Tryd.prog w' = .ok (.int .i64 (kk t)) w'

theorem KM.keep {w w' : World} {mb : Nat} (h : KM w mb) (hb : w'.heap[mb]? = w.heap[mb]?) : KM w' mb := by
  obtain ⟨o, h1, h2, h3⟩ := h
  exact ⟨o, hb.trans h1, h2, h3⟩
theorem KM.run {w : World} {mb : Nat} (h : KM w mb) (t : ByteArray) (ht : t.size ≤ maxLen) : (Instr.lookup 49 (.map (some mb)) (.string t) false).run Tryd.prog w = .ok (.int .i64 (kk t)) w := by
  obtain ⟨o, h1, h2, h3⟩ := h
  exact h3 w t h1 ht
theorem KM.below {w w' : World} {mb B : Nat} (h : KM w mb) (hb : Below B w w') (hm : mb < B) : KM w' mb := h.keep (hb.block mb hm)
theorem KM.drew {w : World} {mb : Nat} (h : KM w mb) : KM w.drew mb := h

/-- What adding a token leaves. -/
def Added (b : Nat) (s : ByteArray) (mb e ln ls n : Nat) (T : List To) (w w' : World) : Prop :=
  (∃ ao' cap', Sc w' b s mb e ln ls (.slice ao' n cap') ∧ TR (b + 1) w' ao' cap' n T) ∧ KB b w w'

set_option maxHeartbeats 1000000 in
set_option maxRecDepth 100000 in
theorem iAdd (b : Nat) (s : ByteArray) (a m : Nat) (mb : Nat) (nx ln ls cl : Nat) (ao : Option Addr) (cp n : Nat) (T : List To) (k : Nat) (w : World) (h : Sc w b s mb nx ln ls (.slice ao n cp)) (hT : TR (b + 1) w ao cp n T)
    (hl : T.length ≤ 1048576) (hs : s.size ≤ 1048576) (ha : a ≤ m) (hm : m ≤ s.size) (hc : (a : Int) - ls + 1 = cl) (h0 : 1 ≤ cl) (h1 : cl ≤ 1048577) :
    Calls Tryd.prog 73 #[.pointer (some ⟨b, 0, none⟩), .int .i64 k, .int .i64 a, .int .i64 m] w fun e w' => e = .returned (.tuple #[]) ∧ Added b s mb m ln ls (n + 1) (T ++ [⟨k, s.extract a m, ln, cl⟩]) w w' := by
  obtain ⟨c0, c1, c2, c3, c4, c5, fr, lt⟩ := id h
  have ha' : (a : Int) ≤ m := by omega
  have hm' : (m : Int) ≤ s.size := by omega
  have hcl : ∀ w1, Calls Tryd.prog 56 #[.string (s.extract a m)] w1 fun e w' => e = .returned (.string (s.extract a m)) ∧ Below w1.heap.size w1 w' := fun w1 => by
    have := Tryd.stringslite_Clone (s.extract a m) w1 (by rw [ByteArray.size_extract]; omega)
    go_enter Tryd.func56, Tryd.ntmps56
    go_wp2_with fail
    refine this.mono ?_
    rintro e w2 ⟨rfl, b2⟩
    go_wp2_with fail
    go_ret
    exact ⟨rfl, b2⟩
  have HCL := hide hcl
  clear hcl
  have HC := hide hc
  clear hc
  go_enter Tryd.func73, Tryd.ntmps73
  go_wp2_with fail
  refine (HCL.out w).mono ?_
  rintro e w1 ⟨rfl, b1⟩
  go_wp2_with fail
  refine (iMeaning b s a m mb nx ln ls cl ao cp n T k (s.extract a m) w1 (h.below b1 lt) (hT.below b1) hl HC.out h0 h1).mono ?_
  rintro e w2 ⟨rfl, h2, k2⟩
  go_wp2_with fail
  go_end0
  exact ⟨rfl, h2, (KB.of (Nat.le_of_lt lt) b1).trans k2⟩

set_option maxHeartbeats 1000000 in
set_option maxRecDepth 100000 in
theorem iUnless (b : Nat) (s : ByteArray) (a m : Nat) (mb : Nat) (nx ln ls cl : Nat) (ao : Option Addr) (cp n : Nat) (T : List To) (k : Nat) (w : World) (h : Sc w b s mb nx ln ls (.slice ao n cp)) (hT : TR (b + 1) w ao cp n T) (hK : KM w mb)
    (hl : T.length ≤ 1048576) (hs : s.size ≤ 1048576) (ha : a ≤ m) (hm : m ≤ s.size) (hc : (a : Int) - ls + 1 = cl) (h0 : 1 ≤ cl) (h1 : cl ≤ 1048577) :
    Calls Tryd.prog 82 #[.pointer (some ⟨b, 0, none⟩), .int .i64 k, .int .i64 a, .int .i64 m] w fun e w' => e = .returned (.tuple #[]) ∧ Added b s mb m ln ls (n + 1) (T ++ [⟨if kk (s.extract a m) = 0 then k else kk (s.extract a m), s.extract a m, ln, cl⟩]) w w' := by
  obtain ⟨c0, c1, c2, c3, c4, c5, fr, lt⟩ := id h
  have ha' : (a : Int) ≤ m := by omega
  have hm' : (m : Int) ≤ s.size := by omega
  have hlk := hK.drew.run (s.extract a m) (by rw [ByteArray.size_extract]; unfold maxLen; omega)
  have hd : Below w.heap.size w w.drew := (Below.refl _ w).drew
  have hA := fun k => hide (iAdd b s a m mb nx ln ls cl ao cp n T k w.drew (h.drewN 1) (hT.drewN 1) hl hs ha hm hc h0 h1)
  have HA := hide hA
  clear hA hc
  by_cases hz : kk (s.extract a m) = 0
  · rw [hz] at hlk
    rw [if_pos hz]
    clear hz
    go_enter Tryd.func82, Tryd.ntmps82
    go_wp2_with fail
    go_region
    all_goals
      go_wp2_with fail
      refine (HA.out k).out.mono ?_
      rintro e w2 ⟨rfl, h2, k2⟩
      go_wp2_with fail
      go_end0
      exact ⟨rfl, h2, (KB.of (Nat.le_of_lt lt) hd).trans k2⟩
  · rw [if_neg hz]
    generalize kk (s.extract a m) = q at *
    have hq : ((q : Int) == 0) = false := by simp; omega
    clear hz
    go_enter Tryd.func82, Tryd.ntmps82
    go_wp2_with fail
    go_region
    all_goals
      go_wp2_with fail
      refine (HA.out q).out.mono ?_
      rintro e w2 ⟨rfl, h2, k2⟩
      go_wp2_with fail
      go_end0
      exact ⟨rfl, h2, (KB.of (Nat.le_of_lt lt) hd).trans k2⟩

end Go.Proofs.YtplhjcohkjomgaaDoor
