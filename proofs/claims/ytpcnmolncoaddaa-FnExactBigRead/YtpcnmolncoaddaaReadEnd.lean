import Derived.Test.YtpcnmolncoaddaaSBad
import Derived.Test.YtpcnmolncoaddaaSRead1
import Derived.Test.YtpcnmolncoaddaaSRead2
import Derived.Test.YtpcnmolncoaddaaSRead3
import Derived.Test.YtpcnmolncoaddaaLawRead
namespace Go.Proofs.Ytpcnmolncoaddaa
open Go.RowKit Go.Joins

theorem bad_own {id : Nat} {x : Value} {code : Int} {F : Nat → Nat} {w : World} (h : Calls Try.prog id #[x] w fun e w' => e = .returned (.agg #[.int .i64 code, .bool false, .slice none 0 0]) ∧ Below w.heap.size w w') :
    Calls Try.prog id #[x] w fun e w' => ∃ v', e = .returned (.agg #[.int .i64 code, .bool false, v']) ∧ Own w.heap.size w' v' 0 F ∧ Below w.heap.size w w' := by
  refine h.mono ?_
  rintro e w' ⟨rfl, hb⟩
  exact ⟨_, rfl, ⟨none, 0, rfl, Nat.le_refl _, ⟨by unfold maxLen; omega, fun _ => rfl⟩, fun i hi => by omega, fun h => by omega⟩, hb⟩
theorem big_own {id : Nat} {x : Value} {mn : Bool} {n : Nat} {F : Nat → Nat} {w : World} (hn : 40 < n) (h : Calls Try.prog id #[x] w fun e w' => e = .returned (.agg #[.int .i64 2, .bool false, .slice none 0 0]) ∧ Below w.heap.size w w') :
    Calls Try.prog id #[x] w fun e w' => ∃ v', e = .returned (.agg #[.int .i64 (doneC n), .bool (doneM mn n), v']) ∧ Own w.heap.size w' v' (doneN n) F ∧ Below w.heap.size w w' := by
  rw [show doneC n = 2 from if_pos hn, show doneM mn n = false from if_pos hn, show doneN n = 0 from if_pos hn]
  exact bad_own h
theorem doneN_le (n : Nat) : doneN n ≤ 80 := by unfold doneN; split <;> omega
theorem nodig {s : ByteArray} (h : ¬ Dig s) : ∃ p, p < s.size ∧ (∀ i, i < p → 48 ≤ bt s i ∧ bt s i ≤ 57) ∧ (bt s p < 48 ∨ 57 < bt s p) := by
  have key : ∀ k, k ≤ s.size → (∀ i, i < k → 48 ≤ bt s i ∧ bt s i ≤ 57) ∨ ∃ p, p < s.size ∧ (∀ i, i < p → 48 ≤ bt s i ∧ bt s i ≤ 57) ∧ (bt s p < 48 ∨ 57 < bt s p) := by
    intro k
    induction k with
    | zero => intro _; exact Or.inl (fun i hi => by omega)
    | succ k ih =>
      intro hk
      rcases ih (by omega) with h1 | h1
      · by_cases hx : bt s k < 48 ∨ 57 < bt s k
        · exact Or.inr ⟨k, by omega, h1, hx⟩
        · refine Or.inl (fun i hi => ?_)
          by_cases he : i = k
          · subst he; omega
          · exact h1 i (by omega)
      · exact Or.inr h1
  rcases key s.size (Nat.le_refl _) with h1 | h1
  · exact absurd h1 h
  · exact h1
theorem large_of {D : ByteArray} {F : Nat → Nat} {n : Nat} (hG : Dig D) (h0 : bt D 0 ≠ 48) (h4 : 400 < D.size) (hN : Norm F n (dv (bt D) D.size)) : 40 < n := by
  have h5 : 386 ≤ D.size - 1 := by omega
  have h6 : 0 < D.size := by omega
  have h7 : 49 ≤ bt D 0 := by have := hG 0 h6; omega
  have h8 : ∀ e, e ≤ D.size - 1 → 10 ^ e ≤ dv (bt D) D.size := fun e he => Nat.le_trans (Nat.pow_le_pow_right (Nat.succ_pos 9) he) (dv_ge h6 h7)
  exact hN.large (Nat.le_trans big10 (h8 386 h5))
theorem eq_int {x : UInt8} {y : Nat} {b : Bool} (h : b = true ↔ x.toNat = y) : ((x.toNat : Int) == (y : Int)) = b := by
  cases b
  · have : ¬ x.toNat = y := fun e => by have := h.2 e; cases this
    simp only [beq_eq_false_iff_ne, ne_eq]; omega
  · have := h.1 rfl
    simp only [beq_iff_eq]; omega

theorem lawRead (s : ByteArray) (w : World) : Calls Try.prog 10 #[.string s] w fun e w' => e = .returned (.bool true) ∧ Below w.heap.size w w' := by
  by_cases hs : 1048576 < s.size
  · exact lawRead_long s hs w
  have hs' : s.size ≤ 1048576 := by omega
  clear hs
  rcases Nat.eq_zero_or_pos s.size with hz | hp
  · have f1 : (s.toList == []) = true := list_none.2 hz
    exact lawRead_core s hs' 1 false 0 (fun _ => 0) w (by omega) (fun w => bad_own (sBad_e s w hs' f1)) (fun w => bad_own (iRead_bad s s false w hs' (fun w => cut_empty s w (by omega)) (fun h => by have := h.2.1; omega)))
  have f1 : (s.toList == []) = false := by rw [← Bool.not_eq_true, list_none]; omega
  have b0 := bt_in hp
  by_cases h45 : bt s 0 = 45
  · have f2 : ((s[0].toNat : Int) == 45) = true := eq_int (by rw [b0, h45]; simp)
    have cut : Hid (∀ w, Calls Try.prog 67 #[.string s, .string ⟨#[45]⟩] w fun e w' => e = .returned (.tuple #[.string (s.extract 1 s.size), .bool true]) ∧ w' = w) := fun w => cut_minus s w hp ((head_minus hp).2 h45)
    have gz : (s.extract 1 s.size).size = s.size - 1 := by rw [ByteArray.size_extract]; omega
    rcases Nat.eq_zero_or_pos (s.extract 1 s.size).size with hz | gp
    · exact lawRead_core s hs' 1 false 0 (fun _ => 0) w (by omega) (fun w => bad_own (sBad_m0 s w hs' f1 hp f2 (list_none.2 hz))) (fun w => bad_own (iRead_bad s _ true w (by omega) cut (fun h => by have := h.2.1; omega)))
    have g1 : ((s.extract 1 s.size).toList == []) = false := by rw [← Bool.not_eq_true, list_none]; omega
    have gq : 1 < s.size := by omega
    have gs : (s.extract 1 s.size).size ≤ 1048576 := by omega
    have d0 := bt_in gp
    by_cases h48 : bt (s.extract 1 s.size) 0 = 48
    · have f3 : (((s.extract 1 s.size)[0].toNat : Int) == 48) = true := eq_int (by rw [d0, h48]; simp)
      refine lawRead_core s hs' 1 false 0 (fun _ => 0) w (by omega) (fun w => bad_own (sBad_m1 s w hs' f1 hp f2 g1 gq gp gs f3)) (fun w => bad_own ?_)
      by_cases h1 : (s.extract 1 s.size).size = 1
      · have hG : Dig (s.extract 1 s.size) := by
          intro i hi
          obtain rfl : i = 0 := by omega
          omega
        exact iRead_zero s _ true w gs cut ⟨hG, gp, Or.inl h1⟩ rfl ((list_one 48).2 ⟨h1, h48⟩)
      · exact iRead_bad s _ true w gs cut (fun h => by rcases h.2.2 with h | h <;> omega)
    · have f3 : (((s.extract 1 s.size)[0].toNat : Int) == 48) = false := eq_int (by rw [d0]; simp [h48])
      by_cases hG : Dig (s.extract 1 s.size)
      · obtain ⟨F, n, hN⟩ := Norm.ex (bt (s.extract 1 s.size)) (s.extract 1 s.size).size (fun i hi => (hG i hi).2)
        have g0 : ((s.extract 1 s.size).toList == [48]) = false := by
          rw [← Bool.not_eq_true, list_one]; rintro ⟨-, h⟩; exact h48 h
        refine lawRead_core s hs' (doneC n) (doneM true n) (doneN n) F w (doneN_le n) (fun w => sRead_m s w hs' F n f1 hp f2 g1 gq gp gs f3 hN hG) (fun w => ?_)
        by_cases h4 : (s.extract 1 s.size).size ≤ 400
        · exact iRead_ok1 s _ true w gs cut F n hN ⟨hG, gp, Or.inr h48⟩ rfl g0 h4
        · exact big_own (large_of hG h48 (by omega) hN) (iRead_big1 s _ true w gs cut ⟨hG, gp, Or.inr h48⟩ rfl g0 (by omega))
      · obtain ⟨p, hp1, hp2, hp3⟩ := nodig hG
        exact lawRead_core s hs' 1 false 0 (fun _ => 0) w (by omega) (fun w => bad_own (sBad_m2 s w hs' f1 hp f2 g1 gq gp gs f3 p hp1 hp2 hp3)) (fun w => bad_own (iRead_bad s _ true w gs cut (fun h => hG h.1)))
  · have f2 : ((s[0].toNat : Int) == 45) = false := eq_int (by rw [b0]; simp [h45])
    have cut : Hid (∀ w, Calls Try.prog 67 #[.string s, .string ⟨#[45]⟩] w fun e w' => e = .returned (.tuple #[.string s, .bool false]) ∧ w' = w) := fun w => cut_plain s w hp (by rw [← Bool.not_eq_true, head_minus hp]; exact h45)
    by_cases h48 : bt s 0 = 48
    · have f3 : ((s[0].toNat : Int) == 48) = true := eq_int (by rw [b0, h48]; simp)
      by_cases h1 : s.size = 1
      · have hG : Dig s := fun i hi => by
          obtain rfl : i = 0 := by omega
          omega
        obtain ⟨F, n, hN⟩ := Norm.ex (bt s) s.size (fun i hi => (hG i hi).2)
        exact lawRead_core s hs' (doneC n) (doneM false n) (doneN n) F w (doneN_le n) (fun w => sRead_z s w hs' F n f1 hp f2 f3 (by omega) hN hG) (fun w => iRead_ok0 s _ false w hs' cut F n hN ⟨hG, hp, Or.inl h1⟩ rfl (by omega))
      · exact lawRead_core s hs' 1 false 0 (fun _ => 0) w (by omega) (fun w => bad_own (sBad_b1 s w hs' f1 hp f2 f3 (by omega))) (fun w => bad_own (iRead_bad s _ false w hs' cut (fun h => by rcases h.2.2 with h | h <;> omega)))
    · have f3 : ((s[0].toNat : Int) == 48) = false := eq_int (by rw [b0]; simp [h48])
      by_cases hG : Dig s
      · obtain ⟨F, n, hN⟩ := Norm.ex (bt s) s.size (fun i hi => (hG i hi).2)
        refine lawRead_core s hs' (doneC n) (doneM false n) (doneN n) F w (doneN_le n) (fun w => sRead_b s w hs' F n f1 hp f2 f3 hN hG) (fun w => ?_)
        by_cases h4 : s.size ≤ 400
        · exact iRead_ok0 s _ false w hs' cut F n hN ⟨hG, hp, Or.inr h48⟩ rfl h4
        · exact big_own (large_of hG h48 (by omega) hN) (iRead_big0 s _ false w hs' cut ⟨hG, hp, Or.inr h48⟩ rfl (by omega))
      · obtain ⟨p, hp1, hp2, hp3⟩ := nodig hG
        exact lawRead_core s hs' 1 false 0 (fun _ => 0) w (by omega) (fun w => bad_own (sBad_b2 s w hs' f1 hp f2 f3 p hp1 hp2 hp3)) (fun w => bad_own (iRead_bad s _ false w hs' cut (fun h => hG h.1)))

end Go.Proofs.Ytpcnmolncoaddaa
