import Derived.Test.YtplhjcohkjomgaaDoorAB
namespace Go.Proofs.YtplhjcohkjomgaaDoor
open Go.RowKit Go.Joins

theorem quo_ext (s : ByteArray) (m a : Nat) (ha : a ≤ s.size) : ∀ (k i : Nat) (out : List UInt8), s.size - a - i ≤ k → quo s m (a + i) out = (quo (s.extract a s.size) m i out).map (fun x => (x.1, a + x.2))
  | k, i, out, hk => by
    have hz : (s.extract a s.size).size = s.size - a := by rw [ByteArray.size_extract]; omega
    have e0 := bt_ext s a i ha
    rw [quo]
    conv => rhs; rw [quo]
    rw [hz, e0]
    by_cases h1 : s.size ≤ a + i
    · have h1' : s.size - a ≤ i := by omega
      rw [if_pos h1, if_pos h1']; rfl
    · have h1' : ¬ s.size - a ≤ i := by omega
      rw [if_neg h1, if_neg h1']
      match k, hk with
      | 0, hk => omega
      | k + 1, hk =>
        by_cases h2 : bt s (a + i) = m
        · rw [if_pos h2, if_pos h2]
          rfl
        · rw [if_neg h2, if_neg h2]
          by_cases h3 : bt s (a + i) < 32 ∨ 126 < bt s (a + i)
          · rw [if_pos h3, if_pos h3]; rfl
          · rw [if_neg h3, if_neg h3]
            by_cases h4 : bt s (a + i) = 92
            · rw [if_pos h4, if_pos h4]
              have e1 := bt_ext s a (i + 1) ha
              rw [e1]
              by_cases h5 : s.size ≤ a + i + 1
              · have h5' : s.size - a ≤ i + 1 := by omega
                rw [if_pos h5, if_pos h5']; rfl
              · have h5' : ¬ s.size - a ≤ i + 1 := by omega
                rw [if_neg h5, if_neg h5', show a + (i + 1) = a + i + 1 by omega]
                split
                · rfl
                · rename_i c _
                  rw [show a + i + 2 = a + (i + 2) by omega, quo_ext s m a ha k (i + 2) _ (by omega)]
            · rw [if_neg h4, if_neg h4, show a + i + 1 = a + (i + 1) by omega, quo_ext s m a ha k (i + 1) _ (by omega)]

/-- What the program's reader of quoted text tells. -/
def qmV (u : ByteArray) (m : Nat) : Value := match quo u m 0 [] with
  | none => .tuple #[.string ⟨#[]⟩, .int .i64 0]
  | some (t, j) => .tuple #[.string ⟨t.toArray⟩, .int .i64 j]
theorem qmV_none {u : ByteArray} {m : Nat} (h : quo u m 0 [] = none) : qmV u m = .tuple #[.string ⟨#[]⟩, .int .i64 0] := by unfold qmV; rw [h]
theorem qmV_some {u : ByteArray} {m j : Nat} {t : List UInt8} (h : quo u m 0 [] = some (t, j)) : qmV u m = .tuple #[.string ⟨t.toArray⟩, .int .i64 j] := by unfold qmV; rw [h]

/-- The byte that is meant behind a backslash, or 0. -/
def escN (c : Nat) : Nat := match esc c with
  | some x => x.toNat
  | none => 0
theorem escN_none {c : Nat} (h : esc c = none) : escN c = 0 := by unfold escN; rw [h]
theorem escN_some {c : Nat} {x : UInt8} (h : esc c = some x) : escN c = x.toNat := by unfold escN; rw [h]

theorem iEsc (c : Nat) (w : World) : Calls Tryd.prog 91 #[.int .i32 c] w fun e w' => e = .returned (.int .u8 (escN c)) ∧ w' = w := by
  by_cases h1 : c = 110
  · subst h1
    go_enter Tryd.func91, Tryd.ntmps91
    go_wp2
    go_ret
    exact ⟨rfl, rfl⟩
  · have z1 : ((c : Int) == 110) = false := by simp; omega
    by_cases h2 : c = 92
    · subst h2
      go_enter Tryd.func91, Tryd.ntmps91
      go_wp2
      go_ret
      exact ⟨rfl, rfl⟩
    · have z2 : ((c : Int) == 92) = false := by simp; omega
      by_cases h3 : c = 39
      · subst h3
        go_enter Tryd.func91, Tryd.ntmps91
        go_wp2
        go_ret
        exact ⟨rfl, rfl⟩
      · have z3 : ((c : Int) == 39) = false := by simp; omega
        by_cases h4 : c = 34
        · subst h4
          go_enter Tryd.func91, Tryd.ntmps91
          go_wp2
          go_ret
          exact ⟨rfl, rfl⟩
        · have z4 : ((c : Int) == 34) = false := by simp; omega
          have he : Hid (esc c = none) := by unfold Hid esc; rw [if_neg h1, if_neg h2, if_neg h3, if_neg h4]
          clear h1 h2 h3 h4
          go_enter Tryd.func91, Tryd.ntmps91
          go_wp2
          go_ret
          exact ⟨by rw [escN_none he.out]; rfl, rfl⟩

end Go.Proofs.YtplhjcohkjomgaaDoor
