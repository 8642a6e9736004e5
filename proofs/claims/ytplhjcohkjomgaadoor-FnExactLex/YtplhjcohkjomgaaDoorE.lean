import Derived.Test.YtplhjcohkjomgaaDoorD
namespace Go.Proofs.YtplhjcohkjomgaaDoor
open Go.RowKit Go.Joins

/-- The place behind the comment that is open d times at i. -/
def nest (s : ByteArray) (i d : Nat) : Option Nat :=
  if s.size ≤ i then none
  else if two s i 123 45 = true then nest s (i + 2) (d + 1)
  else if two s i 45 125 = true then (if d = 1 then some (i + 2) else nest s (i + 2) (d - 1))
  else nest s (i + 1) d
termination_by s.size - i
decreasing_by all_goals omega

theorem two_le {s : ByteArray} {i x y : Nat} (h : two s i x y = true) : i + 2 ≤ s.size := by
  unfold two at h
  simp only [Bool.and_eq_true, decide_eq_true_eq] at h
  exact h.1

/-- What the model tells of a comment's length. -/
def nestN (s : ByteArray) (a : Nat) : Int := match nest s a 0 with
  | none => -1
  | some j => (j : Int) - a

set_option maxHeartbeats 1000000 in
set_option maxRecDepth 100000 in
theorem mNested (b : Nat) (s : ByteArray) (a : Nat) (ln cl : Int) (x4 x5 x6 x7 : Value) (w : World) (h : Lx w b s a ln cl x4 x5 x6 x7) (hs : s.size ≤ 1048576) (ha : two s a 123 45 = true) :
    Calls Tryd.prog 39 #[.pointer (some ⟨b, 0, none⟩)] w fun e w' => e = .returned (.int .i64 (nestN s a)) ∧ w' = w := by
  have hal := two_le ha
  obtain ⟨c0, c1, c2, c3, c4, c5, c6, c7, fr, lt⟩ := id h
  go_enter Tryd.func39, Tryd.ntmps39
  go_wp2_with fail
  go_loop [3, 4] (fun s3 s4 => ∃ i d : Nat, s4 = .int .i64 i ∧ s3 = .int .i64 d ∧ a ≤ i ∧ i ≤ s.size ∧ d ≤ i ∧ (i = a ∧ d = 0 ∨ 0 < d) ∧ Hid (nest s i d = nest s a 0)) (fun _ s4 => s.size - (intOf s4).toNat)
  case atStart => exact ⟨a, 0, rfl, rfl, Nat.le_refl _, by omega, by omega, .inl ⟨rfl, rfl⟩, rfl⟩
  case round =>
    obtain ⟨i, d, rfl, rfl, h1, h2, h3, h4, hn⟩ := hrel
    by_cases hlt : i < s.size
    · rcases q1 : two s i 123 45 with _ | _
      · rcases q2 : two s i 45 125 with _ | _
        · have en : Hid (nest s (i + 1) d = nest s a 0) := by
            have := hn.out
            rw [nest, if_neg (by omega), if_neg (by rw [q1]; decide), if_neg (by rw [q2]; decide)] at this
            exact this
          go_wp2_with fail
          refine (mTwo b s 123 45 a i ln cl x4 x5 x6 x7 _ h hs (by omega)).mono ?_
          rintro e w1 ⟨rfl, rfl⟩
          rw [show (123 : UInt8).toNat = 123 from rfl, show (45 : UInt8).toNat = 45 from rfl, q1]
          go_wp2_with fail
          refine (mTwo b s 45 125 a i ln cl x4 x5 x6 x7 _ h hs (by omega)).mono ?_
          rintro e w1 ⟨rfl, rfl⟩
          rw [show (125 : UInt8).toNat = 125 from rfl, show (45 : UInt8).toNat = 45 from rfl, q2]
          go_wp2_with fail
          go_round
          case rel => exact ⟨i + 1, d, by go_num, rfl, by omega, by omega, by omega, by
            rcases h4 with ⟨rfl, rfl⟩ | h4
            · rw [ha] at q1; cases q1
            · exact .inr h4, en⟩
          case measure => simp [intOf]; omega
        · have h22 := two_le q2
          have hd : 0 < d := by
            rcases h4 with ⟨rfl, rfl⟩ | h4
            · rw [ha] at q1; cases q1
            · exact h4
          by_cases hd1 : d = 1
          · subst hd1
            have en : Hid (nestN s a = (i : Int) + 2 - a) := by
              have := hn.out
              rw [nest, if_neg (by omega), if_neg (by rw [q1]; decide), if_pos q2, if_pos rfl] at this
              unfold Hid nestN
              rw [← this]
              simp
            go_wp2_with fail
            refine (mTwo b s 123 45 a i ln cl x4 x5 x6 x7 _ h hs (by omega)).mono ?_
            rintro e w1 ⟨rfl, rfl⟩
            rw [show (123 : UInt8).toNat = 123 from rfl, show (45 : UInt8).toNat = 45 from rfl, q1]
            go_wp2_with fail
            refine (mTwo b s 45 125 a i ln cl x4 x5 x6 x7 _ h hs (by omega)).mono ?_
            rintro e w1 ⟨rfl, rfl⟩
            rw [show (125 : UInt8).toNat = 125 from rfl, show (45 : UInt8).toNat = 45 from rfl, q2]
            go_wp2_with fail
            go_ret
            rw [en.out]
            exact ⟨rfl, rfl⟩
          · have en : Hid (nest s (i + 2) (d - 1) = nest s a 0) := by
              have := hn.out
              rw [nest, if_neg (by omega), if_neg (by rw [q1]; decide), if_pos q2, if_neg hd1] at this
              exact this
            have hz : (((d : Int) - 1) == 0) = false := by simp; omega
            go_wp2_with fail
            refine (mTwo b s 123 45 a i ln cl x4 x5 x6 x7 _ h hs (by omega)).mono ?_
            rintro e w1 ⟨rfl, rfl⟩
            rw [show (123 : UInt8).toNat = 123 from rfl, show (45 : UInt8).toNat = 45 from rfl, q1]
            go_wp2_with fail
            refine (mTwo b s 45 125 a i ln cl x4 x5 x6 x7 _ h hs (by omega)).mono ?_
            rintro e w1 ⟨rfl, rfl⟩
            rw [show (125 : UInt8).toNat = 125 from rfl, show (45 : UInt8).toNat = 45 from rfl, q2]
            go_wp2_with fail
            go_round
            case rel => exact ⟨i + 2, d - 1, by go_num, by go_num, by omega, by omega, by omega, .inr (by omega), en⟩
            case measure => simp [intOf]; omega
      · have h22 := two_le q1
        have en : Hid (nest s (i + 2) (d + 1) = nest s a 0) := by
          have := hn.out
          rw [nest, if_neg (by omega), if_pos q1] at this
          exact this
        go_wp2_with fail
        refine (mTwo b s 123 45 a i ln cl x4 x5 x6 x7 _ h hs (by omega)).mono ?_
        rintro e w1 ⟨rfl, rfl⟩
        rw [show (123 : UInt8).toNat = 123 from rfl, show (45 : UInt8).toNat = 45 from rfl, q1]
        go_wp2_with fail
        go_round
        case rel => exact ⟨i + 2, d + 1, by go_num, by go_num, by omega, by omega, by omega, .inr (by omega), en⟩
        case measure => simp [intOf]; omega
    · have en : Hid (nestN s a = -1) := by
        have := hn.out
        rw [nest, if_pos (by omega)] at this
        unfold Hid nestN
        rw [← this]
      go_wp2_with fail
      go_ret
      rw [en.out]
      exact ⟨rfl, rfl⟩

end Go.Proofs.YtplhjcohkjomgaaDoor
