import Derived.Test.YtjfoagmenehapaaGreatDoorQ04
import Derived.Deep.DeepCutAuto
namespace Go.Proofs.YtjfoagmenehapaaGreatDoor
open Go.RowKit Go.Joins

/-- How many bytes from a place on are of a class. -/
def rl (p : Nat → Bool) (s : ByteArray) (a : Nat) : Nat :=
  if s.size ≤ a then 0 else if p (bt s a) = true then rl p s (a + 1) + 1 else 0
termination_by s.size - a
decreasing_by all_goals omega

theorem rl_run (p : Nat → Bool) (s : ByteArray) (a : Nat) (ha : a ≤ s.size) : Run p s a (rl p s a) := by
  rw [rl]
  split
  · exact ⟨by omega, fun i hi => by omega, fun h => by omega⟩
  · rename_i h
    split
    · rename_i h1
      have ih := rl_run p s (a + 1) (by omega)
      refine ⟨by have := ih.le; omega, fun i hi => ?_, fun hx => ?_⟩
      · rcases i with _ | i
        · exact h1
        · have := ih.all i (by omega)
          rwa [show a + 1 + i = a + (i + 1) by omega] at this
      · have := ih.stop (by omega)
        rwa [show a + 1 + rl p s (a + 1) = a + (rl p s (a + 1) + 1) by omega] at this
    · rename_i h1
      exact ⟨by omega, fun i hi => by omega, fun _ => Bool.eq_false_iff.2 h1⟩
termination_by s.size - a
decreasing_by all_goals omega

theorem Run.rl {p s a n} (h : Run p s a n) : n = rl p s a := h.unique (rl_run p s a (by have := h.le; omega))

theorem nest_gt {s : ByteArray} (i d j : Nat) (h : nest s i d = some j) : i < j ∧ j ≤ s.size := by
  rw [nest] at h
  split at h
  · cases h
  · split at h
    · rename_i h1
      have := nest_gt (i + 2) (d + 1) j h
      omega
    · split at h
      · rename_i h1
        have h2 := two_le h1
        split at h
        · cases h; omega
        · have := nest_gt (i + 2) (d - 1) j h
          omega
      · have := nest_gt (i + 1) d j h
        omega
termination_by s.size - i
decreasing_by all_goals omega

/-- Dashes alone, two at least: a comment up to the line's end. -/
def dash (s : ByteArray) (a : Nat) : Bool := decide (2 ≤ rl (fun c => c == 45) s a) && decide (rl (fun c => c == 45) s a = rl sym s a)
/-- The length up to the line's end. -/
def eol (s : ByteArray) (a : Nat) : Nat := rl (fun c => c != 10) s a

theorem dash_pos {s : ByteArray} {a : Nat} (ha : a ≤ s.size) (h : dash s a = true) : 2 ≤ eol s a ∧ a + eol s a ≤ s.size := by
  unfold dash at h
  simp only [Bool.and_eq_true, decide_eq_true_eq] at h
  have r1 := rl_run (fun c => c == 45) s a ha
  have r2 := rl_run (fun c => c != 10) s a ha
  refine ⟨?_, r2.le⟩
  apply Decidable.byContradiction
  intro hn
  have hl := r1.le
  have k1 := r2.stop (by unfold eol at hn; omega)
  have k2 := r1.all (rl (fun c => c != 10) s a) (by unfold eol at hn; omega)
  simp at k1 k2
  omega

/-- Where blanks and comments end, and whether each comment has its end. -/
def blank (s : ByteArray) (a : Nat) : Nat × Bool :=
  if _h : s.size ≤ a then (a, true)
  else if bt s a = 32 ∨ bt s a = 10 then blank s (a + 1)
  else if two s a 123 45 = true then
    match _h2 : nest s a 0 with
    | none => (a, false)
    | some j => blank s j
  else if _h3 : dash s a = true then blank s (a + eol s a)
  else (a, true)
termination_by s.size - a
decreasing_by
  · omega
  · have := nest_gt _ _ _ _h2; omega
  · have := dash_pos (by omega) _h3; omega

theorem Lx.fail {w b s a ln cl x4 x5 x6 x7} (h : Lx w b s a ln cl x4 x5 x6 x7) (u4 u5 u6 u7 : Value) : Lx ((((w.setCell ⟨b, 4, none⟩ u4).setCell ⟨b, 5, none⟩ u5).setCell ⟨b, 6, none⟩ u6).setCell ⟨b, 7, none⟩ u7) b s a ln cl u4 u5 u6 u7 := by
  obtain ⟨c0, c1, c2, c3, c4, c5, c6, c7, fr, lt⟩ := h
  exact ⟨by simp [go_sem, c0], by simp [go_sem, c1], by simp [go_sem, c2], by simp [go_sem, c3], by simp [go_sem, c4], by simp [go_sem, c5], by simp [go_sem, c6], by simp [go_sem, c7], fun o => by simpa [go_sem] using fr o, by simpa using lt⟩

set_option maxHeartbeats 1000000 in
set_option maxRecDepth 100000 in
theorem mFail (b : Nat) (s : ByteArray) (a : Nat) (ln cl code : Int) (x4 x5 x6 x7 : Value) (w : World) (h : Lx w b s a ln cl x4 x5 x6 x7) :
    Calls Tryz.prog 130 #[.pointer (some ⟨b, 0, none⟩), .int .i64 code] w fun e w' => e = .returned (.tuple #[]) ∧ Lx w' b s a ln cl (.int .i64 code) (.int .i64 ln) (.int .i64 cl) (.slice none 0 0) ∧ Only b w w' := by
  obtain ⟨c0, c1, c2, c3, c4, c5, c6, c7, fr, lt⟩ := id h
  have f4 := fr 4
  have f5 := fr 5
  have f6 := fr 6
  have f7 := fr 7
  go_enter Tryz.func130, Tryz.ntmps130
  go_wp2_with fail
  go_region
  all_goals go_wp2_with fail
  go_end0
  exact ⟨rfl, (h.fail _ _ _ _).drewN 1, ((((Only.setCell w ⟨b, 4, none⟩ _).trans (Only.setCell _ ⟨b, 5, none⟩ _)).trans (Only.setCell _ ⟨b, 6, none⟩ _)).trans (Only.setCell _ ⟨b, 7, none⟩ _)).drewN 1⟩

end Go.Proofs.YtjfoagmenehapaaGreatDoor

namespace Go.Proofs.YtjfoagmenehapaaGreatDoor
open Go.RowKit Go.Joins

set_option maxHeartbeats 4000000 in
set_option maxRecDepth 100000 in
theorem mBlank (b : Nat) (s : ByteArray) (a : Nat) (x4 x5 x6 x7 : Value) (w : World) (h : Lx w b s a (pl s a) (pc s a) x4 x5 x6 x7) (hs : s.size ≤ 1048576) (ha : a ≤ s.size) :
    Calls Tryz.prog 109 #[.pointer (some ⟨b, 0, none⟩)] w fun e w' => e = .returned (.bool (blank s a).2) ∧ (blank s a).1 ≤ s.size ∧
      ((blank s a).2 = true → Lx w' b s (blank s a).1 (pl s (blank s a).1) (pc s (blank s a).1) x4 x5 x6 x7) ∧
      ((blank s a).2 = false → Lx w' b s (blank s a).1 (pl s (blank s a).1) (pc s (blank s a).1) (.int .i64 2) (.int .i64 (pl s (blank s a).1)) (.int .i64 (pc s (blank s a).1)) (.slice none 0 0)) ∧ Only b w w' := by
  go_enter Tryz.func109, Tryz.ntmps109
  go_wp2_with fail
  go_loopw [3, 4, 5, 6, 7] (fun _ _ _ _ _ wr => ∃ i : Nat, i ≤ s.size ∧ Hid (blank s i = blank s a) ∧ Lx wr b s i (pl s i) (pc s i) x4 x5 x6 x7 ∧ Only b w wr) (fun _ _ _ _ _ wr => s.size - (match wr.cell? ⟨b, 1, none⟩ with | some v => (intOf v).toNat | none => 0))
  case atStart => exact ⟨a, ha, rfl, h, Only.refl _ _⟩
  case round =>
    clear h
    obtain ⟨i, hi, hbl, hl, ho⟩ := hrel
    obtain ⟨c0, c1, c2, c3, c4, c5, c6, c7, fr, lt⟩ := id hl
    by_cases hlt : i < s.size
    · have hb := bt_in hlt
      by_cases q1 : bt s i = 32 ∨ bt s i = 10
      · have en : Hid (blank s (i + 1) = blank s a) := by
          have := hbl.out
          rw [blank, dif_neg (by omega), if_pos q1] at this
          exact this
        by_cases q2 : bt s i = 32
        · have z1 : ((s[i].toNat : Int) == 32) = true := by rw [hb, q2]; rfl
          clear hb q1 q2
          go_wp2_with fail
          go_region
          all_goals go_wp2_with fail
          go_region
          all_goals go_wp2_with fail
          have hl2 := (hl.drewN 1).drewN 1
          have ho2 := (ho.drewN 1).drewN 1
          refine (mSkip b s i 1 x4 x5 x6 x7 _ hl2 hs (by omega)).mono ?_
          rintro e w1 ⟨rfl, hl3, ho3⟩
          go_wp2_with fail
          go_roundw
          case rel => exact ⟨i + 1, by omega, en, hl3, ho2.trans ho3⟩
          case measure =>
            simp [hl3.c1, c1, intOf]
            exact Nat.sub_lt_sub_left hlt (Nat.lt_succ_self i)
        · have z1 : ((s[i].toNat : Int) == 32) = false := by rw [hb]; simp; omega
          have z2 : ((s[i].toNat : Int) == 10) = true := by rw [hb, q1.resolve_left q2]; rfl
          clear hb q1 q2
          go_wp2_with fail
          go_region
          all_goals go_wp2_with fail
          go_region
          all_goals go_wp2_with fail
          have hl2 := (hl.drewN 1).drewN 1
          have ho2 := (ho.drewN 1).drewN 1
          refine (mSkip b s i 1 x4 x5 x6 x7 _ hl2 hs (by omega)).mono ?_
          rintro e w1 ⟨rfl, hl3, ho3⟩
          go_wp2_with fail
          go_roundw
          case rel => exact ⟨i + 1, by omega, en, hl3, ho2.trans ho3⟩
          case measure =>
            simp [hl3.c1, c1, intOf]
            exact Nat.sub_lt_sub_left hlt (Nat.lt_succ_self i)
      · have z1 : ((s[i].toNat : Int) == 32) = false := by rw [hb]; simp; omega
        have z2 : ((s[i].toNat : Int) == 10) = false := by rw [hb]; simp; omega
        have hbl2 := hbl.out
        rw [blank, dif_neg (by omega), if_neg q1] at hbl2
        have HB := hide hbl2
        clear hb q1 hbl2
        go_wp2_with fail
        go_region
        all_goals go_wp2_with fail
        go_region
        all_goals go_wp2_with fail
        have hl2 := (hl.drewN 1).drewN 1
        have ho2 := (ho.drewN 1).drewN 1
        refine (mTwo b s 123 45 i i _ _ x4 x5 x6 x7 _ hl2 hs (by omega)).mono ?_
        rintro e w1 ⟨rfl, rfl⟩
        rw [show (123 : UInt8).toNat = 123 from rfl, show (45 : UInt8).toNat = 45 from rfl]
        rcases q3 : two s i 123 45 with _ | _
        · have hbl3 := HB.out
          rw [if_neg (by rw [q3]; decide)] at hbl3
          have HB3 := hide hbl3
          clear hbl3 HB
          go_upto_region 11 with fail
          go_cut [5] (fun s5 wx => ∃ n : Nat, s5 = .int .i64 n ∧ Run sym s i n ∧ Lx wx b s i (pl s i) (pc s i) x4 x5 x6 x7 ∧ Only b w wx)
          case first =>
            go_region_with (go_at_call 131; refine (mRun1 s i _ hs (by omega)).mono ?_; rintro e w1 ⟨⟨n, rfl, hr⟩, rfl⟩)
            all_goals
              go_wp2_with fail
              go_meet
              case rel => exact ⟨n, rfl, hr, hl2.drewN 1, ho2.drewN 1⟩
          case rest =>
          obtain ⟨n, rfl, hr, hl3, ho3⟩ := hcut
          rename World => wx
          have hrle := hr.le
          have HR := hide hr
          have CO1 := hide c1
          clear hl2 ho2 hl ho c0 c1 c2 c3 c4 c5 c6 c7 fr lt hr
          go_wp2_with fail
          go_loopw [6] (fun s6 wz => ∃ k : Nat, s6 = .int .i64 k ∧ k ≤ n ∧ Hid (∀ j, j < k → bt s (i + j) = 45) ∧ Lx wz b s i (pl s i) (pc s i) x4 x5 x6 x7 ∧ Only b w wz) (fun s6 _ => n - (intOf s6).toNat)
          case atStart => exact ⟨0, rfl, Nat.zero_le _, (fun j hj => by omega), hl3, ho3⟩
          case round =>
            clear hl3 ho3
            obtain ⟨k, rfl, hk, hall, hl, ho⟩ := hrel
            obtain ⟨c0, c1, c2, c3, c4, c5, c6, c7, fr, lt⟩ := id hl
            by_cases hkn : k < n
            · obtain ⟨j, hj⟩ : ∃ j, j = i + k := ⟨_, rfl⟩
              have hsum : (i : Int) + (k : Int) = (j : Int) := by omega
              have hik : j < s.size := by omega
              have hkn' : (k : Int) < (n : Int) := by omega
              have hb := bt_in hik
              have HJ := hide hj
              by_cases he : bt s j = 45
              · have z3 : ((s[j].toNat : Int) == 45) = true := by rw [hb, he]; rfl
                have HE := hide he
                clear hb he hj
                go_wp2_with fail
                go_quiet (fail)
                go_wp2_with fail
                go_roundw
                case rel =>
                  refine ⟨k + 1, by go_num, by omega, fun j' hj' => ?_, hl.drewN _, ho.drewN _⟩
                  by_cases h : j' = k
                  · rw [h, ← HJ.out]; exact HE.out
                  · exact hall.out j' (by omega)
                case measure => simp [intOf]; omega
              · have z3 : ((s[j].toNat : Int) == 45) = false := by rw [hb]; simp; omega
                have rk : Run (fun c => c == 45) s i k := ⟨by omega, fun j' hj' => by simp [hall.out j' hj'], fun _ => by rw [← hj]; simpa using he⟩
                have hd : dash s i = false := by unfold dash; rw [← rk.rl, ← HR.out.rl]; simp; omega
                have en : Hid (blank s a = (i, true)) := by
                  have := HB3.out
                  rw [dif_neg (by rw [hd]; decide)] at this
                  exact this.symm
                clear hb he hj rk hd
                by_cases hk2 : k < 2
                · have hk2' : (k : Int) < 2 := by omega
                  go_wp2_with fail
                  go_quiet (fail)
                  go_wp2_with fail
                  go_ret
                  rw [en.out]
                  exact ⟨rfl, hi, fun _ => hl.drewN _, (fun h => by cases h), ho.drewN _⟩
                · have hk2' : decide ((k : Int) < 2) = false := by simp; omega
                  have hkn2 : ((k : Int) != (n : Int)) = true := by simp; omega
                  go_wp2_with fail
                  go_quiet (fail)
                  go_wp2_with fail
                  go_ret
                  rw [en.out]
                  exact ⟨rfl, hi, fun _ => hl.drewN _, (fun h => by cases h), ho.drewN _⟩
            · obtain rfl : n = k := by omega
              have hkf : decide ((n : Int) < (n : Int)) = false := by simp
              have rk : Run (fun c => c == 45) s i n := ⟨hrle, fun j' hj' => by simp [hall.out j' hj'], fun hx => by
                have := HR.out.stop hx
                rcases hc : (bt s (i + n) == 45) with _ | _
                · rfl
                · simp only [beq_iff_eq] at hc
                  rw [hc] at this
                  revert this
                  decide⟩
              by_cases hk2 : n < 2
              · have hd : dash s i = false := by unfold dash; rw [← rk.rl]; simp; omega
                have en : Hid (blank s a = (i, true)) := by
                  have := HB3.out
                  rw [dif_neg (by rw [hd]; decide)] at this
                  exact this.symm
                have hk2' : (n : Int) < 2 := by omega
                clear rk hd
                go_wp2_with fail
                go_quiet (fail)
                go_wp2_with fail
                go_ret
                rw [en.out]
                exact ⟨rfl, hi, fun _ => hl.drewN _, (fun h => by cases h), ho.drewN _⟩
              · have hd : dash s i = true := by unfold dash; rw [← rk.rl, ← HR.out.rl]; simp; omega
                have hde := dash_pos hi hd
                have en : Hid (blank s (i + eol s i) = blank s a) := by
                  have := HB3.out
                  rw [dif_pos hd] at this
                  exact this
                have hk2' : decide ((n : Int) < 2) = false := by simp; omega
                have hkn2 : ((n : Int) != (n : Int)) = false := by simp
                clear rk hd
                go_wp2_with fail
                go_quiet (fail)
                go_wp2_with fail
                go_loopw [7] (fun s7 wy => ∃ m : Nat, s7 = .int .i64 m ∧ i + m ≤ s.size ∧ Hid (∀ j, j < m → bt s (i + j) ≠ 10) ∧ Lx wy b s i (pl s i) (pc s i) x4 x5 x6 x7 ∧ Only b w wy) (fun s7 _ => s.size - (intOf s7).toNat)
                case atStart => exact ⟨0, rfl, by omega, (fun j hj => by omega), hl.drewN _, ho.drewN _⟩
                case round =>
                  clear hl ho c0 c1 c2 c3 c4 c5 c6 c7 fr lt
                  obtain ⟨m, rfl, hm, hall2, hl4, ho4⟩ := hrel
                  obtain ⟨c0, c1, c2, c3, c4, c5, c6, c7, fr, lt⟩ := id hl4
                  obtain ⟨j, hj⟩ : ∃ j, j = i + m := ⟨_, rfl⟩
                  have hsum : (i : Int) + (m : Int) = (j : Int) := by omega
                  have HJ := hide hj
                  by_cases hjs : j < s.size
                  · have hb := bt_in hjs
                    have hjs' : (j : Int) < (s.size : Int) := by omega
                    by_cases he : bt s j = 10
                    · have z5 : ((s[j].toNat : Int) != 10) = false := by rw [hb, he]; rfl
                      have rm : Run (fun c => c != 10) s i m := ⟨hm, fun j' h' => by have := hall2.out j' h'; simpa using this, fun _ => by rw [← hj, he]; rfl⟩
                      have em : Hid (m = eol s i) := rm.rl
                      have hm2 : 2 ≤ m := by have := em.out; omega
                      clear hb he hj rm
                      go_wp2_with fail
                      go_quiet (fail)
                      go_wp2_with fail
                      refine (mSkip b s i m x4 x5 x6 x7 _ (hl4.drewN _) hs hm).mono ?_
                      rintro e w1 ⟨rfl, hl5, ho5⟩
                      go_wp2_with fail
                      go_roundw
                      case rel => exact ⟨i + m, hm, by have := en.out; rw [← em.out] at this; exact this, hl5, (ho4.drewN _).trans ho5⟩
                      case measure =>
                        have CO := CO1.out
                        simp [hl5.c1, CO, intOf]
                        first
                        | exact Nat.sub_lt_sub_left hlt (by have := HJ.out; omega)
                        | (rw [show ((i : Int) + (m : Int)).toNat = i + m by omega]; exact Nat.sub_lt_sub_left hlt (by omega))
                    · have z5 : ((s[j].toNat : Int) != 10) = true := by rw [hb]; simp; omega
                      have HE := hide he
                      clear hb he hj
                      go_wp2_with fail
                      go_quiet (fail)
                      go_wp2_with fail
                      go_roundw
                      case rel =>
                        refine ⟨m + 1, by go_num, by have := HJ.out; omega, fun j' hj' => ?_, hl4.drewN _, ho4.drewN _⟩
                        by_cases h : j' = m
                        · rw [h, ← HJ.out]; exact HE.out
                        · exact hall2.out j' (by omega)
                      case measure => simp [intOf]; have := HJ.out; omega
                  · have hjs' : decide ((j : Int) < (s.size : Int)) = false := by simp; omega
                    have rm : Run (fun c => c != 10) s i m := ⟨hm, fun j' h' => by have := hall2.out j' h'; simpa using this, fun h => by omega⟩
                    have em : Hid (m = eol s i) := rm.rl
                    have hm2 : 2 ≤ m := by have := em.out; omega
                    clear hj rm
                    go_wp2_with fail
                    go_quiet (fail)
                    go_wp2_with fail
                    refine (mSkip b s i m x4 x5 x6 x7 _ (hl4.drewN _) hs hm).mono ?_
                    rintro e w1 ⟨rfl, hl5, ho5⟩
                    go_wp2_with fail
                    go_roundw
                    case rel => exact ⟨i + m, hm, by have := en.out; rw [← em.out] at this; exact this, hl5, (ho4.drewN _).trans ho5⟩
                    case measure =>
                      have CO := CO1.out
                      simp [hl5.c1, CO, intOf]
                      first
                      | exact Nat.sub_lt_sub_left hlt (by have := HJ.out; omega)
                      | (rw [show ((i : Int) + (m : Int)).toNat = i + m by omega]; exact Nat.sub_lt_sub_left hlt (by omega))
        · go_wp2_with fail
          refine (mNested b s i _ _ x4 x5 x6 x7 _ hl2 hs q3).mono ?_
          rintro e w1 ⟨rfl, rfl⟩
          have hbl3 := HB.out
          rw [if_pos q3] at hbl3
          rcases q4 : nest s i 0 with _ | j
          · have en : Hid (blank s a = (i, false)) := by
              unfold Hid
              rw [← hbl3]
              split
              · rfl
              · rename_i h; rw [q4] at h; cases h
            have n1 : nestN s i = -1 := by unfold nestN; rw [q4]
            rw [n1]
            clear hbl3
            go_wp2_with fail
            refine (mFail b s i _ _ 2 x4 x5 x6 x7 _ hl2).mono ?_
            rintro e w1 ⟨rfl, hl3, ho3⟩
            go_wp2_with fail
            go_ret
            rw [en.out]
            exact ⟨rfl, hi, (fun h => by cases h), fun _ => hl3, ho2.trans ho3⟩
          · have hg := nest_gt _ _ _ q4
            obtain ⟨N, rfl⟩ : ∃ N, j = i + N := ⟨j - i, by omega⟩
            have en : Hid (blank s (i + N) = blank s a) := by
              unfold Hid
              rw [← hbl3]
              split
              · rename_i h; rw [q4] at h; cases h
              · rename_i h; rw [q4] at h; cases h; rfl
            have n1 : nestN s i = (N : Int) := by unfold nestN; rw [q4]; simp; omega
            rw [n1]
            clear hbl3
            go_wp2_with fail
            refine (mSkip b s i N x4 x5 x6 x7 _ hl2 hs (by omega)).mono ?_
            rintro e w1 ⟨rfl, hl3, ho3⟩
            go_wp2_with fail
            go_roundw
            case rel => exact ⟨i + N, by omega, en, hl3, ho2.trans ho3⟩
            case measure =>
              simp [hl3.c1, c1, intOf]
              rw [show ((i : Int) + (N : Int)).toNat = i + N by omega]
              exact Nat.sub_lt_sub_left hlt (by omega)
    · have en : Hid (blank s a = (i, true)) := by
        have := hbl.out
        rw [blank, dif_pos (by omega)] at this
        exact this.symm
      go_wp2_with fail
      go_region
      all_goals go_wp2_with fail
      go_ret
      rw [en.out]
      exact ⟨rfl, hi, fun _ => hl.drewN 1, (fun h => by cases h), ho.drewN 1⟩

end Go.Proofs.YtjfoagmenehapaaGreatDoor

namespace Go.Proofs.YtjfoagmenehapaaGreatDoor
open Go.RowKit Go.Joins

theorem below_alloc1 (w : World) (o : Obj) : Below w.heap.size w (w.alloc o) := ⟨rfl, rfl, rfl, by simp, fun b hb => Below.heap_alloc _ _ _ hb⟩

/-- The texts that are kept, by their place. -/
def wordAt (j : Nat) : ByteArray := (([⟨#[99, 97, 115, 101]⟩, ⟨#[99, 108, 97, 115, 115]⟩, ⟨#[100, 97, 116, 97]⟩, ⟨#[100, 101, 114, 105, 118, 105, 110, 103]⟩, ⟨#[101, 108, 115, 101]⟩, ⟨#[105, 102]⟩, ⟨#[105, 109, 112, 111, 114, 116]⟩, ⟨#[105, 110]⟩, ⟨#[105, 110, 102, 105, 120]⟩, ⟨#[105, 110, 102, 105, 120, 108]⟩, ⟨#[105, 110, 102, 105, 120, 114]⟩, ⟨#[105, 110, 115, 116, 97, 110, 99, 101]⟩, ⟨#[108, 101, 116]⟩, ⟨#[109, 111, 100, 117, 108, 101]⟩, ⟨#[111, 102]⟩, ⟨#[116, 104, 101, 110]⟩, ⟨#[119, 104, 101, 114, 101]⟩, ⟨#[95]⟩] : List ByteArray)[j]?).getD ⟨#[]⟩
def word (t : ByteArray) : Bool := (List.range 18).any (fun j => (wordAt j).toList == t.toList)

theorem word_cell (w : World) (j : Nat) (hj : j < 18) : (w.alloc (.cells #[.string ⟨#[99, 97, 115, 101]⟩, .string ⟨#[99, 108, 97, 115, 115]⟩, .string ⟨#[100, 97, 116, 97]⟩, .string ⟨#[100, 101, 114, 105, 118, 105, 110, 103]⟩, .string ⟨#[101, 108, 115, 101]⟩, .string ⟨#[105, 102]⟩, .string ⟨#[105, 109, 112, 111, 114, 116]⟩, .string ⟨#[105, 110]⟩, .string ⟨#[105, 110, 102, 105, 120]⟩, .string ⟨#[105, 110, 102, 105, 120, 108]⟩, .string ⟨#[105, 110, 102, 105, 120, 114]⟩, .string ⟨#[105, 110, 115, 116, 97, 110, 99, 101]⟩, .string ⟨#[108, 101, 116]⟩, .string ⟨#[109, 111, 100, 117, 108, 101]⟩, .string ⟨#[111, 102]⟩, .string ⟨#[116, 104, 101, 110]⟩, .string ⟨#[119, 104, 101, 114, 101]⟩, .string ⟨#[95]⟩] 9)).cell? ⟨w.heap.size, j, none⟩ = some (.string (wordAt j)) := by
  rcases j with _ | _ | _ | _ | _ | _ | _ | _ | _ | _ | _ | _ | _ | _ | _ | _ | _ | _ | j
  · simp [wordAt]
  · simp [wordAt]
  · simp [wordAt]
  · simp [wordAt]
  · simp [wordAt]
  · simp [wordAt]
  · simp [wordAt]
  · simp [wordAt]
  · simp [wordAt]
  · simp [wordAt]
  · simp [wordAt]
  · simp [wordAt]
  · simp [wordAt]
  · simp [wordAt]
  · simp [wordAt]
  · simp [wordAt]
  · simp [wordAt]
  · simp [wordAt]
  · omega

set_option maxHeartbeats 1000000 in
set_option maxRecDepth 100000 in
theorem mWord (t : ByteArray) (w : World) : Calls Tryz.prog 134 #[.string t] w fun e w' => e = .returned (.bool (word t)) ∧ Below w.heap.size w w' := by
  have hc := hide (word_cell w)
  go_enter Tryz.func134, Tryz.ntmps134
  go_wp2_with fail
  go_loop [7] (fun s7 => ∃ k : Nat, k ≤ 18 ∧ s7 = .int .i64 k ∧ Hid (∀ j, j < k → ((wordAt j).toList == t.toList) = false)) (fun s7 => 18 - (intOf s7).toNat)
  case atStart => exact ⟨0, by omega, rfl, fun j hj => by omega⟩
  case round =>
    obtain ⟨k, hk, rfl, hn⟩ := hrel
    by_cases hlt : k < 18
    · have c1 := hc.out k hlt
      rcases q : ((wordAt k).toList == t.toList) with _ | _
      · go_wp2_with fail
        go_round
        case rel =>
          refine ⟨k + 1, by omega, by go_num, fun j hj => ?_⟩
          by_cases h : j = k
          · rw [h]; exact q
          · exact hn.out j (by omega)
        case measure => simp [intOf]; omega
      · go_wp2_with fail
        go_ret
        refine ⟨ret_b ?_, below_alloc1 _ _⟩
        symm
        unfold word
        rw [List.any_eq_true]
        exact ⟨k, List.mem_range.2 hlt, q⟩
    · obtain rfl : k = 18 := by omega
      go_wp2_with fail
      go_ret
      refine ⟨ret_b ?_, below_alloc1 _ _⟩
      symm
      unfold word
      rw [List.any_eq_false]
      intro j hj
      rw [hn.out j (List.mem_range.1 hj)]
      decide

/-- The texts that are kept, by their place. -/
def markAt (j : Nat) : ByteArray := (([⟨#[61]⟩, ⟨#[124]⟩, ⟨#[45, 62]⟩, ⟨#[60, 45]⟩, ⟨#[92]⟩, ⟨#[58, 58]⟩, ⟨#[61, 62]⟩, ⟨#[46, 46]⟩, ⟨#[64]⟩, ⟨#[126]⟩, ⟨#[33]⟩] : List ByteArray)[j]?).getD ⟨#[]⟩
def mark (t : ByteArray) : Bool := (List.range 11).any (fun j => (markAt j).toList == t.toList)

theorem mark_cell (w : World) (j : Nat) (hj : j < 11) : (w.alloc (.cells #[.string ⟨#[61]⟩, .string ⟨#[124]⟩, .string ⟨#[45, 62]⟩, .string ⟨#[60, 45]⟩, .string ⟨#[92]⟩, .string ⟨#[58, 58]⟩, .string ⟨#[61, 62]⟩, .string ⟨#[46, 46]⟩, .string ⟨#[64]⟩, .string ⟨#[126]⟩, .string ⟨#[33]⟩] 9)).cell? ⟨w.heap.size, j, none⟩ = some (.string (markAt j)) := by
  rcases j with _ | _ | _ | _ | _ | _ | _ | _ | _ | _ | _ | j
  · simp [markAt]
  · simp [markAt]
  · simp [markAt]
  · simp [markAt]
  · simp [markAt]
  · simp [markAt]
  · simp [markAt]
  · simp [markAt]
  · simp [markAt]
  · simp [markAt]
  · simp [markAt]
  · omega

set_option maxHeartbeats 1000000 in
set_option maxRecDepth 100000 in
theorem mMark (t : ByteArray) (w : World) : Calls Tryz.prog 139 #[.string t] w fun e w' => e = .returned (.bool (mark t)) ∧ Below w.heap.size w w' := by
  have hc := hide (mark_cell w)
  go_enter Tryz.func139, Tryz.ntmps139
  go_wp2_with fail
  go_loop [7] (fun s7 => ∃ k : Nat, k ≤ 11 ∧ s7 = .int .i64 k ∧ Hid (∀ j, j < k → ((markAt j).toList == t.toList) = false)) (fun s7 => 11 - (intOf s7).toNat)
  case atStart => exact ⟨0, by omega, rfl, fun j hj => by omega⟩
  case round =>
    obtain ⟨k, hk, rfl, hn⟩ := hrel
    by_cases hlt : k < 11
    · have c1 := hc.out k hlt
      rcases q : ((markAt k).toList == t.toList) with _ | _
      · go_wp2_with fail
        go_round
        case rel =>
          refine ⟨k + 1, by omega, by go_num, fun j hj => ?_⟩
          by_cases h : j = k
          · rw [h]; exact q
          · exact hn.out j (by omega)
        case measure => simp [intOf]; omega
      · go_wp2_with fail
        go_ret
        refine ⟨ret_b ?_, below_alloc1 _ _⟩
        symm
        unfold mark
        rw [List.any_eq_true]
        exact ⟨k, List.mem_range.2 hlt, q⟩
    · obtain rfl : k = 11 := by omega
      go_wp2_with fail
      go_ret
      refine ⟨ret_b ?_, below_alloc1 _ _⟩
      symm
      unfold mark
      rw [List.any_eq_false]
      intro j hj
      rw [hn.out j (List.mem_range.1 hj)]
      decide

end Go.Proofs.YtjfoagmenehapaaGreatDoor

namespace Go.Proofs.YtjfoagmenehapaaGreatDoor
open Go.RowKit Go.Joins

/-- What a byte means behind a backslash. -/
def esc (c : Nat) : Option UInt8 := if c = 110 then some 10 else if c = 92 then some 92 else if c = 39 then some 39 else if c = 34 then some 34 else none

/-- What is meant from a place on up to the mark m, and the place behind it. -/
def quo (s : ByteArray) (m : Nat) (i : Nat) (out : List UInt8) : Option (List UInt8 × Nat) :=
  if s.size ≤ i then none
  else if bt s i = m then some (out, i + 1)
  else if bt s i < 32 ∨ 126 < bt s i then none
  else if bt s i = 92 then
    (if s.size ≤ i + 1 then none else match esc (bt s (i + 1)) with
      | none => none
      | some c => quo s m (i + 2) (out ++ [c]))
  else quo s m (i + 1) (out ++ [UInt8.ofNat (bt s i)])
termination_by s.size - i
decreasing_by all_goals omega

theorem quo_gt {s : ByteArray} {m : Nat} (i : Nat) (out : List UInt8) (t : List UInt8) (j : Nat) (h : quo s m i out = some (t, j)) : i < j ∧ j ≤ s.size ∧ t.length ≤ out.length + (j - i - 1) := by
  rw [quo] at h
  split at h
  · cases h
  · split at h
    · cases h; omega
    · split at h
      · cases h
      · split at h
        · split at h
          · cases h
          · split at h
            · cases h
            · rename_i c _
              have := quo_gt (i + 2) (out ++ [c]) t j h
              simp only [List.length_append, List.length_cons, List.length_nil] at this
              omega
        · have := quo_gt (i + 1) (out ++ [UInt8.ofNat (bt s i)]) t j h
          simp only [List.length_append, List.length_cons, List.length_nil] at this
          omega
termination_by s.size - i
decreasing_by all_goals omega

/-- What is read at a place. -/
inductive Tk where
  | ok (kind : Nat) (text : ByteArray) (n : Nat)
  | bad (code : Nat)

def tok (s : ByteArray) (a : Nat) : Tk :=
  if sml (bt s a) = true ∨ cap (bt s a) = true then
    .ok (if word (s.extract a (a + rl ins s a)) = true then 8 else if cap (bt s a) = true then 2 else 1) (s.extract a (a + rl ins s a)) (rl ins s a)
  else if dig (bt s a) = true then
    (if 300 < rl dig s a ∨ 1 < rl dig s a ∧ bt s a = 48 then .bad 3 else .ok 5 (s.extract a (a + rl dig s a)) (rl dig s a))
  else if bt s a = 39 ∨ bt s a = 34 then
    (match quo s (bt s a) (a + 1) [] with
      | none => .bad 4
      | some (t, j) => if bt s a = 39 ∧ t.length ≠ 1 then .bad 4 else .ok (if bt s a = 39 then 6 else 7) ⟨t.toArray⟩ (j - a))
  else if sym (bt s a) = true then
    .ok (if mark (s.extract a (a + rl sym s a)) = true then 9 else if bt s a = 58 then 4 else 3) (s.extract a (a + rl sym s a)) (rl sym s a)
  else if spc (bt s a) = true then .ok 10 ⟨#[UInt8.ofNat (bt s a)]⟩ 1
  else .bad 1

theorem rl_pos {p : Nat → Bool} {s : ByteArray} {a : Nat} (ha : a < s.size) (h : p (bt s a) = true) : 0 < rl p s a := by
  rw [rl, if_neg (by omega), if_pos h]; omega

theorem ins_of {c : Nat} (h : sml c = true ∨ cap c = true) : ins c = true := by
  unfold ins
  rcases h with h | h <;> rw [h] <;> simp

theorem tok_len {s : ByteArray} {a k n : Nat} {t : ByteArray} (ha : a < s.size) (h : tok s a = .ok k t n) : 0 < n ∧ a + n ≤ s.size ∧ t.size ≤ s.size := by
  unfold tok at h
  have hx : ∀ p : Nat → Bool, p (bt s a) = true → 0 < rl p s a ∧ a + rl p s a ≤ s.size ∧ (s.extract a (a + rl p s a)).size ≤ s.size := fun p hp =>
    ⟨rl_pos ha hp, (rl_run p s a (by omega)).le, by rw [ByteArray.size_extract]; omega⟩
  split at h
  · rename_i h1
    cases h
    exact hx ins (ins_of h1)
  · split at h
    · rename_i h2
      split at h
      · cases h
      · cases h
        exact hx dig h2
    · split at h
      · split at h
        · cases h
        · rename_i t' j hq
          split at h
          · cases h
          · cases h
            have := quo_gt _ _ _ _ hq
            have e : (⟨t'.toArray⟩ : ByteArray).size = t'.length := by simp [ByteArray.size]
            simp only [List.length_nil] at this
            rw [e]
            omega
      · split at h
        · rename_i h4
          cases h
          exact hx sym h4
        · split at h
          · cases h
            have e : (⟨#[UInt8.ofNat (bt s a)]⟩ : ByteArray).size = 1 := rfl
            rw [e]
            omega
          · cases h

theorem blank_ge (s : ByteArray) (a : Nat) (ha : a ≤ s.size) : a ≤ (blank s a).1 ∧ (blank s a).1 ≤ s.size := by
  rw [blank]
  split
  · exact ⟨Nat.le_refl _, ha⟩
  · split
    · have := blank_ge s (a + 1) (by omega)
      omega
    · split
      · split
        · exact ⟨Nat.le_refl _, ha⟩
        · rename_i j h2
          have h3 := nest_gt _ _ _ h2
          have := blank_ge s j (by omega)
          omega
      · split
        · rename_i h3
          have h4 := dash_pos (by omega) h3
          have := blank_ge s (a + eol s a) (by omega)
          omega
        · exact ⟨Nat.le_refl _, ha⟩
termination_by s.size - a
decreasing_by
  · omega
  · omega
  · omega

/-- A token: kind, text, line, column. -/
structure To where
  kind : Nat
  text : ByteArray
  line : Nat
  col : Nat

def To.cells (t : To) : List Value := [.int .i64 t.kind, .string t.text, .int .i64 t.line, .int .i64 t.col]

/-- The tokens from a place on, and how it ends: a code (0: well) and the place. -/
def lexF (s : ByteArray) (a : Nat) : List To × Nat × Nat :=
  if _h : s.size < a then ([], 0, a)
  else if (blank s a).2 = false then ([], 2, (blank s a).1)
  else if _h2 : s.size ≤ (blank s a).1 then ([], 0, (blank s a).1)
  else match _h3 : tok s (blank s a).1 with
    | .bad c => ([], c, (blank s a).1)
    | .ok k t n => (⟨k, t, pl s (blank s a).1, pc s (blank s a).1⟩ :: (lexF s ((blank s a).1 + n)).1, (lexF s ((blank s a).1 + n)).2)
termination_by s.size - a
decreasing_by
  all_goals
    have h4 := tok_len (by omega) _h3
    have h5 := blank_ge s a (by omega)
    omega

end Go.Proofs.YtjfoagmenehapaaGreatDoor

namespace Go.Proofs.YtjfoagmenehapaaGreatDoor
open Go.RowKit Go.Joins

theorem lex_of_blank {s : ByteArray} {p q : Nat} (hp : p ≤ s.size) (hq : q ≤ s.size) (h : blank s p = blank s q) : lexF s p = lexF s q := by
  rw [lexF, dif_neg (by omega), h]
  conv => rhs; rw [lexF, dif_neg (by omega)]

theorem blank_skip {s : ByteArray} {p : Nat} (hp : p < s.size) (h : bt s p = 32 ∨ bt s p = 10) : blank s p = blank s (p + 1) := by
  rw [blank, dif_neg (by omega), if_pos h]

theorem lex_skip {s : ByteArray} {p : Nat} (hp : p < s.size) (h : bt s p = 32 ∨ bt s p = 10) : lexF s p = lexF s (p + 1) :=
  lex_of_blank (by omega) (by omega) (blank_skip hp h)

theorem two_bt {s : ByteArray} {p x y : Nat} (h : two s p x y = true) : bt s p = x ∧ bt s (p + 1) = y := by
  unfold two at h
  simp only [Bool.and_eq_true, decide_eq_true_eq, beq_iff_eq] at h
  exact h.2

theorem blank_nest {s : ByteArray} {p : Nat} (hp : p < s.size) (h : two s p 123 45 = true) : blank s p = match nest s p 0 with | none => (p, false) | some j => blank s j := by
  have h1 := two_bt h
  rw [blank, dif_neg (by omega), if_neg (by omega), if_pos h]
  split <;> rename_i e <;> rw [e]

theorem lex_nest {s : ByteArray} {p j : Nat} (hp : p < s.size) (h : two s p 123 45 = true) (hn : nest s p 0 = some j) : lexF s p = lexF s j := by
  have h1 := nest_gt _ _ _ hn
  refine lex_of_blank (by omega) (by omega) ?_
  rw [blank_nest hp h, hn]

theorem lex_open {s : ByteArray} {p : Nat} (hp : p < s.size) (h : two s p 123 45 = true) (hn : nest s p 0 = none) : lexF s p = ([], 2, p) := by
  have h1 := blank_nest hp h
  rw [hn] at h1
  rw [lexF, dif_neg (by omega), h1, if_pos rfl]

theorem lex_dash {s : ByteArray} {p : Nat} (hp : p < s.size) (h1 : ¬ (bt s p = 32 ∨ bt s p = 10)) (h2 : two s p 123 45 = false) (h3 : dash s p = true) : lexF s p = lexF s (p + eol s p) := by
  have h4 := dash_pos (by omega) h3
  refine lex_of_blank (by omega) (by omega) ?_
  rw [blank, dif_neg (by omega), if_neg h1, if_neg (by rw [h2]; decide), dif_pos h3]

theorem blank_stop {s : ByteArray} {p : Nat} (hp : p < s.size) (h1 : ¬ (bt s p = 32 ∨ bt s p = 10)) (h2 : two s p 123 45 = false) (h3 : dash s p = false) : blank s p = (p, true) := by
  rw [blank, dif_neg (by omega), if_neg h1, if_neg (by rw [h2]; decide), dif_neg (by rw [h3]; decide)]

theorem lex_bad {s : ByteArray} {p c : Nat} (hp : p < s.size) (hb : blank s p = (p, true)) (ht : tok s p = .bad c) : lexF s p = ([], c, p) := by
  rw [lexF, dif_neg (by omega), hb, if_neg (by simp), dif_neg (by simp only; omega)]
  simp only
  split
  · rename_i e; rw [ht] at e; cases e; rfl
  · rename_i e; rw [ht] at e; cases e

theorem lex_ok {s : ByteArray} {p k n : Nat} {t : ByteArray} (hp : p < s.size) (hb : blank s p = (p, true)) (ht : tok s p = .ok k t n) :
    lexF s p = (⟨k, t, pl s p, pc s p⟩ :: (lexF s (p + n)).1, (lexF s (p + n)).2) := by
  rw [lexF, dif_neg (by omega), hb, if_neg (by simp), dif_neg (by simp only; omega)]
  simp only
  split
  · rename_i e; rw [ht] at e; cases e
  · rename_i e; rw [ht] at e; cases e; rfl

theorem lex_end {s : ByteArray} : lexF s s.size = ([], 0, s.size) := by
  have hb : blank s s.size = (s.size, true) := by rw [blank, dif_pos (Nat.le_refl _)]
  rw [lexF, dif_neg (by omega), hb, if_neg (by simp), dif_pos (by simp only; omega)]

end Go.Proofs.YtjfoagmenehapaaGreatDoor

