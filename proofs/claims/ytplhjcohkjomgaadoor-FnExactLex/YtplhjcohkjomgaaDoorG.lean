import Derived.Test.YtplhjcohkjomgaaDoorF
import Derived.Deep.DeepCutAuto
namespace Go.Proofs.YtplhjcohkjomgaaDoor
open Go.RowKit Go.Joins

set_option maxHeartbeats 4000000 in
set_option maxRecDepth 100000 in
theorem mBlank (b : Nat) (s : ByteArray) (a : Nat) (x4 x5 x6 x7 : Value) (w : World) (h : Lx w b s a (pl s a) (pc s a) x4 x5 x6 x7) (hs : s.size ≤ 1048576) (ha : a ≤ s.size) :
    Calls Tryd.prog 23 #[.pointer (some ⟨b, 0, none⟩)] w fun e w' => e = .returned (.bool (blank s a).2) ∧ (blank s a).1 ≤ s.size ∧
      ((blank s a).2 = true → Lx w' b s (blank s a).1 (pl s (blank s a).1) (pc s (blank s a).1) x4 x5 x6 x7) ∧
      ((blank s a).2 = false → Lx w' b s (blank s a).1 (pl s (blank s a).1) (pc s (blank s a).1) (.int .i64 2) (.int .i64 (pl s (blank s a).1)) (.int .i64 (pc s (blank s a).1)) (.slice none 0 0)) ∧ Only b w w' := by
  go_enter Tryd.func23, Tryd.ntmps23
  go_wp2_with fail
  go_loopw [3, 4, 5, 6, 7] (fun _ _ _ _ _ wr => ∃ i : Nat, i ≤ s.size ∧ Hid (blank s i = blank s a) ∧ Lx wr b s i (pl s i) (pc s i) x4 x5 x6 x7 ∧ Only b w wr) (fun _ _ _ _ _ wr => s.size - (match wr.cell? ⟨b, 1, none⟩ with | some v => (intOf v).toNat | none => 0))
  case atStart => exact ⟨a, ha, rfl, h, Only.refl _ _⟩
  case round =>
    clear h
    obtain ⟨i, hi, hbl, hl, ho⟩ := hrel
    obtain ⟨c0, c1, c2, c3, c4, c5, c6, c7, fr, lt⟩ := id hl
    by_cases hlt : i < s.size
    · have hb := bt_in hlt
      by_cases q1 : bt s i = 32 ∨ bt s i = 10
      · have en : Hid (blank s (i + 1) = blank s a) := by
          have := hbl.out
          rw [blank, dif_neg (by omega), if_pos q1] at this
          exact this
        by_cases q2 : bt s i = 32
        · have z1 : ((s[i].toNat : Int) == 32) = true := by rw [hb, q2]; rfl
          clear hb q1 q2
          go_wp2_with fail
          go_region
          all_goals go_wp2_with fail
          go_region
          all_goals go_wp2_with fail
          have hl2 := (hl.drewN 1).drewN 1
          have ho2 := (ho.drewN 1).drewN 1
          refine (mSkip b s i 1 x4 x5 x6 x7 _ hl2 hs (by omega)).mono ?_
          rintro e w1 ⟨rfl, hl3, ho3⟩
          go_wp2_with fail
          go_roundw
          case rel => exact ⟨i + 1, by omega, en, hl3, ho2.trans ho3⟩
          case measure =>
            simp [hl3.c1, c1, intOf]
            exact Nat.sub_lt_sub_left hlt (Nat.lt_succ_self i)
        · have z1 : ((s[i].toNat : Int) == 32) = false := by rw [hb]; simp; omega
          have z2 : ((s[i].toNat : Int) == 10) = true := by rw [hb, q1.resolve_left q2]; rfl
          clear hb q1 q2
          go_wp2_with fail
          go_region
          all_goals go_wp2_with fail
          go_region
          all_goals go_wp2_with fail
          have hl2 := (hl.drewN 1).drewN 1
          have ho2 := (ho.drewN 1).drewN 1
          refine (mSkip b s i 1 x4 x5 x6 x7 _ hl2 hs (by omega)).mono ?_
          rintro e w1 ⟨rfl, hl3, ho3⟩
          go_wp2_with fail
          go_roundw
          case rel => exact ⟨i + 1, by omega, en, hl3, ho2.trans ho3⟩
          case measure =>
            simp [hl3.c1, c1, intOf]
            exact Nat.sub_lt_sub_left hlt (Nat.lt_succ_self i)
      · have z1 : ((s[i].toNat : Int) == 32) = false := by rw [hb]; simp; omega
        have z2 : ((s[i].toNat : Int) == 10) = false := by rw [hb]; simp; omega
        have hbl2 := hbl.out
        rw [blank, dif_neg (by omega), if_neg q1] at hbl2
        have HB := hide hbl2
        clear hb q1 hbl2
        go_wp2_with fail
        go_region
        all_goals go_wp2_with fail
        go_region
        all_goals go_wp2_with fail
        have hl2 := (hl.drewN 1).drewN 1
        have ho2 := (ho.drewN 1).drewN 1
        refine (mTwo b s 123 45 i i _ _ x4 x5 x6 x7 _ hl2 hs (by omega)).mono ?_
        rintro e w1 ⟨rfl, rfl⟩
        rw [show (123 : UInt8).toNat = 123 from rfl, show (45 : UInt8).toNat = 45 from rfl]
        rcases q3 : two s i 123 45 with _ | _
        · have hbl3 := HB.out
          rw [if_neg (by rw [q3]; decide)] at hbl3
          have HB3 := hide hbl3
          clear hbl3 HB
          go_upto_region 11 with fail
          go_cut [5] (fun s5 wx => ∃ n : Nat, s5 = .int .i64 n ∧ Run sym s i n ∧ Lx wx b s i (pl s i) (pc s i) x4 x5 x6 x7 ∧ Only b w wx)
          case first =>
            go_region_with (go_at_call 41; refine (mRun1 s i _ hs (by omega)).mono ?_; rintro e w1 ⟨⟨n, rfl, hr⟩, rfl⟩)
            all_goals
              go_wp2_with fail
              go_meet
              case rel => exact ⟨n, rfl, hr, hl2.drewN 1, ho2.drewN 1⟩
          case rest =>
          obtain ⟨n, rfl, hr, hl3, ho3⟩ := hcut
          rename World => wx
          have hrle := hr.le
          have HR := hide hr
          have CO1 := hide c1
          clear hl2 ho2 hl ho c0 c1 c2 c3 c4 c5 c6 c7 fr lt hr
          go_wp2_with fail
          go_loopw [6] (fun s6 wz => ∃ k : Nat, s6 = .int .i64 k ∧ k ≤ n ∧ Hid (∀ j, j < k → bt s (i + j) = 45) ∧ Lx wz b s i (pl s i) (pc s i) x4 x5 x6 x7 ∧ Only b w wz) (fun s6 _ => n - (intOf s6).toNat)
          case atStart => exact ⟨0, rfl, Nat.zero_le _, (fun j hj => by omega), hl3, ho3⟩
          case round =>
            clear hl3 ho3
            obtain ⟨k, rfl, hk, hall, hl, ho⟩ := hrel
            obtain ⟨c0, c1, c2, c3, c4, c5, c6, c7, fr, lt⟩ := id hl
            by_cases hkn : k < n
            · obtain ⟨j, hj⟩ : ∃ j, j = i + k := ⟨_, rfl⟩
              have hsum : (i : Int) + (k : Int) = (j : Int) := by omega
              have hik : j < s.size := by omega
              have hkn' : (k : Int) < (n : Int) := by omega
              have hb := bt_in hik
              have HJ := hide hj
              by_cases he : bt s j = 45
              · have z3 : ((s[j].toNat : Int) == 45) = true := by rw [hb, he]; rfl
                have HE := hide he
                clear hb he hj
                go_wp2_with fail
                go_quiet (fail)
                go_wp2_with fail
                go_roundw
                case rel =>
                  refine ⟨k + 1, by go_num, by omega, fun j' hj' => ?_, hl.drewN _, ho.drewN _⟩
                  by_cases h : j' = k
                  · rw [h, ← HJ.out]; exact HE.out
                  · exact hall.out j' (by omega)
                case measure => simp [intOf]; omega
              · have z3 : ((s[j].toNat : Int) == 45) = false := by rw [hb]; simp; omega
                have rk : Run (fun c => c == 45) s i k := ⟨by omega, fun j' hj' => by simp [hall.out j' hj'], fun _ => by rw [← hj]; simpa using he⟩
                have hd : dash s i = false := by unfold dash; rw [← rk.rl, ← HR.out.rl]; simp; omega
                have en : Hid (blank s a = (i, true)) := by
                  have := HB3.out
                  rw [dif_neg (by rw [hd]; decide)] at this
                  exact this.symm
                clear hb he hj rk hd
                by_cases hk2 : k < 2
                · have hk2' : (k : Int) < 2 := by omega
                  go_wp2_with fail
                  go_quiet (fail)
                  go_wp2_with fail
                  go_ret
                  rw [en.out]
                  exact ⟨rfl, hi, fun _ => hl.drewN _, (fun h => by cases h), ho.drewN _⟩
                · have hk2' : decide ((k : Int) < 2) = false := by simp; omega
                  have hkn2 : ((k : Int) != (n : Int)) = true := by simp; omega
                  go_wp2_with fail
                  go_quiet (fail)
                  go_wp2_with fail
                  go_ret
                  rw [en.out]
                  exact ⟨rfl, hi, fun _ => hl.drewN _, (fun h => by cases h), ho.drewN _⟩
            · obtain rfl : n = k := by omega
              have hkf : decide ((n : Int) < (n : Int)) = false := by simp
              have rk : Run (fun c => c == 45) s i n := ⟨hrle, fun j' hj' => by simp [hall.out j' hj'], fun hx => by
                have := HR.out.stop hx
                rcases hc : (bt s (i + n) == 45) with _ | _
                · rfl
                · simp only [beq_iff_eq] at hc
                  rw [hc] at this
                  revert this
                  decide⟩
              by_cases hk2 : n < 2
              · have hd : dash s i = false := by unfold dash; rw [← rk.rl]; simp; omega
                have en : Hid (blank s a = (i, true)) := by
                  have := HB3.out
                  rw [dif_neg (by rw [hd]; decide)] at this
                  exact this.symm
                have hk2' : (n : Int) < 2 := by omega
                clear rk hd
                go_wp2_with fail
                go_quiet (fail)
                go_wp2_with fail
                go_ret
                rw [en.out]
                exact ⟨rfl, hi, fun _ => hl.drewN _, (fun h => by cases h), ho.drewN _⟩
              · have hd : dash s i = true := by unfold dash; rw [← rk.rl, ← HR.out.rl]; simp; omega
                have hde := dash_pos hi hd
                have en : Hid (blank s (i + eol s i) = blank s a) := by
                  have := HB3.out
                  rw [dif_pos hd] at this
                  exact this
                have hk2' : decide ((n : Int) < 2) = false := by simp; omega
                have hkn2 : ((n : Int) != (n : Int)) = false := by simp
                clear rk hd
                go_wp2_with fail
                go_quiet (fail)
                go_wp2_with fail
                go_loopw [7] (fun s7 wy => ∃ m : Nat, s7 = .int .i64 m ∧ i + m ≤ s.size ∧ Hid (∀ j, j < m → bt s (i + j) ≠ 10) ∧ Lx wy b s i (pl s i) (pc s i) x4 x5 x6 x7 ∧ Only b w wy) (fun s7 _ => s.size - (intOf s7).toNat)
                case atStart => exact ⟨0, rfl, by omega, (fun j hj => by omega), hl.drewN _, ho.drewN _⟩
                case round =>
                  clear hl ho c0 c1 c2 c3 c4 c5 c6 c7 fr lt
                  obtain ⟨m, rfl, hm, hall2, hl4, ho4⟩ := hrel
                  obtain ⟨c0, c1, c2, c3, c4, c5, c6, c7, fr, lt⟩ := id hl4
                  obtain ⟨j, hj⟩ : ∃ j, j = i + m := ⟨_, rfl⟩
                  have hsum : (i : Int) + (m : Int) = (j : Int) := by omega
                  have HJ := hide hj
                  by_cases hjs : j < s.size
                  · have hb := bt_in hjs
                    have hjs' : (j : Int) < (s.size : Int) := by omega
                    by_cases he : bt s j = 10
                    · have z5 : ((s[j].toNat : Int) != 10) = false := by rw [hb, he]; rfl
                      have rm : Run (fun c => c != 10) s i m := ⟨hm, fun j' h' => by have := hall2.out j' h'; simpa using this, fun _ => by rw [← hj, he]; rfl⟩
                      have em : Hid (m = eol s i) := rm.rl
                      have hm2 : 2 ≤ m := by have := em.out; omega
                      clear hb he hj rm
                      go_wp2_with fail
                      go_quiet (fail)
                      go_wp2_with fail
                      refine (mSkip b s i m x4 x5 x6 x7 _ (hl4.drewN _) hs hm).mono ?_
                      rintro e w1 ⟨rfl, hl5, ho5⟩
                      go_wp2_with fail
                      go_roundw
                      case rel => exact ⟨i + m, hm, by have := en.out; rw [← em.out] at this; exact this, hl5, (ho4.drewN _).trans ho5⟩
                      case measure =>
                        have CO := CO1.out
                        simp [hl5.c1, CO, intOf]
                        first
                        | exact Nat.sub_lt_sub_left hlt (by have := HJ.out; omega)
                        | (rw [show ((i : Int) + (m : Int)).toNat = i + m by omega]; exact Nat.sub_lt_sub_left hlt (by omega))
                    · have z5 : ((s[j].toNat : Int) != 10) = true := by rw [hb]; simp; omega
                      have HE := hide he
                      clear hb he hj
                      go_wp2_with fail
                      go_quiet (fail)
                      go_wp2_with fail
                      go_roundw
                      case rel =>
                        refine ⟨m + 1, by go_num, by have := HJ.out; omega, fun j' hj' => ?_, hl4.drewN _, ho4.drewN _⟩
                        by_cases h : j' = m
                        · rw [h, ← HJ.out]; exact HE.out
                        · exact hall2.out j' (by omega)
                      case measure => simp [intOf]; have := HJ.out; omega
                  · have hjs' : decide ((j : Int) < (s.size : Int)) = false := by simp; omega
                    have rm : Run (fun c => c != 10) s i m := ⟨hm, fun j' h' => by have := hall2.out j' h'; simpa using this, fun h => by omega⟩
                    have em : Hid (m = eol s i) := rm.rl
                    have hm2 : 2 ≤ m := by have := em.out; omega
                    clear hj rm
                    go_wp2_with fail
                    go_quiet (fail)
                    go_wp2_with fail
                    refine (mSkip b s i m x4 x5 x6 x7 _ (hl4.drewN _) hs hm).mono ?_
                    rintro e w1 ⟨rfl, hl5, ho5⟩
                    go_wp2_with fail
                    go_roundw
                    case rel => exact ⟨i + m, hm, by have := en.out; rw [← em.out] at this; exact this, hl5, (ho4.drewN _).trans ho5⟩
                    case measure =>
                      have CO := CO1.out
                      simp [hl5.c1, CO, intOf]
                      first
                      | exact Nat.sub_lt_sub_left hlt (by have := HJ.out; omega)
                      | (rw [show ((i : Int) + (m : Int)).toNat = i + m by omega]; exact Nat.sub_lt_sub_left hlt (by omega))
        · go_wp2_with fail
          refine (mNested b s i _ _ x4 x5 x6 x7 _ hl2 hs q3).mono ?_
          rintro e w1 ⟨rfl, rfl⟩
          have hbl3 := HB.out
          rw [if_pos q3] at hbl3
          rcases q4 : nest s i 0 with _ | j
          · have en : Hid (blank s a = (i, false)) := by
              unfold Hid
              rw [← hbl3]
              split
              · rfl
              · rename_i h; rw [q4] at h; cases h
            have n1 : nestN s i = -1 := by unfold nestN; rw [q4]
            rw [n1]
            clear hbl3
            go_wp2_with fail
            refine (mFail b s i _ _ 2 x4 x5 x6 x7 _ hl2).mono ?_
            rintro e w1 ⟨rfl, hl3, ho3⟩
            go_wp2_with fail
            go_ret
            rw [en.out]
            exact ⟨rfl, hi, (fun h => by cases h), fun _ => hl3, ho2.trans ho3⟩
          · have hg := nest_gt _ _ _ q4
            obtain ⟨N, rfl⟩ : ∃ N, j = i + N := ⟨j - i, by omega⟩
            have en : Hid (blank s (i + N) = blank s a) := by
              unfold Hid
              rw [← hbl3]
              split
              · rename_i h; rw [q4] at h; cases h
              · rename_i h; rw [q4] at h; cases h; rfl
            have n1 : nestN s i = (N : Int) := by unfold nestN; rw [q4]; simp; omega
            rw [n1]
            clear hbl3
            go_wp2_with fail
            refine (mSkip b s i N x4 x5 x6 x7 _ hl2 hs (by omega)).mono ?_
            rintro e w1 ⟨rfl, hl3, ho3⟩
            go_wp2_with fail
            go_roundw
            case rel => exact ⟨i + N, by omega, en, hl3, ho2.trans ho3⟩
            case measure =>
              simp [hl3.c1, c1, intOf]
              rw [show ((i : Int) + (N : Int)).toNat = i + N by omega]
              exact Nat.sub_lt_sub_left hlt (by omega)
    · have en : Hid (blank s a = (i, true)) := by
        have := hbl.out
        rw [blank, dif_pos (by omega)] at this
        exact this.symm
      go_wp2_with fail
      go_region
      all_goals go_wp2_with fail
      go_ret
      rw [en.out]
      exact ⟨rfl, hi, fun _ => hl.drewN 1, (fun h => by cases h), ho.drewN 1⟩

end Go.Proofs.YtplhjcohkjomgaaDoor
