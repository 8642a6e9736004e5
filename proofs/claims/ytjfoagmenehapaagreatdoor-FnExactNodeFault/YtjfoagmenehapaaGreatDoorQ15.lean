import Derived.Test.YtjfoagmenehapaaGreatDoorQ10
namespace Go.Proofs.YtjfoagmenehapaaGreatDoor
open Go.RowKit Go.Joins

set_option maxHeartbeats 4000000 in
set_option maxRecDepth 100000 in
theorem mTokDig (b : Nat) (s : ByteArray) (a : Nat) (x4 x5 x6 : Value) (ao : Option Addr) (cp n : Nat) (T : List To) (w : World) (h : Lx w b s a (pl s a) (pc s a) x4 x5 x6 (.slice ao n cp)) (hT : TR (b + 1) w ao cp n T)
    (hl : T.length ≤ 1048576) (hs : s.size ≤ 1048576) (ha : a < s.size) (n1 : sml (bt s a) = false) (n2 : cap (bt s a) = false) (n3 : dig (bt s a) = true) :
    Calls Tryz.prog 110 #[.pointer (some ⟨b, 0, none⟩)] w (TokPost s a b x4 x5 x6 n T w) := by
  obtain ⟨c0, c1, c2, c3, c4, c5, c6, c7, fr, lt⟩ := id h
  have ha' : (a : Int) < s.size := by omega
  have HB := hide (bt_in ha)
  have hb0 := bt_le s a
  have HTok : Hid (tok s a = if 300 < rl dig s a ∨ 1 < rl dig s a ∧ bt s a = 48 then .bad 3 else .ok 5 (s.extract a (a + rl dig s a)) (rl dig s a)) := by
    unfold Hid tok
    rw [if_neg (by rw [n1, n2]; decide)]
    rw [if_pos n3]
  have hrun := rl_run dig s a (by omega)
  have hrle := hrun.le
  clear hrun
  go_enter Tryz.func110, Tryz.ntmps110
  go_wp2_with fail
  go_region
  all_goals go_upto_region 4 with fail
  rw [HB.out]
  have hTd : TR (b + 1) w.drew ao cp n T := hT.drewN 1
  have hLd : Lx w.drew b s a (pl s a) (pc s a) x4 x5 x6 (.slice ao n cp) := h.drewN 1
  have hBd : Below w.heap.size w w.drew := (Below.refl _ w).drew
  clear HB
  go_wp2_with (first | (go_at_call 132; refine (mSmall _ _).mono ?_; rintro e w1 ⟨rfl, hw1⟩; obtain rfl : w.drew = w1 := hw1.symm; rw [n1]) | (go_at_call 133; refine (mCapital _ _).mono ?_; rintro e w1 ⟨rfl, hw1⟩; obtain rfl : w.drew = w1 := hw1.symm; rw [n2]) | (go_at_call 136; refine (mDigit _ _).mono ?_; rintro e w1 ⟨rfl, hw1⟩; obtain rfl : w.drew = w1 := hw1.symm; rw [n3]))
  generalize hr : rl dig s a = r at *
  obtain ⟨j, hj⟩ : ∃ j, j = a + r := ⟨_, rfl⟩
  have hsum : (a : Int) + (r : Int) = (j : Int) := by omega
  have hjs : (j : Int) ≤ s.size := by omega
  have haj : (a : Int) ≤ j := by omega
  rw [← hj] at HTok hrle
  have HR : Hid (rl dig s a = r) := hr
  have HJ := hide hj
  clear hr hj
  go_cut [7] (fun s7 wx => s7 = .int .i64 r ∧ Lx wx b s a (pl s a) (pc s a) x4 x5 x6 (.slice ao n cp) ∧ TR (b + 1) wx ao cp n T ∧ Below w.heap.size w wx)
  case first =>
    go_region_with (go_at_call 131; refine (mRun2 s a _ hs (by omega)).mono ?_; rintro e w1 ⟨⟨r', rfl, hr'⟩, rfl⟩; obtain rfl : r = r' := by rw [hr'.rl]; exact HR.out.symm)
    all_goals
      go_wp2_with fail
      go_meet
      case rel => exact ⟨rfl, hLd.drewN 1, hTd.drewN 1, hBd.drew⟩
  case rest =>
    obtain ⟨rfl, hL5, hT5, hB5⟩ := hcut
    rename World => w5
    clear hTd hLd hBd c0 c1 c2 c3 c4 c5 c6 c7 fr
    obtain ⟨c0, c1, c2, c3, c4, c5, c6, c7, fr, lt5⟩ := id hL5
    by_cases hbad : 300 < r ∨ 1 < r ∧ bt s a = 48
    · have HT2 : Hid (tok s a = .bad 3) := by unfold Hid; rw [HTok.out, if_pos hbad]
      have fin : ∀ w2, Lx w2 b s a (pl s a) (pc s a) (.int .i64 3) (.int .i64 (pl s a)) (.int .i64 (pc s a)) (.slice none 0 0) ∧ Only b w5 w2 → TokPost s a b x4 x5 x6 n T w (.returned (.bool false)) w2 := fun w2 h2 =>
        TokPost.bad HT2.out ⟨rfl, h2.1, (hB5.mono (Nat.le_of_lt lt)).trans (h2.2.below (Nat.le_refl b))⟩
      have FIN := hide fin
      clear fin
      by_cases h3 : 300 < r
      · have y1 : decide (300 < (r : Int)) = true := by simp; omega
        clear h3 hbad HTok
        go_wp2_with fail
        refine (mFail b s a _ _ 3 _ _ _ _ _ hL5).mono ?_
        rintro e w2 ⟨rfl, h2, o2⟩
        go_wp2_with fail
        go_ret
        exact FIN.out w2 ⟨h2, o2⟩
      · have y1 : decide (300 < (r : Int)) = false := by simp; omega
        have y2 : decide (1 < (r : Int)) = true := by simp; omega
        have y3 : ((bt s a : Int) == 48) = true := by simp; omega
        clear h3 hbad HTok
        go_wp2_with fail
        refine (mFail b s a _ _ 3 _ _ _ _ _ hL5).mono ?_
        rintro e w2 ⟨rfl, h2, o2⟩
        go_wp2_with fail
        go_ret
        exact FIN.out w2 ⟨h2, o2⟩
    · have HT2 : Hid (tok s a = .ok 5 (s.extract a j) r) := by unfold Hid; rw [HTok.out, if_neg hbad]
      have hput : ∀ w7, Below w5.heap.size w5 w7 → Calls Tryz.prog 135 #[.pointer (some ⟨b, 0, none⟩), .int .i64 (5 : Nat), .string (s.extract a j), .int .i64 r] w7 fun e w' => e = .returned (.tuple #[]) ∧ TokPost s a b x4 x5 x6 n T w (.returned (.bool true)) w' := fun w7 b7 => by
        have z6 := hB5.size
        have z7 := b7.size
        refine (mPut b s a r x4 x5 x6 ao cp n T 5 (s.extract a j) w7 (hL5.below b7 hL5.lt) (hT5.below b7) hl hs (by rw [← HJ.out]; exact hrle)).mono ?_
        rintro e w8 ⟨rfl, h8, b8⟩
        exact ⟨rfl, TokPost.ok HT2.out ⟨rfl, h8, ((hB5.mono (Nat.le_of_lt lt)).trans (b7.mono (by omega))).trans b8⟩⟩
      have HP := hide hput
      have hd5 : Below w5.heap.size w5 w5.drew := (Below.refl _ _).drew
      clear hput HTok
      have hwr : IntKind.i64.wrap (j : Int) = (j : Int) := by simp [IntKind.wrap, IntKind.bits, IntKind.signed]; omega
      have haj' : a ≤ j := by omega
      have hjs' : j ≤ s.size := hrle
      have y1 : decide (300 < (r : Int)) = false := by simp; omega
      by_cases h1 : 1 < r
      · have y2 : decide (1 < (r : Int)) = true := by simp; omega
        have y3 : ((bt s a : Int) == 48) = false := by simp; omega
        clear h1 hbad
        go_wp2_with fail
        go_region_with (go_at_call 135; refine (HP.out _ hd5).mono ?_; rintro e w8 ⟨rfl, h8⟩)
        all_goals
          go_wp2_with fail
          go_ret
          exact h8
      · have y2 : decide (1 < (r : Int)) = false := by simp; omega
        clear h1 hbad
        go_wp2_with fail
        go_region_with (go_at_call 135; refine (HP.out _ hd5).mono ?_; rintro e w8 ⟨rfl, h8⟩)
        all_goals
          go_wp2_with fail
          go_ret
          exact h8

end Go.Proofs.YtjfoagmenehapaaGreatDoor

