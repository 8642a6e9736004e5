import Derived.Test.YtjfoagmenehapaaGreatDoorQ10
import Derived.Test.YtjfoagmenehapaaGreatDoorQ14
import Derived.Test.YtjfoagmenehapaaGreatDoorQ15
namespace Go.Proofs.YtjfoagmenehapaaGreatDoor
open Go.RowKit Go.Joins

set_option maxHeartbeats 4000000 in
set_option maxRecDepth 100000 in
theorem mTokSym (b : Nat) (s : ByteArray) (a : Nat) (x4 x5 x6 : Value) (ao : Option Addr) (cp n : Nat) (T : List To) (w : World) (h : Lx w b s a (pl s a) (pc s a) x4 x5 x6 (.slice ao n cp)) (hT : TR (b + 1) w ao cp n T)
    (hl : T.length ≤ 1048576) (hs : s.size ≤ 1048576) (ha : a < s.size) (n1 : sml (bt s a) = false) (n2 : cap (bt s a) = false) (n3 : dig (bt s a) = false) (z1 : ((bt s a : Int) == 39) = false) (z2 : ((bt s a : Int) == 34) = false) (n4 : sym (bt s a) = true) :
    Calls Tryz.prog 110 #[.pointer (some ⟨b, 0, none⟩)] w (TokPost s a b x4 x5 x6 n T w) := by
  obtain ⟨c0, c1, c2, c3, c4, c5, c6, c7, fr, lt⟩ := id h
  have ha' : (a : Int) < s.size := by omega
  have HB := hide (bt_in ha)
  have hb0 := bt_le s a
  have HTok : Hid (tok s a = .ok (if mark (s.extract a (a + rl sym s a)) = true then 9 else if bt s a = 58 then 4 else 3) (s.extract a (a + rl sym s a)) (rl sym s a)) := by
    unfold Hid tok
    rw [if_neg (by rw [n1, n2]; decide)]
    rw [if_neg (by rw [n3]; decide), if_neg (by simp at z1 z2; omega), if_pos n4]
  have hrun := rl_run sym s a (by omega)
  have hrle := hrun.le
  clear hrun
  go_enter Tryz.func110, Tryz.ntmps110
  go_wp2_with fail
  go_region
  all_goals go_upto_region 4 with fail
  rw [HB.out]
  have hTd : TR (b + 1) w.drew ao cp n T := hT.drewN 1
  have hLd : Lx w.drew b s a (pl s a) (pc s a) x4 x5 x6 (.slice ao n cp) := h.drewN 1
  have hBd : Below w.heap.size w w.drew := (Below.refl _ w).drew
  clear HB
  go_wp2_with (first | (go_at_call 132; refine (mSmall _ _).mono ?_; rintro e w1 ⟨rfl, hw1⟩; obtain rfl : w.drew = w1 := hw1.symm; rw [n1]) | (go_at_call 133; refine (mCapital _ _).mono ?_; rintro e w1 ⟨rfl, hw1⟩; obtain rfl : w.drew = w1 := hw1.symm; rw [n2]) | (go_at_call 136; refine (mDigit _ _).mono ?_; rintro e w1 ⟨rfl, hw1⟩; obtain rfl : w.drew = w1 := hw1.symm; rw [n3]) | (go_at_call 138; refine (mSymbol _ _).mono ?_; rintro e w1 ⟨rfl, hw1⟩; obtain rfl : w.drew = w1 := hw1.symm; rw [n4]))
  generalize hr : rl sym s a = r at *
  obtain ⟨j, hj⟩ : ∃ j, j = a + r := ⟨_, rfl⟩
  have hsum : (a : Int) + (r : Int) = (j : Int) := by omega
  have hjs : (j : Int) ≤ s.size := by omega
  have haj : (a : Int) ≤ j := by omega
  rw [← hj] at HTok hrle
  have HR : Hid (rl sym s a = r) := hr
  have HJ := hide hj
  clear hr hj
  go_cut [11] (fun s11 wx => s11 = .int .i64 r ∧ Lx wx b s a (pl s a) (pc s a) x4 x5 x6 (.slice ao n cp) ∧ TR (b + 1) wx ao cp n T ∧ Below w.heap.size w wx)
  case first =>
    go_region_with (go_at_call 131; refine (mRun1 s a _ hs (by omega)).mono ?_; rintro e w1 ⟨⟨r', rfl, hr'⟩, rfl⟩; obtain rfl : r = r' := by rw [hr'.rl]; exact HR.out.symm)
    all_goals
      go_wp2_with fail
      go_meet
      case rel => exact ⟨rfl, hLd.drewN 1, hTd.drewN 1, hBd.drew⟩
  case rest =>
    obtain ⟨rfl, hL5, hT5, hB5⟩ := hcut
    rename World => w5
    clear hTd hLd hBd c0 c1 c2 c3 c4 c5 c6 c7 fr
    obtain ⟨c0, c1, c2, c3, c4, c5, c6, c7, fr, lt5⟩ := id hL5
    go_upto_region 30 with fail
    go_cut [12] (fun s12 wx => s12 = .string (s.extract a j) ∧ Lx wx b s a (pl s a) (pc s a) x4 x5 x6 (.slice ao n cp) ∧ TR (b + 1) wx ao cp n T ∧ Below w.heap.size w wx)
    case first =>
      go_region
      all_goals
        go_wp2_with fail
        go_meet
        case rel => exact ⟨rfl, hL5.drewN 1, hT5.drewN 1, hB5.drew⟩
    case rest =>
      obtain ⟨rfl, hL6, hT6, hB6⟩ := hcut
      rename World => w6
      clear c0 c1 c2 c3 c4 c5 c6 c7 fr
      have hput : ∀ k w7, Below w6.heap.size w6 w7 → Hid (tok s a = .ok k (s.extract a j) r) → Calls Tryz.prog 135 #[.pointer (some ⟨b, 0, none⟩), .int .i64 (k : Nat), .string (s.extract a j), .int .i64 r] w7 fun e w' => e = .returned (.tuple #[]) ∧ TokPost s a b x4 x5 x6 n T w (.returned (.bool true)) w' := fun k w7 b7 ht => by
        have z6 := hB6.size
        have z7 := b7.size
        refine (mPut b s a r x4 x5 x6 ao cp n T k (s.extract a j) w7 (hL6.below b7 hL6.lt) (hT6.below b7) hl hs (by rw [← HJ.out]; exact hrle)).mono ?_
        rintro e w8 ⟨rfl, h8, b8⟩
        exact ⟨rfl, TokPost.ok ht.out ⟨rfl, h8, ((hB6.mono (Nat.le_of_lt lt)).trans (b7.mono (by omega))).trans b8⟩⟩
      have HP := hide hput
      clear hput
      rcases (show ¬ bt s a = 58 ∨ bt s a = 58 by omega) with h58 | h58
      · have y1 : ((bt s a : Int) == 58) = false := by simp; omega
        go_wp2_with fail
        refine (mMark _ _).mono ?_
        rintro e w7 ⟨rfl, b7⟩
        rcases q3 : mark (s.extract a j) with _ | _
        · have HT2 : Hid (tok s a = .ok 3 (s.extract a j) r) := by unfold Hid; rw [HTok.out, q3]; simp [h58]
          go_wp2_with fail
          refine (HP.out 3 w7 b7 HT2).mono ?_
          rintro e w8 ⟨rfl, h8⟩
          go_wp2_with fail
          go_ret
          exact h8
        · have HT2 : Hid (tok s a = .ok 9 (s.extract a j) r) := by unfold Hid; rw [HTok.out, q3]; simp
          go_wp2_with fail
          refine (HP.out 9 w7 b7 HT2).mono ?_
          rintro e w8 ⟨rfl, h8⟩
          go_wp2_with fail
          go_ret
          exact h8
      · have y1 : ((bt s a : Int) == 58) = true := by simp; omega
        go_wp2_with fail
        refine (mMark _ _).mono ?_
        rintro e w7 ⟨rfl, b7⟩
        rcases q3 : mark (s.extract a j) with _ | _
        · have HT2 : Hid (tok s a = .ok 4 (s.extract a j) r) := by unfold Hid; rw [HTok.out, q3]; simp [h58]
          go_wp2_with fail
          refine (HP.out 4 w7 b7 HT2).mono ?_
          rintro e w8 ⟨rfl, h8⟩
          go_wp2_with fail
          go_ret
          exact h8
        · have HT2 : Hid (tok s a = .ok 9 (s.extract a j) r) := by unfold Hid; rw [HTok.out, q3]; simp
          go_wp2_with fail
          refine (HP.out 9 w7 b7 HT2).mono ?_
          rintro e w8 ⟨rfl, h8⟩
          go_wp2_with fail
          go_ret
          exact h8

end Go.Proofs.YtjfoagmenehapaaGreatDoor

namespace Go.Proofs.YtjfoagmenehapaaGreatDoor
open Go.RowKit Go.Joins

set_option maxHeartbeats 4000000 in
set_option maxRecDepth 100000 in
theorem mTokQuo (b : Nat) (s : ByteArray) (a : Nat) (x4 x5 x6 : Value) (ao : Option Addr) (cp n : Nat) (T : List To) (w : World) (h : Lx w b s a (pl s a) (pc s a) x4 x5 x6 (.slice ao n cp)) (hT : TR (b + 1) w ao cp n T)
    (hl : T.length ≤ 1048576) (hs : s.size ≤ 1048576) (ha : a < s.size) (n1 : sml (bt s a) = false) (n2 : cap (bt s a) = false) (n3 : dig (bt s a) = false) (hm : bt s a = 39 ∨ bt s a = 34) :
    Calls Tryz.prog 110 #[.pointer (some ⟨b, 0, none⟩)] w (TokPost s a b x4 x5 x6 n T w) := by
  obtain ⟨c0, c1, c2, c3, c4, c5, c6, c7, fr, lt⟩ := id h
  have ha' : (a : Int) < s.size := by omega
  have HB := hide (bt_in ha)
  have HTok : Hid (tok s a = (match quo s (bt s a) (a + 1) [] with | none => .bad 4 | some (t, j) => if bt s a = 39 ∧ t.length ≠ 1 then .bad 4 else .ok (if bt s a = 39 then 6 else 7) ⟨t.toArray⟩ (j - a))) := by
    unfold Hid tok
    rw [if_neg (by rw [n1, n2]; decide)]
    rw [if_neg (by rw [n3]; decide), if_pos hm]
    rcases quo s (bt s a) (a + 1) [] with _ | ⟨t, j⟩ <;> rfl
  have hTd : TR (b + 1) w.drew ao cp n T := hT.drewN 1
  have hLd : Lx w.drew b s a (pl s a) (pc s a) x4 x5 x6 (.slice ao n cp) := h.drewN 1
  have hBd : Below w.heap.size w w.drew := (Below.refl _ w).drew
  have hQ := hide (mQuoted b s a (bt s a) _ _ x4 x5 x6 _ w.drew hLd hs ha hm)
  have hfail : ∀ w7, Below w.drew.heap.size w.drew w7 → Hid (tok s a = .bad 4) → Calls Tryz.prog 130 #[.pointer (some ⟨b, 0, none⟩), .int .i64 4] w7 fun e w' => e = .returned (.tuple #[]) ∧ TokPost s a b x4 x5 x6 n T w (.returned (.bool false)) w' := fun w7 b7 ht => by
    refine (mFail b s a _ _ 4 _ _ _ _ _ (hLd.below b7 hLd.lt)).mono ?_
    rintro e w2 ⟨rfl, h2, o2⟩
    exact ⟨rfl, TokPost.bad ht.out ⟨rfl, h2, ((hBd.mono (Nat.le_of_lt lt)).trans (b7.mono (Nat.le_of_lt lt))).trans (o2.below (Nat.le_refl b))⟩⟩
  have HF := hide hfail
  have hput : ∀ k t m w7, Below w.drew.heap.size w.drew w7 → a + m ≤ s.size → Hid (tok s a = .ok k t m) → Calls Tryz.prog 135 #[.pointer (some ⟨b, 0, none⟩), .int .i64 (k : Nat), .string t, .int .i64 (m : Nat)] w7 fun e w' => e = .returned (.tuple #[]) ∧ TokPost s a b x4 x5 x6 n T w (.returned (.bool true)) w' := fun k t m w7 b7 hm7 ht => by
    refine (mPut b s a m x4 x5 x6 ao cp n T k t w7 (hLd.below b7 hLd.lt) (hTd.below b7) hl hs hm7).mono ?_
    rintro e w8 ⟨rfl, h8, b8⟩
    exact ⟨rfl, TokPost.ok ht.out ⟨rfl, h8, ((hBd.mono (Nat.le_of_lt lt)).trans (b7.mono (Nat.le_of_lt lt))).trans b8⟩⟩
  have HP := hide hput
  clear hfail hput
  unfold quoV at hQ
  rcases q : quo s (bt s a) (a + 1) [] with _ | ⟨t, j⟩
  · rw [q] at HTok hQ
    rcases hm with hm | hm
    · have z1 : ((bt s a : Int) == 39) = true := by rw [hm]; rfl
      clear hm q
      go_enter Tryz.func110, Tryz.ntmps110
      go_wp2_with fail
      go_region
      all_goals go_upto_region 4 with fail
      rw [HB.out]
      clear HB
      go_wp2_with (first | (go_at_call 132; refine (mSmall _ _).mono ?_; rintro e w1 ⟨rfl, hw1⟩; obtain rfl : w.drew = w1 := hw1.symm; rw [n1]) | (go_at_call 133; refine (mCapital _ _).mono ?_; rintro e w1 ⟨rfl, hw1⟩; obtain rfl : w.drew = w1 := hw1.symm; rw [n2]) | (go_at_call 136; refine (mDigit _ _).mono ?_; rintro e w1 ⟨rfl, hw1⟩; obtain rfl : w.drew = w1 := hw1.symm; rw [n3]) | (go_at_call 137; refine hQ.out.mono ?_; rintro e w7 ⟨rfl, b7⟩))
      refine (HF.out w7 b7 HTok).mono ?_
      rintro e w8 ⟨rfl, h8⟩
      go_wp2_with fail
      go_ret
      exact h8
    · have z1 : ((bt s a : Int) == 39) = false := by rw [hm]; rfl
      have z2 : ((bt s a : Int) == 34) = true := by rw [hm]; rfl
      clear hm q
      go_enter Tryz.func110, Tryz.ntmps110
      go_wp2_with fail
      go_region
      all_goals go_upto_region 4 with fail
      rw [HB.out]
      clear HB
      go_wp2_with (first | (go_at_call 132; refine (mSmall _ _).mono ?_; rintro e w1 ⟨rfl, hw1⟩; obtain rfl : w.drew = w1 := hw1.symm; rw [n1]) | (go_at_call 133; refine (mCapital _ _).mono ?_; rintro e w1 ⟨rfl, hw1⟩; obtain rfl : w.drew = w1 := hw1.symm; rw [n2]) | (go_at_call 136; refine (mDigit _ _).mono ?_; rintro e w1 ⟨rfl, hw1⟩; obtain rfl : w.drew = w1 := hw1.symm; rw [n3]) | (go_at_call 137; refine hQ.out.mono ?_; rintro e w7 ⟨rfl, b7⟩))
      refine (HF.out w7 b7 HTok).mono ?_
      rintro e w8 ⟨rfl, h8⟩
      go_wp2_with fail
      go_ret
      exact h8
  · have hgt := quo_gt _ _ _ _ q
    simp only [List.length_nil] at hgt
    rw [q] at HTok hQ
    simp only at HTok hQ
    obtain ⟨m, hjm⟩ : ∃ m, m = j - a := ⟨_, rfl⟩
    have e1 : ((j : Int) - a) = (m : Int) := by omega
    rw [e1] at hQ
    rw [← hjm] at HTok
    have ham : a + m ≤ s.size := by omega
    have hm63 : m ≤ 1048576 := by omega
    obtain ⟨tb, htb⟩ : ∃ tb : ByteArray, tb = ⟨t.toArray⟩ := ⟨_, rfl⟩
    have hsz : tb.size = t.length := by rw [htb]; simp [ByteArray.size]
    rw [← htb] at HTok hQ
    rw [← hsz] at HTok
    have hsz2 : (tb.size : Int) ≤ 1048576 := by omega
    clear hgt q e1 hjm htb hsz
    have y0 : decide ((m : Int) < 0) = false := by simp
    rcases hm with hm | hm
    · have z1 : ((bt s a : Int) == 39) = true := by rw [hm]; rfl
      by_cases h1 : tb.size = 1
      · have y1 : ((tb.size : Int) != 1) = false := by simp; omega
        have HT2 : Hid (tok s a = .ok 6 tb m) := by unfold Hid; rw [HTok.out, if_neg (by simp [h1]), if_pos hm]
        clear hm h1 HTok
        go_enter Tryz.func110, Tryz.ntmps110
        go_wp2_with fail
        go_region
        all_goals go_upto_region 4 with fail
        rw [HB.out]
        clear HB
        go_wp2_with (first | (go_at_call 132; refine (mSmall _ _).mono ?_; rintro e w1 ⟨rfl, hw1⟩; obtain rfl : w.drew = w1 := hw1.symm; rw [n1]) | (go_at_call 133; refine (mCapital _ _).mono ?_; rintro e w1 ⟨rfl, hw1⟩; obtain rfl : w.drew = w1 := hw1.symm; rw [n2]) | (go_at_call 136; refine (mDigit _ _).mono ?_; rintro e w1 ⟨rfl, hw1⟩; obtain rfl : w.drew = w1 := hw1.symm; rw [n3]) | (go_at_call 137; refine hQ.out.mono ?_; rintro e w7 ⟨rfl, b7⟩))
        refine (HP.out 6 tb m w7 b7 ham HT2).mono ?_
        rintro e w8 ⟨rfl, h8⟩
        go_wp2_with fail
        go_ret
        exact h8
      · have y1 : ((tb.size : Int) != 1) = true := by simp; omega
        have HT2 : Hid (tok s a = .bad 4) := by unfold Hid; rw [HTok.out, if_pos ⟨hm, h1⟩]
        clear hm h1 HTok
        go_enter Tryz.func110, Tryz.ntmps110
        go_wp2_with fail
        go_region
        all_goals go_upto_region 4 with fail
        rw [HB.out]
        clear HB
        go_wp2_with (first | (go_at_call 132; refine (mSmall _ _).mono ?_; rintro e w1 ⟨rfl, hw1⟩; obtain rfl : w.drew = w1 := hw1.symm; rw [n1]) | (go_at_call 133; refine (mCapital _ _).mono ?_; rintro e w1 ⟨rfl, hw1⟩; obtain rfl : w.drew = w1 := hw1.symm; rw [n2]) | (go_at_call 136; refine (mDigit _ _).mono ?_; rintro e w1 ⟨rfl, hw1⟩; obtain rfl : w.drew = w1 := hw1.symm; rw [n3]) | (go_at_call 137; refine hQ.out.mono ?_; rintro e w7 ⟨rfl, b7⟩))
        refine (HF.out w7 b7 HT2).mono ?_
        rintro e w8 ⟨rfl, h8⟩
        go_wp2_with fail
        go_ret
        exact h8
    · have z1 : ((bt s a : Int) == 39) = false := by rw [hm]; rfl
      have z2 : ((bt s a : Int) == 34) = true := by rw [hm]; rfl
      have HT2 : Hid (tok s a = .ok 7 tb m) := by unfold Hid; rw [HTok.out, if_neg (by omega), if_neg (by omega)]
      clear hm HTok
      go_enter Tryz.func110, Tryz.ntmps110
      go_wp2_with fail
      go_region
      all_goals go_upto_region 4 with fail
      rw [HB.out]
      clear HB
      go_wp2_with (first | (go_at_call 132; refine (mSmall _ _).mono ?_; rintro e w1 ⟨rfl, hw1⟩; obtain rfl : w.drew = w1 := hw1.symm; rw [n1]) | (go_at_call 133; refine (mCapital _ _).mono ?_; rintro e w1 ⟨rfl, hw1⟩; obtain rfl : w.drew = w1 := hw1.symm; rw [n2]) | (go_at_call 136; refine (mDigit _ _).mono ?_; rintro e w1 ⟨rfl, hw1⟩; obtain rfl : w.drew = w1 := hw1.symm; rw [n3]) | (go_at_call 137; refine hQ.out.mono ?_; rintro e w7 ⟨rfl, b7⟩))
      refine (HP.out 7 tb m w7 b7 ham HT2).mono ?_
      rintro e w8 ⟨rfl, h8⟩
      go_wp2_with fail
      go_ret
      exact h8

end Go.Proofs.YtjfoagmenehapaaGreatDoor

namespace Go.Proofs.YtjfoagmenehapaaGreatDoor
open Go.RowKit Go.Joins

theorem mToken (b : Nat) (s : ByteArray) (a : Nat) (x4 x5 x6 : Value) (ao : Option Addr) (cp n : Nat) (T : List To) (w : World) (h : Lx w b s a (pl s a) (pc s a) x4 x5 x6 (.slice ao n cp)) (hT : TR (b + 1) w ao cp n T)
    (hl : T.length ≤ 1048576) (hs : s.size ≤ 1048576) (ha : a < s.size) : Calls Tryz.prog 110 #[.pointer (some ⟨b, 0, none⟩)] w (TokPost s a b x4 x5 x6 n T w) := by
  rcases n1 : sml (bt s a) with _ | _
  · rcases n2 : cap (bt s a) with _ | _
    · rcases n3 : dig (bt s a) with _ | _
      · by_cases hq : bt s a = 39 ∨ bt s a = 34
        · exact mTokQuo b s a x4 x5 x6 ao cp n T w h hT hl hs ha n1 n2 n3 hq
        · have z1 : ((bt s a : Int) == 39) = false := by simp; omega
          have z2 : ((bt s a : Int) == 34) = false := by simp; omega
          rcases n4 : sym (bt s a) with _ | _
          · rcases n5 : spc (bt s a) with _ | _
            · exact mTokNone b s a x4 x5 x6 ao cp n T w h hT hl hs ha n1 n2 n3 z1 z2 n4 n5
            · exact mTokSpc b s a x4 x5 x6 ao cp n T w h hT hl hs ha n1 n2 n3 z1 z2 n4 n5
          · exact mTokSym b s a x4 x5 x6 ao cp n T w h hT hl hs ha n1 n2 n3 z1 z2 n4
      · exact mTokDig b s a x4 x5 x6 ao cp n T w h hT hl hs ha n1 n2 n3
    · exact mTokName b s a x4 x5 x6 ao cp n T w h hT hl hs ha (.inr n2)
  · exact mTokName b s a x4 x5 x6 ao cp n T w h hT hl hs ha (.inl n1)

theorem lexF_open {s : ByteArray} {i : Nat} (hi : i ≤ s.size) (h : (blank s i).2 = false) : lexF s i = ([], 2, (blank s i).1) := by
  rw [lexF, dif_neg (by omega), if_pos h]
theorem lexF_end {s : ByteArray} {i : Nat} (hi : i ≤ s.size) (h : (blank s i).2 = true) (h2 : s.size ≤ (blank s i).1) : lexF s i = ([], 0, (blank s i).1) := by
  rw [lexF, dif_neg (by omega), if_neg (by rw [h]; decide), dif_pos h2]
theorem lexF_bad {s : ByteArray} {i c : Nat} (hi : i ≤ s.size) (h : (blank s i).2 = true) (h2 : (blank s i).1 < s.size) (ht : tok s (blank s i).1 = .bad c) : lexF s i = ([], c, (blank s i).1) := by
  rw [lexF, dif_neg (by omega), if_neg (by rw [h]; decide), dif_neg (by omega)]
  split
  · rename_i e; rw [ht] at e; cases e; rfl
  · rename_i e; rw [ht] at e; cases e
theorem lexF_ok {s : ByteArray} {i k n : Nat} {t : ByteArray} (hi : i ≤ s.size) (h : (blank s i).2 = true) (h2 : (blank s i).1 < s.size) (ht : tok s (blank s i).1 = .ok k t n) :
    lexF s i = (⟨k, t, pl s (blank s i).1, pc s (blank s i).1⟩ :: (lexF s ((blank s i).1 + n)).1, (lexF s ((blank s i).1 + n)).2) := by
  rw [lexF, dif_neg (by omega), if_neg (by rw [h]; decide), dif_neg (by omega)]
  split
  · rename_i e; rw [ht] at e; cases e
  · rename_i e; rw [ht] at e; cases e; rfl

theorem tok_code {s : ByteArray} {a c : Nat} (h : tok s a = .bad c) : c ≠ 0 := by
  unfold tok at h
  intro hc
  subst hc
  split at h
  · cases h
  · split at h
    · split at h <;> cases h
    · split at h
      · split at h
        · cases h
        · split at h <;> cases h
      · split at h
        · cases h
        · split at h <;> cases h

/-- The answer for a text: code, line, column, tokens. -/
def lexA (s : ByteArray) : Nat × Nat × Nat × List To :=
  if 60000 < s.size then (5, 1, 1, [])
  else if (lexF s 0).2.1 = 0 then (0, 0, 0, (lexF s 0).1)
  else ((lexF s 0).2.1, pl s (lexF s 0).2.2, pc s (lexF s 0).2.2, [])

/-- What is answered: in memory of its own. -/
def LexPost (s : ByteArray) (w : World) (e : Ending) (w' : World) : Prop :=
  ∃ (ao : Option Addr) (cp n : Nat), e = .returned (.agg #[.int .i64 (lexA s).1, .int .i64 (lexA s).2.1, .int .i64 (lexA s).2.2.1, .slice ao n cp]) ∧ TR w.heap.size w' ao cp n (lexA s).2.2.2 ∧ Below w.heap.size w w'

theorem TR.less {B B' : Nat} {W : World} {ao : Option Addr} {cap n : Nat} {T : List To} (h : TR B W ao cap n T) (hB : B' ≤ B) : TR B' W ao cap n T := by
  refine ⟨h.1, h.2.1, ?_⟩
  rcases h.2.2 with h' | ⟨g, cap', cur, e, hb, r⟩
  · exact .inl h'
  · exact .inr ⟨g, cap', cur, e, by omega, r⟩

/-- What stands in the lexer at its end. -/
def LexEnd (s : ByteArray) (b : Nat) (w wx : World) : Prop :=
  ∃ (i : Nat) (ln cl : Int) (ao : Option Addr) (cp n : Nat), Lx wx b s i ln cl (.int .i64 (lexA s).1) (.int .i64 (lexA s).2.1) (.int .i64 (lexA s).2.2.1) (.slice ao n cp) ∧ TR (b + 1) wx ao cp n (lexA s).2.2.2 ∧ Below b w wx

set_option maxHeartbeats 4000000 in
set_option maxRecDepth 100000 in
theorem mLex (s : ByteArray) (w : World) (hs : s.size ≤ 1048576) : Calls Tryz.prog 97 #[.string s] w (LexPost s w) := by
  by_cases hbig : 60000 < s.size
  · have hbig' : (60000 : Int) < s.size := by omega
    have HA : Hid (lexA s = (5, 1, 1, [])) := by unfold Hid lexA; rw [if_pos hbig]
    clear hbig
    go_enter Tryz.func97, Tryz.ntmps97
    go_wp2_with fail
    refine bodyPost_ret (v := .agg #[.int .i64 5, .int .i64 1, .int .i64 1, .slice none 0 0]) (by simp [results, Tryz.results97, go_sem]) rfl ?_
    refine ⟨none, 0, 0, by rw [HA.out]; rfl, by rw [HA.out]; exact TR.start _ _, ?_⟩
    first
    | exact below_alloc1 w _
    | (refine ((((below_alloc1 w _).setCell ?_ _).setCell ?_ _).setCell ?_ _).setCell ?_ _ <;> simp)
  · have hbig' : ¬ (60000 : Int) < s.size := by omega
    have HA : Hid (lexA s = if (lexF s 0).2.1 = 0 then (0, 0, 0, (lexF s 0).1) else ((lexF s 0).2.1, pl s (lexF s 0).2.2, pc s (lexF s 0).2.2, [])) := by unfold Hid lexA; rw [if_neg hbig]
    clear hbig
    go_enter Tryz.func97, Tryz.ntmps97
    go_wp2_with fail
    go_loopw [] (fun wr => ∃ (i : Nat) (ao : Option Addr) (cp n : Nat) (T : List To), Lx wr (w.heap.size + 1) s i (pl s i) (pc s i) (.int .i64 0) (.int .i64 0) (.int .i64 0) (.slice ao n cp) ∧ TR (w.heap.size + 1 + 1) wr ao cp n T ∧ i ≤ s.size ∧ T.length ≤ i ∧ Hid (lexF s 0 = (T ++ (lexF s i).1, (lexF s i).2)) ∧ Below (w.heap.size + 1) (w.alloc (.cells #[.int .i64 0, .int .i64 0, .int .i64 0, .slice none 0 0] 111)) wr) (fun wr => s.size - (match wr.cell? ⟨w.heap.size + 1, 1, none⟩ with | some v => (intOf v).toNat | none => 0))
    case atStart =>
      refine ⟨0, none, 0, 0, [], ⟨by simp, by simp, by simp [pl], by simp [pc], by simp, by simp, by simp, by simp, fun o => by simp, by simp⟩, TR.start _ _, Nat.zero_le _, by simp, by unfold Hid; simp, ?_⟩
      have := below_alloc1 (w.alloc (.cells #[.int .i64 0, .int .i64 0, .int .i64 0, .slice none 0 0] 111)) (.cells #[.string s, .int .i64 0, .int .i64 1, .int .i64 1, .int .i64 0, .int .i64 0, .int .i64 0, .slice none 0 0] 145)
      simpa using this
    case round =>
      obtain ⟨i, ao, cp, n, T, hL, hT, hi, hTl, hF, hB⟩ := hrel
      have fin : ∀ wx (j : Nat) (ln cl : Int) (code line col : Int) (ax : Option Addr) (nx cx : Nat), Lx wx (w.heap.size + 1) s j ln cl (.int .i64 code) (.int .i64 line) (.int .i64 col) (.slice ax nx cx) → Below (w.heap.size + 1) (w.alloc (.cells #[.int .i64 0, .int .i64 0, .int .i64 0, .slice none 0 0] 111)) wx →
          (wx.cell? ⟨w.heap.size, 0, none⟩ = some (.int .i64 0) ∧ wx.cell? ⟨w.heap.size, 1, none⟩ = some (.int .i64 0) ∧ wx.cell? ⟨w.heap.size, 2, none⟩ = some (.int .i64 0) ∧ wx.cell? ⟨w.heap.size, 3, none⟩ = some (.slice none 0 0)) ∧
          (wx.frozen? ⟨w.heap.size, 0, none⟩ = false ∧ wx.frozen? ⟨w.heap.size, 1, none⟩ = false ∧ wx.frozen? ⟨w.heap.size, 2, none⟩ = false ∧ wx.frozen? ⟨w.heap.size, 3, none⟩ = false) := fun wx j ln cl code line col ax nx cx _ hb =>
        ⟨⟨(hb.cell (p := ⟨w.heap.size, 0, none⟩) (Nat.lt_succ_self _)).trans (by simp), (hb.cell (p := ⟨w.heap.size, 1, none⟩) (Nat.lt_succ_self _)).trans (by simp), (hb.cell (p := ⟨w.heap.size, 2, none⟩) (Nat.lt_succ_self _)).trans (by simp), (hb.cell (p := ⟨w.heap.size, 3, none⟩) (Nat.lt_succ_self _)).trans (by simp)⟩,
          ⟨(hb.frozen (p := ⟨w.heap.size, 0, none⟩) (Nat.lt_succ_self _)).trans (by simp), (hb.frozen (p := ⟨w.heap.size, 1, none⟩) (Nat.lt_succ_self _)).trans (by simp), (hb.frozen (p := ⟨w.heap.size, 2, none⟩) (Nat.lt_succ_self _)).trans (by simp), (hb.frozen (p := ⟨w.heap.size, 3, none⟩) (Nat.lt_succ_self _)).trans (by simp)⟩⟩
      have FIN := hide fin
      clear fin
      have hBl := mBlank (w.heap.size + 1) s i _ _ _ _ wr hL hs hi
      have hbg := blank_ge s i hi
      go_wp2_with fail
      refine hBl.mono ?_
      rintro e w2 ⟨rfl, g1, g2, g3, o2⟩
      have B2 := hB.trans (o2.below (Nat.le_refl _))
      have hT2 := hT.only o2 (Nat.lt_succ_self _)
      have HC1 := hide hL.c1
      clear hBl hL hT
      rcases q1 : (blank s i).2 with _ | _
      · have hL2 := g3 q1
        have hA : Hid (lexA s = (2, pl s (blank s i).1, pc s (blank s i).1, [])) := by
          have := hF.out
          rw [lexF_open hi q1] at this
          unfold Hid
          rw [HA.out, this, if_neg (by simp)]
        generalize (blank s i).1 = p at *
        obtain ⟨⟨d0, d1, d2, d3⟩, f0, f1, f2, f3⟩ := FIN.out w2 p _ _ _ _ _ _ _ _ hL2 B2
        obtain ⟨c0, c1, c2, c3, c4, c5, c6, c7, fr, lt⟩ := id hL2
        clear g2 g3 HA hF
        go_wp2_with fail
        refine bodyPost_ret (v := .agg #[.int .i64 2, .int .i64 (pl s p), .int .i64 (pc s p), .slice none 0 0]) (by simp [results, Tryz.results97, go_sem, d0, d1, d2, d3]) rfl ?_
        refine ⟨none, 0, 0, by rw [hA.out]; rfl, by rw [hA.out]; exact TR.start _ _, ?_⟩
        have B0 := (below_alloc1 w (.cells #[.int .i64 0, .int .i64 0, .int .i64 0, .slice none 0 0] 111)).trans (B2.mono (Nat.le_succ _))
        refine (((B0.setCell ?_ _).setCell ?_ _).setCell ?_ _).setCell ?_ _ <;> simp
      · have hL2 := g2 q1
        by_cases hp : s.size ≤ (blank s i).1
        · have hA : Hid (lexA s = (0, 0, 0, T)) := by
            have := hF.out
            rw [lexF_end hi q1 hp] at this
            unfold Hid
            rw [HA.out, this, if_pos rfl]
            simp
          generalize (blank s i).1 = p at *
          obtain ⟨⟨d0, d1, d2, d3⟩, f0, f1, f2, f3⟩ := FIN.out w2 p _ _ _ _ _ _ _ _ hL2 B2
          obtain ⟨c0, c1, c2, c3, c4, c5, c6, c7, fr, lt⟩ := id hL2
          have hp' : decide (p < s.size) = false := by simp; omega
          clear g2 g3 HA hF hp
          go_wp2_with fail
          refine bodyPost_ret (v := .agg #[.int .i64 0, .int .i64 0, .int .i64 0, .slice ao n cp]) (by simp [results, Tryz.results97, go_sem, d0, d1, d2, d3]) rfl ?_
          have B0 := (below_alloc1 w (.cells #[.int .i64 0, .int .i64 0, .int .i64 0, .slice none 0 0] 111)).trans (B2.mono (Nat.le_succ _))
          refine ⟨ao, cp, n, by rw [hA.out]; rfl, ?_, ?_⟩
          · rw [hA.out]
            refine TR.less (((TR.only (TR.only (TR.only (TR.only hT2 (Only.setCell _ ⟨w.heap.size, _, none⟩ _) ?_) (Only.setCell _ ⟨w.heap.size, _, none⟩ _) ?_) (Only.setCell _ ⟨w.heap.size, _, none⟩ _) ?_) (Only.setCell _ ⟨w.heap.size, _, none⟩ _) ?_))) ?_ <;> (first | omega | (simp; done) | (simp; omega))
          · refine (((B0.setCell ?_ _).setCell ?_ _).setCell ?_ _).setCell ?_ _ <;> simp
        · have hTk := mToken (w.heap.size + 1) s (blank s i).1 _ _ _ ao cp n T w2 hL2 hT2 (by omega) hs (by omega)
          unfold TokPost at hTk
          have hlt : (blank s i).1 < s.size := by omega
          have hc1 := hL2.c1
          rcases qt : tok s (blank s i).1 with ⟨k, t, m⟩ | c
          · rw [qt] at hTk
            have hm := tok_len hlt qt
            have hF2 : Hid (lexF s 0 = ((T ++ [⟨k, t, pl s (blank s i).1, pc s (blank s i).1⟩]) ++ (lexF s ((blank s i).1 + m)).1, (lexF s ((blank s i).1 + m)).2)) := by
              have := hF.out
              rw [lexF_ok hi q1 hlt qt] at this
              unfold Hid
              rw [this]
              simp
            generalize (blank s i).1 = p at *
            have HTk := hide hTk
            clear hTk
            go_wp2_with fail
            refine HTk.out.mono ?_
            rintro e w3 ⟨rfl, ⟨ao3, cp3, hL3, hT3⟩, b3⟩
            go_wp2_with fail
            go_roundw
            case rel => exact ⟨p + m, ao3, cp3, n + 1, _, hL3, hT3, by omega, by simp; omega, hF2, B2.trans b3⟩
            case measure =>
              have CO := HC1.out
              simp [hL3.c1, CO, intOf]
              rw [show ((p : Int) + (m : Int)).toNat = p + m by omega]
              omega
          · rw [qt] at hTk
            have hcn := tok_code qt
            have hA : Hid (lexA s = (c, pl s (blank s i).1, pc s (blank s i).1, [])) := by
              have := hF.out
              rw [lexF_bad hi q1 hlt qt] at this
              unfold Hid
              rw [HA.out, this, if_neg hcn]
            generalize (blank s i).1 = p at *
            have HTk := hide hTk
            clear hTk g2 g3 HA hF hp
            go_wp2_with fail
            refine HTk.out.mono ?_
            rintro e w3 ⟨rfl, hL3, b3⟩
            have B3 := B2.trans b3
            obtain ⟨⟨d0, d1, d2, d3⟩, f0, f1, f2, f3⟩ := FIN.out w3 p _ _ _ _ _ _ _ _ hL3 B3
            obtain ⟨c0, c1, c2, c3, c4, c5, c6, c7, fr, lt⟩ := id hL3
            go_wp2_with fail
            refine bodyPost_ret (v := .agg #[.int .i64 c, .int .i64 (pl s p), .int .i64 (pc s p), .slice none 0 0]) (by simp [results, Tryz.results97, go_sem, d0, d1, d2, d3]) rfl ?_
            refine ⟨none, 0, 0, by rw [hA.out], by rw [hA.out]; exact TR.start _ _, ?_⟩
            have B0 := (below_alloc1 w (.cells #[.int .i64 0, .int .i64 0, .int .i64 0, .slice none 0 0] 111)).trans (B3.mono (Nat.le_succ _))
            refine (((B0.setCell ?_ _).setCell ?_ _).setCell ?_ _).setCell ?_ _ <;> simp

end Go.Proofs.YtjfoagmenehapaaGreatDoor

namespace Go.Proofs.YtjfoagmenehapaaGreatDoor
open Go.RowKit Go.Joins

theorem dash_sym {s : ByteArray} {p : Nat} (hp : p < s.size) (h : sym (bt s p) = false) : dash s p = false := by
  unfold dash
  have : rl sym s p = 0 := by rw [rl, if_neg (by omega), if_neg (by rw [h]; decide)]
  rw [this]
  simp
  omega

theorem iRead {s p b mb nx ln ls ao cp n T w} (h : At s p b mb nx ln ls ao cp n T w) (hl : bt s p < 128) :
    Calls Tryz.prog 98 #[.pointer (some ⟨b, 0, none⟩), .int .i64 p, .int .i32 (bt s p)] w (RP s p b mb ln ls T w) := by
  have hp := h.lt
  have hc : bt s p ≤ 2147483647 := by omega
  by_cases hb : bt s p = 32 ∨ bt s p = 10
  · exact rBlank h _ hb rfl
  · have z1 : ((bt s p : Int) == 32) = false := by simp; omega
    have z2 : ((bt s p : Int) == 10) = false := by simp; omega
    by_cases hn : sml (bt s p) = true ∨ cap (bt s p) = true
    · exact rName h _ z1 z2 rfl hn
    · have n1 : sml (bt s p) = false := by rcases q : sml (bt s p) with _ | _; rfl; exact absurd (.inl q) hn
      have n2 : cap (bt s p) = false := by rcases q : cap (bt s p) with _ | _; rfl; exact absurd (.inr q) hn
      have n12 : (cap (bt s p) || sml (bt s p)) = false := by rw [n1, n2]; rfl
      rcases n3 : dig (bt s p) with _ | _
      · by_cases h39 : bt s p = 39
        · exact rQuo6 h _ z1 z2 (by rw [h39]; rfl) n12 n3 h39
        · have z3 : ((bt s p : Int) == 39) = false := by simp; omega
          by_cases h34 : bt s p = 34
          · exact rQuo7 h _ z1 z2 z3 (by rw [h34]; rfl) n12 n3 h34
          · have z4 : ((bt s p : Int) == 34) = false := by simp; omega
            rcases n4 : sym (bt s p) with _ | _
            · rcases n5 : two s p 123 45 with _ | _
              · rcases n6 : spc (bt s p) with _ | _
                · refine (rNone h _ z1 z2 z3 z4 hc n12 n3 n4 n5 n6 (lex_bad hp (blank_stop hp hb n5 (dash_sym hp n4)) ?_)).mono (fun e w' hh => .inl ⟨1, hh.1, hh.2⟩)
                  unfold tok
                  rw [if_neg hn, if_neg (by rw [n3]; decide), if_neg (by omega), if_neg (by rw [n4]; decide), if_neg (by rw [n6]; decide)]
                · exact rSpc h _ z1 z2 z3 z4 hc n12 n3 n4 n5 n6 rfl
              · exact rNest h _ z1 z2 z3 z4 hc n12 n3 n4 n5
            · exact rSym h _ z1 z2 z3 z4 hc n12 n3 n4 rfl
      · exact rDig h _ z1 z2 rfl n1 n2 n3

theorem high_no {c : Nat} (h : 128 ≤ c) : sml c = false ∧ cap c = false ∧ dig c = false ∧ sym c = false ∧ spc c = false := by
  refine ⟨?_, ?_, ?_, ?_, ?_⟩
  · simp [sml]; omega
  · simp [cap]; omega
  · simp [dig]; omega
  · simp [sym]; omega
  · simp [spc]; omega

theorem iReadHigh {s p b mb nx ln ls ao cp n T w} (h : At s p b mb nx ln ls ao cp n T w) (hl : 128 ≤ bt s p) (c : Nat) (hc : 128 ≤ c) (hc2 : c ≤ 2147483647) :
    Calls Tryz.prog 98 #[.pointer (some ⟨b, 0, none⟩), .int .i64 p, .int .i32 c] w fun e w' => e = .returned (.int .i64 (1 : Nat)) ∧ RB s p b mb ln ls 1 w w' := by
  have hp := h.lt
  obtain ⟨a1, a2, a3, a4, a5⟩ := high_no hl
  obtain ⟨d1, d2, d3, d4, d5⟩ := high_no hc
  have n5 : two s p 123 45 = false := two_high hl (by omega)
  have hlx : lexF s p = ([], 1, p) := by
    refine lex_bad hp (blank_stop hp (by omega) n5 (dash_sym hp a4)) ?_
    unfold tok
    rw [if_neg (by rw [a1, a2]; decide), if_neg (by rw [a3]; decide), if_neg (by omega), if_neg (by rw [a4]; decide), if_neg (by rw [a5]; decide)]
  have z1 : ((c : Int) == 32) = false := by simp; omega
  have z2 : ((c : Int) == 10) = false := by simp; omega
  have z3 : ((c : Int) == 39) = false := by simp; omega
  have z4 : ((c : Int) == 34) = false := by simp; omega
  exact rNone h c z1 z2 z3 z4 hc2 (by rw [d1, d2]; rfl) d3 d4 n5 d5 hlx

theorem pl_run (s : ByteArray) (i : Nat) : ∀ k, (∀ j, j < k → bt s (i + j) ≠ 10) → pl s (i + k) = pl s i ∧ pc s (i + k) = pc s i + k
  | 0, _ => ⟨rfl, rfl⟩
  | k + 1, h => by
    obtain ⟨h1, h2⟩ := pl_run s i k (fun j hj => h j (by omega))
    have h3 := h k (by omega)
    rw [show i + (k + 1) = i + k + 1 by omega]
    constructor
    · rw [pl, if_neg h3, h1]
    · rw [pc, if_neg h3, h2]; omega

/-- The loop of the program's reader. -/
structure LW (s : ByteArray) (R mb : Nat) (w wr : World) (pos nx ln ls : Nat) (ao : Option Addr) (cp n : Nat) (T : List To) : Prop where
  it : wr.heap[R + 2]? = some (.stringIter s pos)
  sc : Sc wr (R + 1) s mb nx ln ls (.slice ao n cp)
  tr : TR (R + 1 + 1) wr ao cp n T
  line : ln = pl s pos
  col : (pos : Int) - ls + 1 = pc s pos
  bd : Bd s nx
  nxs : nx ≤ s.size
  ps : pos ≤ s.size
  tl : T.length ≤ max pos nx
  lex : lexF s 0 = (T ++ (lexF s (max pos nx)).1, (lexF s (max pos nx)).2)
  bel : Below (R + 1) w wr

theorem LW.at {s R mb w wr pos nx ln ls ao cp n T} (h : LW s R mb w wr pos nx ln ls ao cp n T) (hz : s.size ≤ 60000) (hlt : pos < s.size) (hnx : nx ≤ pos) (hk : KM wr mb) (hm : mb < R + 1) : At s pos (R + 1) mb nx ln ls ao cp n T wr :=
  ⟨h.sc, h.tr, hk, hm, by have := h.tl; omega, hz, hlt, hnx, h.line, h.col, h.bd⟩

theorem bd_stop {s : ByteArray} {nx pos wd : Nat} (h : Bd s nx) (hp : pos < nx) (hw : pos + wd ≤ s.size) (hl : bt s pos < 128 → wd = 1) (hh : 128 ≤ bt s pos → ∀ j, j < wd → 128 ≤ bt s (pos + j)) : pos + wd ≤ nx := by
  apply Decidable.byContradiction
  intro hc
  by_cases h1 : bt s pos < 128
  · have := hl h1; omega
  · have h2 := hh (by omega)
    rcases h with h | h | ⟨h, h3⟩
    · omega
    · have := h2 (nx - pos) (by omega)
      rw [show pos + (nx - pos) = nx by omega] at this
      omega
    · have := h2 (nx - 1 - pos) (by omega)
      rw [show pos + (nx - 1 - pos) = nx - 1 by omega] at this
      omega

end Go.Proofs.YtjfoagmenehapaaGreatDoor

