import Derived.Test.YtplhjcohkjomgaaDoorN
namespace Go.Proofs.YtplhjcohkjomgaaDoor
open Go.RowKit Go.Joins

set_option maxHeartbeats 4000000 in
set_option maxRecDepth 100000 in
theorem mTokSym (b : Nat) (s : ByteArray) (a : Nat) (x4 x5 x6 : Value) (ao : Option Addr) (cp n : Nat) (T : List To) (w : World) (h : Lx w b s a (pl s a) (pc s a) x4 x5 x6 (.slice ao n cp)) (hT : TR (b + 1) w ao cp n T)
    (hl : T.length ≤ 1048576) (hs : s.size ≤ 1048576) (ha : a < s.size) (n1 : sml (bt s a) = false) (n2 : cap (bt s a) = false) (n3 : dig (bt s a) = false) (z1 : ((bt s a : Int) == 39) = false) (z2 : ((bt s a : Int) == 34) = false) (n4 : sym (bt s a) = true) :
    Calls Tryd.prog 24 #[.pointer (some ⟨b, 0, none⟩)] w (TokPost s a b x4 x5 x6 n T w) := by
  obtain ⟨c0, c1, c2, c3, c4, c5, c6, c7, fr, lt⟩ := id h
  have ha' : (a : Int) < s.size := by omega
  have HB := hide (bt_in ha)
  have hb0 := bt_le s a
  have HTok : Hid (tok s a = .ok (if mark (s.extract a (a + rl sym s a)) = true then 9 else if bt s a = 58 then 4 else 3) (s.extract a (a + rl sym s a)) (rl sym s a)) := by
    unfold Hid tok
    rw [if_neg (by rw [n1, n2]; decide)]
    rw [if_neg (by rw [n3]; decide), if_neg (by simp at z1 z2; omega), if_pos n4]
  have hrun := rl_run sym s a (by omega)
  have hrle := hrun.le
  clear hrun
  go_enter Tryd.func24, Tryd.ntmps24
  go_wp2_with fail
  go_region
  all_goals go_upto_region 4 with fail
  rw [HB.out]
  have hTd : TR (b + 1) w.drew ao cp n T := hT.drewN 1
  have hLd : Lx w.drew b s a (pl s a) (pc s a) x4 x5 x6 (.slice ao n cp) := h.drewN 1
  have hBd : Below w.heap.size w w.drew := (Below.refl _ w).drew
  clear HB
  go_wp2_with (first | (go_at_call 42; refine (mSmall _ _).mono ?_; rintro e w1 ⟨rfl, hw1⟩; obtain rfl : w.drew = w1 := hw1.symm; rw [n1]) | (go_at_call 43; refine (mCapital _ _).mono ?_; rintro e w1 ⟨rfl, hw1⟩; obtain rfl : w.drew = w1 := hw1.symm; rw [n2]) | (go_at_call 46; refine (mDigit _ _).mono ?_; rintro e w1 ⟨rfl, hw1⟩; obtain rfl : w.drew = w1 := hw1.symm; rw [n3]) | (go_at_call 48; refine (mSymbol _ _).mono ?_; rintro e w1 ⟨rfl, hw1⟩; obtain rfl : w.drew = w1 := hw1.symm; rw [n4]))
  generalize hr : rl sym s a = r at *
  obtain ⟨j, hj⟩ : ∃ j, j = a + r := ⟨_, rfl⟩
  have hsum : (a : Int) + (r : Int) = (j : Int) := by omega
  have hjs : (j : Int) ≤ s.size := by omega
  have haj : (a : Int) ≤ j := by omega
  rw [← hj] at HTok hrle
  have HR : Hid (rl sym s a = r) := hr
  have HJ := hide hj
  clear hr hj
  go_cut [11] (fun s11 wx => s11 = .int .i64 r ∧ Lx wx b s a (pl s a) (pc s a) x4 x5 x6 (.slice ao n cp) ∧ TR (b + 1) wx ao cp n T ∧ Below w.heap.size w wx)
  case first =>
    go_region_with (go_at_call 41; refine (mRun1 s a _ hs (by omega)).mono ?_; rintro e w1 ⟨⟨r', rfl, hr'⟩, rfl⟩; obtain rfl : r = r' := by rw [hr'.rl]; exact HR.out.symm)
    all_goals
      go_wp2_with fail
      go_meet
      case rel => exact ⟨rfl, hLd.drewN 1, hTd.drewN 1, hBd.drew⟩
  case rest =>
    obtain ⟨rfl, hL5, hT5, hB5⟩ := hcut
    rename World => w5
    clear hTd hLd hBd c0 c1 c2 c3 c4 c5 c6 c7 fr
    obtain ⟨c0, c1, c2, c3, c4, c5, c6, c7, fr, lt5⟩ := id hL5
    go_upto_region 30 with fail
    go_cut [12] (fun s12 wx => s12 = .string (s.extract a j) ∧ Lx wx b s a (pl s a) (pc s a) x4 x5 x6 (.slice ao n cp) ∧ TR (b + 1) wx ao cp n T ∧ Below w.heap.size w wx)
    case first =>
      go_region
      all_goals
        go_wp2_with fail
        go_meet
        case rel => exact ⟨rfl, hL5.drewN 1, hT5.drewN 1, hB5.drew⟩
    case rest =>
      obtain ⟨rfl, hL6, hT6, hB6⟩ := hcut
      rename World => w6
      clear c0 c1 c2 c3 c4 c5 c6 c7 fr
      have hput : ∀ k w7, Below w6.heap.size w6 w7 → Hid (tok s a = .ok k (s.extract a j) r) → Calls Tryd.prog 45 #[.pointer (some ⟨b, 0, none⟩), .int .i64 (k : Nat), .string (s.extract a j), .int .i64 r] w7 fun e w' => e = .returned (.tuple #[]) ∧ TokPost s a b x4 x5 x6 n T w (.returned (.bool true)) w' := fun k w7 b7 ht => by
        have z6 := hB6.size
        have z7 := b7.size
        refine (mPut b s a r x4 x5 x6 ao cp n T k (s.extract a j) w7 (hL6.below b7 hL6.lt) (hT6.below b7) hl hs (by rw [← HJ.out]; exact hrle)).mono ?_
        rintro e w8 ⟨rfl, h8, b8⟩
        exact ⟨rfl, TokPost.ok ht.out ⟨rfl, h8, ((hB6.mono (Nat.le_of_lt lt)).trans (b7.mono (by omega))).trans b8⟩⟩
      have HP := hide hput
      clear hput
      rcases (show ¬ bt s a = 58 ∨ bt s a = 58 by omega) with h58 | h58
      · have y1 : ((bt s a : Int) == 58) = false := by simp; omega
        go_wp2_with fail
        refine (mMark _ _).mono ?_
        rintro e w7 ⟨rfl, b7⟩
        rcases q3 : mark (s.extract a j) with _ | _
        · have HT2 : Hid (tok s a = .ok 3 (s.extract a j) r) := by unfold Hid; rw [HTok.out, q3]; simp [h58]
          go_wp2_with fail
          refine (HP.out 3 w7 b7 HT2).mono ?_
          rintro e w8 ⟨rfl, h8⟩
          go_wp2_with fail
          go_ret
          exact h8
        · have HT2 : Hid (tok s a = .ok 9 (s.extract a j) r) := by unfold Hid; rw [HTok.out, q3]; simp
          go_wp2_with fail
          refine (HP.out 9 w7 b7 HT2).mono ?_
          rintro e w8 ⟨rfl, h8⟩
          go_wp2_with fail
          go_ret
          exact h8
      · have y1 : ((bt s a : Int) == 58) = true := by simp; omega
        go_wp2_with fail
        refine (mMark _ _).mono ?_
        rintro e w7 ⟨rfl, b7⟩
        rcases q3 : mark (s.extract a j) with _ | _
        · have HT2 : Hid (tok s a = .ok 4 (s.extract a j) r) := by unfold Hid; rw [HTok.out, q3]; simp [h58]
          go_wp2_with fail
          refine (HP.out 4 w7 b7 HT2).mono ?_
          rintro e w8 ⟨rfl, h8⟩
          go_wp2_with fail
          go_ret
          exact h8
        · have HT2 : Hid (tok s a = .ok 9 (s.extract a j) r) := by unfold Hid; rw [HTok.out, q3]; simp
          go_wp2_with fail
          refine (HP.out 9 w7 b7 HT2).mono ?_
          rintro e w8 ⟨rfl, h8⟩
          go_wp2_with fail
          go_ret
          exact h8

end Go.Proofs.YtplhjcohkjomgaaDoor
