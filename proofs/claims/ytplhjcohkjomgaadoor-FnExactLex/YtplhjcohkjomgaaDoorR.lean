import Derived.Test.YtplhjcohkjomgaaDoorN
namespace Go.Proofs.YtplhjcohkjomgaaDoor
open Go.RowKit Go.Joins

set_option maxHeartbeats 4000000 in
set_option maxRecDepth 100000 in
theorem mTokQuo (b : Nat) (s : ByteArray) (a : Nat) (x4 x5 x6 : Value) (ao : Option Addr) (cp n : Nat) (T : List To) (w : World) (h : Lx w b s a (pl s a) (pc s a) x4 x5 x6 (.slice ao n cp)) (hT : TR (b + 1) w ao cp n T)
    (hl : T.length ≤ 1048576) (hs : s.size ≤ 1048576) (ha : a < s.size) (n1 : sml (bt s a) = false) (n2 : cap (bt s a) = false) (n3 : dig (bt s a) = false) (hm : bt s a = 39 ∨ bt s a = 34) :
    Calls Tryd.prog 24 #[.pointer (some ⟨b, 0, none⟩)] w (TokPost s a b x4 x5 x6 n T w) := by
  obtain ⟨c0, c1, c2, c3, c4, c5, c6, c7, fr, lt⟩ := id h
  have ha' : (a : Int) < s.size := by omega
  have HB := hide (bt_in ha)
  have HTok : Hid (tok s a = (match quo s (bt s a) (a + 1) [] with | none => .bad 4 | some (t, j) => if bt s a = 39 ∧ t.length ≠ 1 then .bad 4 else .ok (if bt s a = 39 then 6 else 7) ⟨t.toArray⟩ (j - a))) := by
    unfold Hid tok
    rw [if_neg (by rw [n1, n2]; decide)]
    rw [if_neg (by rw [n3]; decide), if_pos hm]
    rcases quo s (bt s a) (a + 1) [] with _ | ⟨t, j⟩ <;> rfl
  have hTd : TR (b + 1) w.drew ao cp n T := hT.drewN 1
  have hLd : Lx w.drew b s a (pl s a) (pc s a) x4 x5 x6 (.slice ao n cp) := h.drewN 1
  have hBd : Below w.heap.size w w.drew := (Below.refl _ w).drew
  have hQ := hide (mQuoted b s a (bt s a) _ _ x4 x5 x6 _ w.drew hLd hs ha hm)
  have hfail : ∀ w7, Below w.drew.heap.size w.drew w7 → Hid (tok s a = .bad 4) → Calls Tryd.prog 40 #[.pointer (some ⟨b, 0, none⟩), .int .i64 4] w7 fun e w' => e = .returned (.tuple #[]) ∧ TokPost s a b x4 x5 x6 n T w (.returned (.bool false)) w' := fun w7 b7 ht => by
    refine (mFail b s a _ _ 4 _ _ _ _ _ (hLd.below b7 hLd.lt)).mono ?_
    rintro e w2 ⟨rfl, h2, o2⟩
    exact ⟨rfl, TokPost.bad ht.out ⟨rfl, h2, ((hBd.mono (Nat.le_of_lt lt)).trans (b7.mono (Nat.le_of_lt lt))).trans (o2.below (Nat.le_refl b))⟩⟩
  have HF := hide hfail
  have hput : ∀ k t m w7, Below w.drew.heap.size w.drew w7 → a + m ≤ s.size → Hid (tok s a = .ok k t m) → Calls Tryd.prog 45 #[.pointer (some ⟨b, 0, none⟩), .int .i64 (k : Nat), .string t, .int .i64 (m : Nat)] w7 fun e w' => e = .returned (.tuple #[]) ∧ TokPost s a b x4 x5 x6 n T w (.returned (.bool true)) w' := fun k t m w7 b7 hm7 ht => by
    refine (mPut b s a m x4 x5 x6 ao cp n T k t w7 (hLd.below b7 hLd.lt) (hTd.below b7) hl hs hm7).mono ?_
    rintro e w8 ⟨rfl, h8, b8⟩
    exact ⟨rfl, TokPost.ok ht.out ⟨rfl, h8, ((hBd.mono (Nat.le_of_lt lt)).trans (b7.mono (Nat.le_of_lt lt))).trans b8⟩⟩
  have HP := hide hput
  clear hfail hput
  unfold quoV at hQ
  rcases q : quo s (bt s a) (a + 1) [] with _ | ⟨t, j⟩
  · rw [q] at HTok hQ
    rcases hm with hm | hm
    · have z1 : ((bt s a : Int) == 39) = true := by rw [hm]; rfl
      clear hm q
      go_enter Tryd.func24, Tryd.ntmps24
      go_wp2_with fail
      go_region
      all_goals go_upto_region 4 with fail
      rw [HB.out]
      clear HB
      go_wp2_with (first | (go_at_call 42; refine (mSmall _ _).mono ?_; rintro e w1 ⟨rfl, hw1⟩; obtain rfl : w.drew = w1 := hw1.symm; rw [n1]) | (go_at_call 43; refine (mCapital _ _).mono ?_; rintro e w1 ⟨rfl, hw1⟩; obtain rfl : w.drew = w1 := hw1.symm; rw [n2]) | (go_at_call 46; refine (mDigit _ _).mono ?_; rintro e w1 ⟨rfl, hw1⟩; obtain rfl : w.drew = w1 := hw1.symm; rw [n3]) | (go_at_call 47; refine hQ.out.mono ?_; rintro e w7 ⟨rfl, b7⟩))
      refine (HF.out w7 b7 HTok).mono ?_
      rintro e w8 ⟨rfl, h8⟩
      go_wp2_with fail
      go_ret
      exact h8
    · have z1 : ((bt s a : Int) == 39) = false := by rw [hm]; rfl
      have z2 : ((bt s a : Int) == 34) = true := by rw [hm]; rfl
      clear hm q
      go_enter Tryd.func24, Tryd.ntmps24
      go_wp2_with fail
      go_region
      all_goals go_upto_region 4 with fail
      rw [HB.out]
      clear HB
      go_wp2_with (first | (go_at_call 42; refine (mSmall _ _).mono ?_; rintro e w1 ⟨rfl, hw1⟩; obtain rfl : w.drew = w1 := hw1.symm; rw [n1]) | (go_at_call 43; refine (mCapital _ _).mono ?_; rintro e w1 ⟨rfl, hw1⟩; obtain rfl : w.drew = w1 := hw1.symm; rw [n2]) | (go_at_call 46; refine (mDigit _ _).mono ?_; rintro e w1 ⟨rfl, hw1⟩; obtain rfl : w.drew = w1 := hw1.symm; rw [n3]) | (go_at_call 47; refine hQ.out.mono ?_; rintro e w7 ⟨rfl, b7⟩))
      refine (HF.out w7 b7 HTok).mono ?_
      rintro e w8 ⟨rfl, h8⟩
      go_wp2_with fail
      go_ret
      exact h8
  · have hgt := quo_gt _ _ _ _ q
    simp only [List.length_nil] at hgt
    rw [q] at HTok hQ
    simp only at HTok hQ
    obtain ⟨m, hjm⟩ : ∃ m, m = j - a := ⟨_, rfl⟩
    have e1 : ((j : Int) - a) = (m : Int) := by omega
    rw [e1] at hQ
    rw [← hjm] at HTok
    have ham : a + m ≤ s.size := by omega
    have hm63 : m ≤ 1048576 := by omega
    obtain ⟨tb, htb⟩ : ∃ tb : ByteArray, tb = ⟨t.toArray⟩ := ⟨_, rfl⟩
    have hsz : tb.size = t.length := by rw [htb]; simp [ByteArray.size]
    rw [← htb] at HTok hQ
    rw [← hsz] at HTok
    have hsz2 : (tb.size : Int) ≤ 1048576 := by omega
    clear hgt q e1 hjm htb hsz
    have y0 : decide ((m : Int) < 0) = false := by simp
    rcases hm with hm | hm
    · have z1 : ((bt s a : Int) == 39) = true := by rw [hm]; rfl
      by_cases h1 : tb.size = 1
      · have y1 : ((tb.size : Int) != 1) = false := by simp; omega
        have HT2 : Hid (tok s a = .ok 6 tb m) := by unfold Hid; rw [HTok.out, if_neg (by simp [h1]), if_pos hm]
        clear hm h1 HTok
        go_enter Tryd.func24, Tryd.ntmps24
        go_wp2_with fail
        go_region
        all_goals go_upto_region 4 with fail
        rw [HB.out]
        clear HB
        go_wp2_with (first | (go_at_call 42; refine (mSmall _ _).mono ?_; rintro e w1 ⟨rfl, hw1⟩; obtain rfl : w.drew = w1 := hw1.symm; rw [n1]) | (go_at_call 43; refine (mCapital _ _).mono ?_; rintro e w1 ⟨rfl, hw1⟩; obtain rfl : w.drew = w1 := hw1.symm; rw [n2]) | (go_at_call 46; refine (mDigit _ _).mono ?_; rintro e w1 ⟨rfl, hw1⟩; obtain rfl : w.drew = w1 := hw1.symm; rw [n3]) | (go_at_call 47; refine hQ.out.mono ?_; rintro e w7 ⟨rfl, b7⟩))
        refine (HP.out 6 tb m w7 b7 ham HT2).mono ?_
        rintro e w8 ⟨rfl, h8⟩
        go_wp2_with fail
        go_ret
        exact h8
      · have y1 : ((tb.size : Int) != 1) = true := by simp; omega
        have HT2 : Hid (tok s a = .bad 4) := by unfold Hid; rw [HTok.out, if_pos ⟨hm, h1⟩]
        clear hm h1 HTok
        go_enter Tryd.func24, Tryd.ntmps24
        go_wp2_with fail
        go_region
        all_goals go_upto_region 4 with fail
        rw [HB.out]
        clear HB
        go_wp2_with (first | (go_at_call 42; refine (mSmall _ _).mono ?_; rintro e w1 ⟨rfl, hw1⟩; obtain rfl : w.drew = w1 := hw1.symm; rw [n1]) | (go_at_call 43; refine (mCapital _ _).mono ?_; rintro e w1 ⟨rfl, hw1⟩; obtain rfl : w.drew = w1 := hw1.symm; rw [n2]) | (go_at_call 46; refine (mDigit _ _).mono ?_; rintro e w1 ⟨rfl, hw1⟩; obtain rfl : w.drew = w1 := hw1.symm; rw [n3]) | (go_at_call 47; refine hQ.out.mono ?_; rintro e w7 ⟨rfl, b7⟩))
        refine (HF.out w7 b7 HT2).mono ?_
        rintro e w8 ⟨rfl, h8⟩
        go_wp2_with fail
        go_ret
        exact h8
    · have z1 : ((bt s a : Int) == 39) = false := by rw [hm]; rfl
      have z2 : ((bt s a : Int) == 34) = true := by rw [hm]; rfl
      have HT2 : Hid (tok s a = .ok 7 tb m) := by unfold Hid; rw [HTok.out, if_neg (by omega), if_neg (by omega)]
      clear hm HTok
      go_enter Tryd.func24, Tryd.ntmps24
      go_wp2_with fail
      go_region
      all_goals go_upto_region 4 with fail
      rw [HB.out]
      clear HB
      go_wp2_with (first | (go_at_call 42; refine (mSmall _ _).mono ?_; rintro e w1 ⟨rfl, hw1⟩; obtain rfl : w.drew = w1 := hw1.symm; rw [n1]) | (go_at_call 43; refine (mCapital _ _).mono ?_; rintro e w1 ⟨rfl, hw1⟩; obtain rfl : w.drew = w1 := hw1.symm; rw [n2]) | (go_at_call 46; refine (mDigit _ _).mono ?_; rintro e w1 ⟨rfl, hw1⟩; obtain rfl : w.drew = w1 := hw1.symm; rw [n3]) | (go_at_call 47; refine hQ.out.mono ?_; rintro e w7 ⟨rfl, b7⟩))
      refine (HP.out 7 tb m w7 b7 ham HT2).mono ?_
      rintro e w8 ⟨rfl, h8⟩
      go_wp2_with fail
      go_ret
      exact h8

end Go.Proofs.YtplhjcohkjomgaaDoor
