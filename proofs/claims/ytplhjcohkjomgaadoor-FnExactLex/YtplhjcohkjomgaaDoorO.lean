import Derived.Test.YtplhjcohkjomgaaDoorN
namespace Go.Proofs.YtplhjcohkjomgaaDoor
open Go.RowKit Go.Joins

set_option maxHeartbeats 4000000 in
set_option maxRecDepth 100000 in
theorem mTokNone (b : Nat) (s : ByteArray) (a : Nat) (x4 x5 x6 : Value) (ao : Option Addr) (cp n : Nat) (T : List To) (w : World) (h : Lx w b s a (pl s a) (pc s a) x4 x5 x6 (.slice ao n cp)) (hT : TR (b + 1) w ao cp n T)
    (_hl : T.length ≤ 1048576) (_hs : s.size ≤ 1048576) (ha : a < s.size) (n1 : sml (bt s a) = false) (n2 : cap (bt s a) = false) (n3 : dig (bt s a) = false) (z1 : ((bt s a : Int) == 39) = false) (z2 : ((bt s a : Int) == 34) = false) (n4 : sym (bt s a) = false) (n5 : spc (bt s a) = false) :
    Calls Tryd.prog 24 #[.pointer (some ⟨b, 0, none⟩)] w (TokPost s a b x4 x5 x6 n T w) := by
  obtain ⟨c0, c1, c2, c3, c4, c5, c6, c7, fr, lt⟩ := id h
  have ha' : (a : Int) < s.size := by omega
  have HB := hide (bt_in ha)
  have hb0 := bt_le s a
  have HTok : Hid (tok s a = .bad 1) := by
    unfold Hid tok
    rw [if_neg (by rw [n1, n2]; decide)]
    rw [if_neg (by rw [n3]; decide), if_neg (by simp at z1 z2; omega), if_neg (by rw [n4]; decide), if_neg (by rw [n5]; decide)]
  go_enter Tryd.func24, Tryd.ntmps24
  go_wp2_with fail
  go_region
  all_goals go_upto_region 4 with fail
  rw [HB.out]
  have hTd : TR (b + 1) w.drew ao cp n T := hT.drewN 1
  have hLd : Lx w.drew b s a (pl s a) (pc s a) x4 x5 x6 (.slice ao n cp) := h.drewN 1
  have hBd : Below w.heap.size w w.drew := (Below.refl _ w).drew
  clear HB
  go_wp2_with (first | (go_at_call 42; refine (mSmall _ _).mono ?_; rintro e w1 ⟨rfl, hw1⟩; obtain rfl : w.drew = w1 := hw1.symm; rw [n1]) | (go_at_call 43; refine (mCapital _ _).mono ?_; rintro e w1 ⟨rfl, hw1⟩; obtain rfl : w.drew = w1 := hw1.symm; rw [n2]) | (go_at_call 46; refine (mDigit _ _).mono ?_; rintro e w1 ⟨rfl, hw1⟩; obtain rfl : w.drew = w1 := hw1.symm; rw [n3]) | (go_at_call 48; refine (mSymbol _ _).mono ?_; rintro e w1 ⟨rfl, hw1⟩; obtain rfl : w.drew = w1 := hw1.symm; rw [n4]) | (go_at_call 50; refine (mSpecial _ _).mono ?_; rintro e w1 ⟨rfl, hw1⟩; obtain rfl : w.drew = w1 := hw1.symm; rw [n5]))
  refine (mFail b s a _ _ 1 _ _ _ _ _ hLd).mono ?_
  rintro e w2 ⟨rfl, h2, o2⟩
  go_wp2_with fail
  go_ret
  exact TokPost.bad HTok.out ⟨rfl, h2, (hBd.mono (Nat.le_of_lt lt)).trans (o2.below (Nat.le_refl b))⟩

set_option maxHeartbeats 4000000 in
set_option maxRecDepth 100000 in
theorem mTokSpc (b : Nat) (s : ByteArray) (a : Nat) (x4 x5 x6 : Value) (ao : Option Addr) (cp n : Nat) (T : List To) (w : World) (h : Lx w b s a (pl s a) (pc s a) x4 x5 x6 (.slice ao n cp)) (hT : TR (b + 1) w ao cp n T)
    (hl : T.length ≤ 1048576) (hs : s.size ≤ 1048576) (ha : a < s.size) (n1 : sml (bt s a) = false) (n2 : cap (bt s a) = false) (n3 : dig (bt s a) = false) (z1 : ((bt s a : Int) == 39) = false) (z2 : ((bt s a : Int) == 34) = false) (n4 : sym (bt s a) = false) (n5 : spc (bt s a) = true) :
    Calls Tryd.prog 24 #[.pointer (some ⟨b, 0, none⟩)] w (TokPost s a b x4 x5 x6 n T w) := by
  obtain ⟨c0, c1, c2, c3, c4, c5, c6, c7, fr, lt⟩ := id h
  have ha' : (a : Int) < s.size := by omega
  have HB := hide (bt_in ha)
  have hb0 := bt_le s a
  have HTok : Hid (tok s a = .ok 10 ⟨#[UInt8.ofNat (bt s a)]⟩ 1) := by
    unfold Hid tok
    rw [if_neg (by rw [n1, n2]; decide)]
    rw [if_neg (by rw [n3]; decide), if_neg (by simp at z1 z2; omega), if_neg (by rw [n4]; decide), if_pos n5]
  have hcv : (convert 53 9 (.slice (some ⟨w.heap.size, 0, none⟩) 1 1)).run Tryd.prog (w.alloc (.cells #[.int .u8 (bt s a)] 5)).drew = .ok (.string ⟨#[UInt8.ofNat (bt s a)]⟩) (w.alloc (.cells #[.int .u8 (bt s a)] 5)).drew :=
    run_convert_bytes_back (P := Tryd.prog) (w.alloc (.cells #[.int .u8 (bt s a)] 5)).drew 53 9 5 ⟨w.heap.size, 0, none⟩ 1 [UInt8.ofNat (bt s a)] Tryd.underlying53 Tryd.underlying5 Tryd.underlying9 (fun j hj => by
      have : j = 0 := by simpa using hj
      subst this
      have hm : bt s a % 256 = bt s a := Nat.mod_eq_of_lt hb0
      show (w.alloc _).cell? _ = _
      simp [Addr.add, hm])
  go_enter Tryd.func24, Tryd.ntmps24
  go_wp2_with fail
  go_region
  all_goals go_upto_region 4 with fail
  rw [HB.out]
  have hTd : TR (b + 1) w.drew ao cp n T := hT.drewN 1
  have hLd : Lx w.drew b s a (pl s a) (pc s a) x4 x5 x6 (.slice ao n cp) := h.drewN 1
  have hBd : Below w.heap.size w w.drew := (Below.refl _ w).drew
  clear HB
  go_wp2_with (first | (go_at_call 42; refine (mSmall _ _).mono ?_; rintro e w1 ⟨rfl, hw1⟩; obtain rfl : w.drew = w1 := hw1.symm; rw [n1]) | (go_at_call 43; refine (mCapital _ _).mono ?_; rintro e w1 ⟨rfl, hw1⟩; obtain rfl : w.drew = w1 := hw1.symm; rw [n2]) | (go_at_call 46; refine (mDigit _ _).mono ?_; rintro e w1 ⟨rfl, hw1⟩; obtain rfl : w.drew = w1 := hw1.symm; rw [n3]) | (go_at_call 48; refine (mSymbol _ _).mono ?_; rintro e w1 ⟨rfl, hw1⟩; obtain rfl : w.drew = w1 := hw1.symm; rw [n4]) | (go_at_call 50; refine (mSpecial _ _).mono ?_; rintro e w1 ⟨rfl, hw1⟩; obtain rfl : w.drew = w1 := hw1.symm; rw [n5]))
  have z6 : Below w.heap.size w (w.alloc (.cells #[.int .u8 (bt s a)] 5)).drew := ((Below.refl _ w).alloc (Nat.le_refl _) _).drew
  refine (mPut b s a 1 x4 x5 x6 ao cp n T 10 ⟨#[UInt8.ofNat (bt s a)]⟩ _ (h.below z6 lt) (hT.below z6) hl hs (by omega)).mono ?_
  rintro e w8 ⟨rfl, h8, b8⟩
  go_wp2_with fail
  go_ret
  exact TokPost.ok HTok.out ⟨rfl, h8, (z6.mono (Nat.le_of_lt lt)).trans b8⟩

end Go.Proofs.YtplhjcohkjomgaaDoor
