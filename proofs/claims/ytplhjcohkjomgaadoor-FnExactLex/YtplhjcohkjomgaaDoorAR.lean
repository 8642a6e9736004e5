import Derived.Test.YtplhjcohkjomgaaDoorAQ
namespace Go.Proofs.YtplhjcohkjomgaaDoor
open Go.RowKit Go.Joins

set_option maxHeartbeats 4000000 in
set_option maxRecDepth 100000 in
theorem lawLexG (q1 q2 q3 : Nat) (T : List To) (hT : T.length ≤ 1048576) (s : ByteArray) (w : World) (hs : s.size ≤ 1048576) (ht : TabB w.heap.size w)
    (HS : Hid (∀ w1, Calls Tryd.prog 7 #[.string s] w1 (PostA q1 q2 q3 T w1))) (HI : Hid (∀ w1, TabB w1.heap.size w1 → Calls Tryd.prog 8 #[.string s] w1 (PostA q1 q2 q3 T w1))) :
    Calls Tryd.prog 3 #[.string s] w fun e w' => e = .returned (.bool true) ∧ Below w.heap.size w w' := by
  have hs' : ¬ (1048576 : Int) < s.size := by omega
  have HT := hide ht
  clear ht
  go_enter Tryd.func3, Tryd.ntmps3
  go_wp2_with fail
  refine (HS.out w).mono ?_
  rintro e w1 ⟨a1, c1, n, rfl, hT1, b1⟩
  have hn : n ≤ 1048576 := by rw [hT1.1]; exact hT
  have HN := hide hT1.1
  have m1 := hT1.mine
  have P1 := B4.new w1 (.int .i64 q1) (.int .i64 q2) (.int .i64 q3) (.slice a1 n c1) 24
  have bx1 := below_alloc1 w1 (.cells #[.int .i64 q1, .int .i64 q2, .int .i64 q3, .slice a1 n c1] 24)
  have hb1 : Below w.heap.size w (w1.alloc (.cells #[.int .i64 q1, .int .i64 q2, .int .i64 q3, .slice a1 n c1] 24)) := b1.trans (bx1.mono b1.size)
  have HI1 := hide (HI.out _ (HT.out.up hb1 hb1.size))
  have M1 := hide (m1.next bx1)
  have HL1 : Hid (∀ g, a1 = some ⟨g, 0, none⟩ → g < (w1.alloc (.cells #[.int .i64 q1, .int .i64 q2, .int .i64 q3, .slice a1 n c1] 24)).heap.size) := fun g e => Nat.lt_of_lt_of_le (World.ownsRow.lt hT1.2 g (by rw [e]; rfl)).2 bx1.size
  have HP1 := hide P1.lt
  clear m1 hT1 b1 bx1
  go_wp2_with fail
  generalize hW1 : w1.alloc (.cells #[.int .i64 q1, .int .i64 q2, .int .i64 q3, .slice a1 n c1] 24) = v1 at *
  refine HI1.out.mono ?_
  rintro e w2 ⟨a2, c2, n2, rfl, hT2, b2⟩
  obtain rfl : n2 = n := by rw [hT2.1]; exact HN.out.symm
  have bx2 := below_alloc1 w2 (.cells #[.int .i64 q1, .int .i64 q2, .int .i64 q3, .slice a2 n2 c2] 24)
  have by2 : Below v1.heap.size v1 (w2.alloc (.cells #[.int .i64 q1, .int .i64 q2, .int .i64 q3, .slice a2 n2 c2] 24)) := b2.trans (bx2.mono b2.size)
  have M2 := hide (hT2.mine.next bx2)
  have HX : Hid (Fx w q1 q2 q3 w1.heap.size w2.heap.size a1 a2 n2 c1 c2 (fT T) (fT T) (w2.alloc (.cells #[.int .i64 q1, .int .i64 q2, .int .i64 q3, .slice a2 n2 c2] 24))) :=
    ⟨P1.keep (by2.block _ P1.lt) by2.size, B4.new w2 _ _ _ _ 24, (M1.out.next by2).toks, M2.out.toks, hb1.trans (by2.mono hb1.size)⟩
  have hlt2 : ∀ g, a2 = some ⟨g, 0, none⟩ → g < w2.heap.size := fun g e => (World.ownsRow.lt hT2.2 g (by rw [e]; rfl)).2
  have HL2 := hide hlt2
  have HB12 := hide (Nat.le_trans by2.size (Nat.le_refl _))
  clear hT2 by2 b2 bx2 hlt2 P1 M1
  go_upto_region 5 with fail
  generalize w2.alloc (.cells #[.int .i64 q1, .int .i64 q2, .int .i64 q3, .slice a2 n2 c2] 24) = v2 at *
  have HE := hide (eqRes q1 q2 q3 a2 a1 n2 c2 c1 (fT T) v2 hn HX.out.k2 HX.out.k1)
  obtain ⟨x0, x1, x2, x3, xl⟩ := HX.out.p1
  obtain ⟨y0, y1, y2, y3, yl⟩ := HX.out.p2
  go_wp2_with fail
  refine HE.out.mono ?_
  rintro e w3 ⟨rfl, b3⟩
  have HX3 := hide (HX.out.next b3)
  have M3 := hide (M2.out.next b3)
  clear HE x0 x1 x2 x3 xl y0 y1 y2 y3 yl HX M2
  obtain ⟨Z, hZ⟩ : ∃ Z : Int, Z = ((1 + n2 * 4 : Nat) : Int) := ⟨_, rfl⟩
  have hZ0 : ¬ Z < 0 := by omega
  have hB3 : v1.heap.size ≤ w3.heap.size := Nat.le_trans HB12.out b3.size
  have HM := hide (markRes q1 q2 q3 v1.heap.size a2 n2 c2 (fT T) w3 hn hB3 M3.out)
  rw [← hZ] at HM
  obtain ⟨y0, y1, y2, y3, yl⟩ := HX3.out.p2
  go_wp2_with fail
  refine HM.out.mono ?_
  rintro e w4 ⟨rfl, t4, b4, k4⟩
  have HX4 : Hid (Fx w q1 q2 q3 w1.heap.size w2.heap.size a1 a2 n2 c1 c2 (fT T) mk w4) :=
    ⟨HX3.out.p1.keep (b4.block _ HP1.out) b4.size, HX3.out.p2.keep (k4 _ HX3.out.p2.lt (fun g e => Nat.ne_of_lt (HL2.out g e))) b4.size, HX3.out.k1.below b4 HL1.out, t4, HX3.out.bel.trans (b4.mono hb1.size)⟩
  clear y0 y1 y2 y3 yl HM k4 M3 HX3
  have HH := hide (heldRes q1 q2 q3 a2 n2 c2 w4 hn HX4.out.k2)
  rw [← hZ] at HH
  obtain ⟨y0, y1, y2, y3, yl⟩ := HX4.out.p2
  go_wp2_with fail
  refine HH.out.mono ?_
  rintro e w5 ⟨rfl, b5⟩
  have HX5 := hide (HX4.out.next b5)
  have HI2 := hide (HI.out w5 (HT.out.up HX5.out.bel HX5.out.bel.size))
  clear y0 y1 y2 y3 yl HH HX4
  go_wp2_with fail
  refine HI2.out.mono ?_
  rintro e w6 ⟨a6, c6, n6, rfl, hT6, b6⟩
  obtain rfl : n6 = n2 := by rw [hT6.1]; exact HN.out.symm
  have bx6 := below_alloc1 w6 (.cells #[.int .i64 q1, .int .i64 q2, .int .i64 q3, .slice a6 n6 c6] 24)
  have by6 : Below w5.heap.size w5 (w6.alloc (.cells #[.int .i64 q1, .int .i64 q2, .int .i64 q3, .slice a6 n6 c6] 24)) := b6.trans (bx6.mono b6.size)
  have M6 := hide (hT6.mine.next bx6)
  have P6 := hide (B4.new w6 (.int .i64 q1) (.int .i64 q2) (.int .i64 q3) (.slice a6 n6 c6) 24)
  have HX6 := hide (HX5.out.next by6)
  clear hT6 by6 bx6 b6 HX5
  go_upto_region 16 with fail
  generalize w6.alloc (.cells #[.int .i64 q1, .int .i64 q2, .int .i64 q3, .slice a6 n6 c6] 24) = v6 at *
  have HE := hide (eqRes q1 q2 q3 a6 a1 n6 c6 c1 (fT T) v6 hn M6.out.toks HX6.out.k1)
  obtain ⟨x0, x1, x2, x3, xl⟩ := HX6.out.p1
  obtain ⟨y0, y1, y2, y3, yl⟩ := P6.out
  go_wp2_with fail
  refine HE.out.mono ?_
  rintro e w7 ⟨rfl, b7⟩
  have HX7 := hide (HX6.out.next b7)
  clear HE x0 x1 x2 x3 xl y0 y1 y2 y3 yl HX6 M6
  have HH := hide (heldRes q1 q2 q3 a2 n6 c2 w7 hn HX7.out.k2)
  rw [← hZ] at HH
  obtain ⟨y0, y1, y2, y3, yl⟩ := HX7.out.p2
  go_wp2_with fail
  refine HH.out.mono ?_
  rintro e w8 ⟨rfl, b8⟩
  have HX8 := hide (HX7.out.next b8)
  clear y0 y1 y2 y3 yl HH HX7
  go_wp2_with fail
  go_ret
  exact ⟨rfl, HX8.out.bel⟩

set_option maxHeartbeats 1000000 in
theorem lawLex (s : ByteArray) (w : World) (ht : TabB w.heap.size w) : Calls Tryd.prog 3 #[.string s] w fun e w' => e = .returned (.bool true) ∧ Below w.heap.size w w' := by
  by_cases hs : s.size ≤ 1048576
  · exact lawLexG _ _ _ _ (Nat.le_trans (lexA_len s) (by omega)) s w hs ht (fun w1 => mLex s w1 hs) (fun w1 h1 => iLex s w1 hs h1)
  · have hs' : (1048576 : Int) < s.size := by omega
    go_enter Tryd.func3, Tryd.ntmps3
    go_wp2_with fail
    go_ret
    exact ⟨rfl, Below.refl _ _⟩

end Go.Proofs.YtplhjcohkjomgaaDoor
