import Derived.Test.YtjdncofdjabkiaaDoorQ21
namespace Go.Proofs.YtjdncofdjabkiaaDoor
open Go.RowKit Go.Joins

theorem builder_next {B b : Nat} {bs : List Value} {A C : World} (h : Lib.IsBuilderF 56 5 B b bs A) (k : Below A.heap.size A C) : Lib.IsBuilderF 56 5 B b bs C := by
  have key : ∀ p, Lib.BuilderAtF 56 5 B b p bs A → Lib.BuilderAtF 56 5 B b p bs C := by
    rintro p ⟨hB, v, hbk, hown, hne⟩
    refine ⟨hB, v, (k.block b (Array.getElem?_eq_some_iff.1 hbk).1).trans hbk, ⟨hown.1, ?_⟩, hne⟩
    rcases hown.2 with h' | ⟨g, cap, cur, fz, rfl, h1, h2, h3⟩
    · exact .inl h'
    · exact .inr ⟨g, cap, cur, fz, rfl, h1, (k.block g (Array.getElem?_eq_some_iff.1 h2).1).trans h2, h3⟩
  exact h.elim (fun x => .inl (key _ x)) (fun x => .inr (key _ x))

set_option maxHeartbeats 1000000 in
set_option maxRecDepth 100000 in
theorem iLen (B b : Nat) (l : List UInt8) (w : World) (h : Lib.IsBuilderF 56 5 B b (Lib.byteCells l) w) : Calls Tryd.prog 32 #[.pointer (some ⟨b, 0, none⟩)] w fun e w' => e = .returned (.int .i64 l.length) ∧ w' = w := by
  obtain ⟨ao, cap, c1⟩ : ∃ ao cap, w.cell? ⟨b, 1, none⟩ = some (.slice ao l.length cap) := by
    have key : ∀ p, Lib.BuilderAtF 56 5 B b p (Lib.byteCells l) w → ∃ ao cap, w.cell? ⟨b, 1, none⟩ = some (.slice ao l.length cap) := by
      rintro p ⟨hB, v, hbk, hown, hne⟩
      have c1 : w.cell? ⟨b, 1, none⟩ = some v := by rw [Lib.cell_of_heap hbk]; rfl
      rcases hown.2 with ⟨rfl, h0⟩ | ⟨g, cap, cur, fz, rfl, _⟩
      · rw [Lib.byteCells_length] at h0
        exact ⟨none, 0, by rw [c1, h0]⟩
      · rw [Lib.byteCells_length] at c1
        exact ⟨_, _, c1⟩
    exact h.elim (key _) (key _)
  clear h
  go_enter Tryd.func32, Tryd.ntmps32
  go_wp2_with fail
  go_ret
  exact ⟨rfl, rfl⟩

theorem put_text (B b : Nat) (l : List UInt8) (x : ByteArray) (w : World) (h : Lib.IsBuilderF 56 5 B b (Lib.byteCells l) w) (hl : l.length + x.size ≤ 70368744177664) (hBw : B ≤ w.heap.size) :
    Calls Tryd.prog 34 #[.pointer (some ⟨b, 0, none⟩), .string x] w fun e w' => (∃ y z, e = .returned (.tuple #[y, z])) ∧ Lib.IsBuilderF 56 5 B b (Lib.byteCells (l ++ x.data.toList)) w' ∧ Below B w w' := by
  refine (writeString_any B b _ x w h (by rw [Lib.byteCells_length]; omega) hBw).mono ?_
  rintro e w' ⟨rfl, hw⟩
  refine ⟨⟨_, _, rfl⟩, ?_, hw.2.1⟩
  rw [Lib.byteCells_append]
  exact .inr hw.1

/-- What stands while the tokens are written. -/
structure SA (w : World) (B mb j : Nat) (f : Nat → Tq) (wr : World) : Prop where
  bel : Below w.heap.size w wr
  low : w.heap.size ≤ B
  mlt : mb < B
  Blt : B < wr.heap.size
  km : KM wr mb
  bld : Lib.IsBuilderF 56 5 B B (Lib.byteCells (saF f j)) wr

theorem SA.next {w wr wx : World} {B mb j : Nat} {f : Nat → Tq} (h : SA w B mb j f wr) (k : Below wr.heap.size wr wx) : SA w B mb j f wx :=
  ⟨h.bel.trans (k.mono h.bel.size), h.low, h.mlt, Nat.lt_of_lt_of_le h.Blt k.size, h.km.below k (Nat.lt_trans h.mlt h.Blt), builder_next h.bld k⟩

theorem SA.wrote {w wr wx : World} {B mb j : Nat} {f : Nat → Tq} {l : List UInt8} (h : SA w B mb j f wr) (k : Below B wr wx) (hb : Lib.IsBuilderF 56 5 B B (Lib.byteCells l) wx) (e : saF f (j + 1) = l) : SA w B mb (j + 1) f wx :=
  ⟨h.bel.trans (k.mono h.low), h.low, h.mlt, Nat.lt_of_lt_of_le h.Blt k.size, h.km.below k h.mlt, by rw [e]; exact hb⟩

set_option maxHeartbeats 2000000 in
set_option maxRecDepth 100000 in
theorem iAll (ao : Option Addr) (n cp : Nat) (f : Nat → Tq) (w : World) (ht : TabB w.heap.size w) (hn : totF f n + n ≤ 1048576) (h : Toks w ao n f) :
    Calls Tryd.prog 21 #[.slice ao n cp] w fun e w' => e = .returned (.string ⟨(saF f n).toArray⟩) ∧ Below w.heap.size w w' := by
  have H := hide h
  have HK := hide (iKept w ht)
  clear h ht
  go_enter Tryd.func21, Tryd.ntmps21
  go_wp2_with fail
  refine HK.out.mono ?_
  rintro e w1 ⟨rfl, km1, lt1, b1⟩
  have HS0 : Hid (SA w w1.heap.size w.heap.size 0 f (w1.alloc (.cells #[.pointer none, .slice none 0 0] 56))) :=
    ⟨b1.trans ((below_alloc1 w1 _).mono b1.size), b1.size, lt1, by simp, km1.below (below_alloc1 w1 _) lt1, Lib.IsBuilderF.of (Lib.fresh_isBuilder 56 5 w1)⟩
  clear HK
  go_wp2_with fail
  go_loopw [6, 7, 11] (fun _ _ i wr => ∃ j : Nat, i = .int .i64 j ∧ j ≤ n ∧ Hid (SA w w1.heap.size w.heap.size j f wr)) (fun _ _ i _ => n - (intOf i).toNat)
  case atStart => exact ⟨0, rfl, Nat.zero_le _, HS0⟩
  case round =>
    obtain ⟨j, rfl, hj, HS⟩ := hrel
    by_cases hlt : j < n
    · have hlt' : (j : Int) < n := by omega
      have hln := saF_len f j
      have htm := totF_mono f (Nat.le_of_lt hlt)
      have htt : totF f (j + 1) ≤ totF f n := totF_mono f hlt
      have hts : totF f (j + 1) = totF f j + (f j).t.size := rfl
      have hsl := sp_len (f j).k (f j).t
      obtain ⟨g, rfl, hR, hg⟩ := H.out (by omega)
      obtain ⟨x0, x1, x2, x3⟩ := hR.keep (HS.out.bel.block g hg) j hlt
      obtain ⟨X, hX⟩ : ∃ X, X = sp (f j).k (f j).t := ⟨_, rfl⟩
      have HJ : Hid (saF f (j + 1) = joinS (saF f j) X) := by unfold Hid; rw [hX]; rfl
      have HW : Hid (∀ wx, SA w w1.heap.size w.heap.size j f wx → Calls Tryd.prog 31 #[.map (some w.heap.size), .agg #[.int .i64 (f j).k, .string (f j).t, .int .i64 (f j).l, .int .i64 (f j).c]] wx fun e w' => e = .returned (.string X) ∧ Below wx.heap.size wx w') := fun wx h => by
        rw [hX]; exact iWith w.heap.size _ _ _ _ wx (Nat.lt_trans h.mlt h.Blt) h.km
      rw [← hX] at hsl
      clear hR hX
      generalize (f j).k = fk at *
      generalize (f j).t = ft at *
      generalize (f j).l = fl at *
      generalize (f j).c = fc at *
      have HSa := hide (HS.out.next (below_alloc1 wr (.cells #[.int .i64 fk, .string ft, .int .i64 fl, .int .i64 fc] 33)))
      have hms : (saF f j).length + 1 + X.size ≤ 70368744177664 := by omega
      obtain ⟨m, hm⟩ : ∃ m, m = (saF f j).length := ⟨_, rfl⟩
      have HM := hide hm
      rw [← hm] at hms
      clear hm hln htm htt hts hsl
      have HLn : Hid (∀ wx, SA w w1.heap.size w.heap.size j f wx → Calls Tryd.prog 32 #[.pointer (some ⟨w1.heap.size, 0, none⟩)] wx fun e w' => e = .returned (.int .i64 m) ∧ w' = wx) := fun wx h => by
        rw [HM.out]; exact iLen _ _ _ wx h.bld
      go_wp2_with fail
      refine (HW.out _ HSa.out).mono ?_
      rintro e w2 ⟨rfl, b2⟩
      have HS2 := hide (HSa.out.next b2)
      clear HS HSa HW x0 x1 x2 x3
      rcases z1 : X.toList.isEmpty with _ | _
      · by_cases h0 : m = 0
        · have HJ2 : Hid (saF f (j + 1) = saF f j ++ X.data.toList) := by
            unfold Hid; rw [HJ.out]; unfold joinS; rw [z1, if_neg (by decide), if_pos (by rw [← HM.out]; exact h0)]
          have HP := hide (put_text w1.heap.size w1.heap.size (saF f j) X w2 HS2.out.bld (by rw [← HM.out]; omega) (Nat.le_of_lt HS2.out.Blt))
          have h0' : ¬ (0 : Int) < m := by omega
          clear HJ h0
          go_wp2_with fail
          refine (HLn.out _ HS2.out).mono ?_
          rintro e w3 ⟨rfl, rfl⟩
          go_wp2_with fail
          refine HP.out.mono ?_
          rintro e w4 ⟨⟨y4, z4, rfl⟩, hI4, b4⟩
          have HS4 := hide (HS2.out.wrote b4 hI4 HJ2.out)
          clear hI4
          go_wp2_with fail
          go_roundw
          case rel => exact ⟨j + 1, by go_num, by omega, HS4⟩
          case measure => simp [intOf]; omega
        · have HJ2 : Hid (saF f (j + 1) = saF f j ++ [32] ++ X.data.toList) := by
            unfold Hid; rw [HJ.out]; unfold joinS; rw [z1, if_neg (by decide), if_neg (by rw [← HM.out]; exact h0)]
          have HP1 := hide (put_byte w1.heap.size w1.heap.size (saF f j) 32 w2 HS2.out.bld (by rw [← HM.out]; omega) (Nat.le_of_lt HS2.out.Blt))
          have HL1 : Hid ((saF f j ++ [32]).length + X.size ≤ 70368744177664) := by unfold Hid; rw [List.length_append, ← HM.out]; exact hms
          have h0' : (0 : Int) < m := by omega
          clear HJ h0
          go_wp2_with fail
          refine (HLn.out _ HS2.out).mono ?_
          rintro e w3 ⟨rfl, rfl⟩
          go_wp2_with fail
          refine HP1.out.mono ?_
          rintro e w4 ⟨rfl, hI4, b4, -⟩
          have HP2 := hide (put_text w1.heap.size w1.heap.size (saF f j ++ [32]) X w4 hI4 HL1.out (Nat.le_trans (Nat.le_of_lt HS2.out.Blt) b4.size))
          clear hI4
          go_wp2_with fail
          refine HP2.out.mono ?_
          rintro e w5 ⟨⟨y4, z4, rfl⟩, hI5, b5⟩
          have HS4 := hide (HS2.out.wrote (b4.trans b5) hI5 HJ2.out)
          clear hI5
          go_wp2_with fail
          go_roundw
          case rel => exact ⟨j + 1, by go_num, by omega, HS4⟩
          case measure => simp [intOf]; omega
      · have HJ2 : Hid (saF f (j + 1) = saF f j) := by
          unfold Hid; rw [HJ.out]; unfold joinS; rw [if_pos z1]
        have HS4 : Hid (SA w w1.heap.size w.heap.size (j + 1) f w2) := by
          have h2 := HS2.out
          exact ⟨h2.bel, h2.low, h2.mlt, h2.Blt, h2.km, by rw [HJ2.out]; exact h2.bld⟩
        clear HJ
        go_wp2_with fail
        go_roundw
        case rel => exact ⟨j + 1, by go_num, by omega, HS4⟩
        case measure => simp [intOf]; omega
    · have hlt' : ¬ (j : Int) < n := by omega
      obtain rfl : j = n := by omega
      have hz := HS.out.Blt
      have HSt := hide (Tryd.Builder_String_any_k w1.heap.size w1.heap.size (saF f j) wr HS.out.bld (by omega))
      go_wp2_with fail
      refine HSt.out.mono ?_
      rintro e w3 ⟨rfl, -, b3, -⟩
      go_wp2_with fail
      go_ret
      exact ⟨rfl, HS.out.bel.trans (b3.mono HS.out.low)⟩

end Go.Proofs.YtjdncofdjabkiaaDoor

namespace Go.Proofs.YtjdncofdjabkiaaDoor
open Go.RowKit Go.Joins

/-- A slice of n tokens, from a place of a block on, the block below B. -/
def SRow (w : World) (ao : Option Addr) (n : Nat) (f : Nat → Tq) (B : Nat) : Prop :=
  0 < n → ∃ g o, ao = some ⟨g, o, none⟩ ∧ g < B ∧ ∀ i, i < n → (f i).t.size ≤ maxLen ∧ w.cell? ⟨g, o + i * 4, none⟩ = some (.int .i64 (f i).k) ∧ w.cell? ⟨g, o + i * 4 + 1, none⟩ = some (.string (f i).t) ∧ w.cell? ⟨g, o + i * 4 + 2, none⟩ = some (.int .i64 (f i).l) ∧ w.cell? ⟨g, o + i * 4 + 3, none⟩ = some (.int .i64 (f i).c)

theorem SRow.below {w w' : World} {ao : Option Addr} {n : Nat} {f : Nat → Tq} {B C : Nat} (h : SRow w ao n f B) (hb : Below C w w') (hB : B ≤ C) : SRow w' ao n f B := fun hn => by
  obtain ⟨g, o, e, hg, hr⟩ := h hn
  refine ⟨g, o, e, hg, fun i hi => ?_⟩
  obtain ⟨h0, h1, h2, h3, h4⟩ := hr i hi
  have hk := hb.block g (Nat.lt_of_lt_of_le hg hB)
  exact ⟨h0, (World.cell?_of_block hk).trans h1, (World.cell?_of_block hk).trans h2, (World.cell?_of_block hk).trans h3, (World.cell?_of_block hk).trans h4⟩

set_option maxHeartbeats 1000000 in
set_option maxRecDepth 100000 in
theorem szToks (ao : Option Addr) (n cp : Nat) (f : Nat → Tq) (w : World) (hm : n ≤ maxLen) (h : SRow w ao n f w.heap.size) :
    Calls Tryd.prog 18 #[.slice ao n cp, .int .i64 1048576] w fun e w' => e = .returned (.int .i64 (if 1048576 < totF f n + n then -1 else (1048576 : Int) - n - totF f n)) ∧ Below w.heap.size w w' := by
  have hmx : n ≤ 9223372036854775807 := by simp only [maxLen] at hm; omega
  obtain ⟨X, hX⟩ : ∃ X : Int, X = (if 1048576 < totF f n + n then -1 else (1048576 : Int) - n - totF f n) := ⟨_, rfl⟩
  rw [← hX]
  by_cases h1 : 1048576 < n
  · have h1' : (1048576 : Int) - n < 0 := by omega
    have HX : Hid (X = -1) := by unfold Hid; rw [hX, if_pos (by omega)]
    clear hX h1
    go_enter Tryd.func18, Tryd.ntmps18
    go_wp2_with fail
    go_ret
    exact ⟨by rw [HX.out]; rfl, Below.refl _ _⟩
  · have h1' : ¬ (1048576 : Int) - n < 0 := by omega
    have H := hide h
    have HX := hide hX
    clear h hX
    go_enter Tryd.func18, Tryd.ntmps18
    go_wp2_with fail
    go_loopw [1, 5] (fun s1 s5 wr => ∃ (L : Int) (i : Nat), s1 = .int .i64 L ∧ s5 = .int .i64 i ∧ 0 ≤ L ∧ i ≤ n ∧ L = (1048576 : Int) - n - totF f i ∧ Below w.heap.size w wr) (fun _ s5 _ => n - (intOf s5).toNat)
    case atStart => exact ⟨_, 0, rfl, rfl, by omega, Nat.zero_le _, by simp [totF], Below.refl _ _⟩
    case round =>
      obtain ⟨L, i, rfl, rfl, hL0, hi, hL, hb⟩ := hrel
      by_cases hlt : i < n
      · have hlt' : (i : Int) < n := by omega
        obtain ⟨g, o, rfl, hg, hR⟩ := (H.out.below hb (Nat.le_refl _)) (by omega)
        obtain ⟨x0, x1, x2, x3, x4⟩ := hR i hlt
        have hts : totF f (i + 1) = totF f i + (f i).t.size := rfl
        have htt : totF f (i + 1) ≤ totF f n := totF_mono f hlt
        have HZ : Hid (∀ wx, Calls Tryd.prog 12 #[.agg #[.int .i64 (f i).k, .string (f i).t, .int .i64 (f i).l, .int .i64 (f i).c], .int .i64 L] wx fun e w' => e = .returned (.int .i64 (if L < (f i).t.size then -1 else L - (f i).t.size)) ∧ Below wx.heap.size wx w') := fun wx => szTok _ _ _ L _ wx hL0 (by omega) x0
        clear hR x0
        by_cases h2 : L < (f i).t.size
        · rw [if_pos h2] at HZ
          have HX1 : Hid (X = -1) := by unfold Hid; rw [HX.out, if_pos (by omega)]
          clear HX h2 hL htt hts
          go_wp2_with fail
          refine (HZ.out _).mono ?_
          rintro e w2 ⟨rfl, b2⟩
          go_wp2_with fail
          go_ret
          exact ⟨by rw [HX1.out]; rfl, hb.trans (b2.mono hb.size)⟩
        · rw [if_neg h2] at HZ
          obtain ⟨Z, hZ⟩ : ∃ Z : Int, Z = L - (f i).t.size := ⟨_, rfl⟩
          rw [← hZ] at HZ
          have hZ0 : ¬ Z < 0 := by omega
          have HL : Hid (Z = (1048576 : Int) - n - totF f (i + 1)) := by unfold Hid; omega
          clear h2 hL htt hts hZ
          go_wp2_with fail
          refine (HZ.out _).mono ?_
          rintro e w2 ⟨rfl, b2⟩
          go_wp2_with fail
          go_roundw
          case rel => exact ⟨Z, i + 1, rfl, by go_num, by omega, by omega, HL.out, hb.trans (b2.mono hb.size)⟩
          case measure => simp [intOf]; omega
      · have hlt' : ¬ (i : Int) < n := by omega
        obtain rfl : i = n := by omega
        have HL : Hid (X = L) := by unfold Hid; rw [HX.out, if_neg (by omega), hL]
        clear HX hL
        go_wp2_with fail
        go_ret
        exact ⟨by rw [HL.out]; rfl, hb⟩

end Go.Proofs.YtjdncofdjabkiaaDoor

namespace Go.Proofs.YtjdncofdjabkiaaDoor
open Go.RowKit Go.Joins

/-- Room for n cells. -/
def Room (W : World) (g n : Nat) : Prop := ∀ j, j < n → (∃ v, W.cell? ⟨g, j, none⟩ = some v) ∧ W.frozen? ⟨g, j, none⟩ = false

theorem Room.below {A B : World} {n g m : Nat} (h : Room A g m) (k : Below n A B) (hg : g < n) : Room B g m := fun j hj => by
  obtain ⟨⟨v, hv⟩, hf⟩ := h j hj
  exact ⟨⟨v, (k.cell (p := ⟨g, j, none⟩) hg).trans hv⟩, (k.frozen (p := ⟨g, j, none⟩) hg).trans hf⟩

theorem Room.set {A : World} {g m : Nat} (h : Room A g m) (i : Nat) (v : Value) : Room (A.setCell ⟨g, i, none⟩ v) g m := fun j hj => by
  obtain ⟨⟨u, hu⟩, hf⟩ := h j hj
  refine ⟨?_, by rw [World.frozen?_setCell]; exact hf⟩
  by_cases e : j = i
  · subst e
    exact ⟨v, World.cell?_setCell_same' _ _ _ (by rw [hu]; rfl)⟩
  · exact ⟨u, by rw [World.cell?_setCell_other _ _ _ _ (by simp)]; exact hu⟩

theorem Room.made (w : World) (cur : Array Value) (t : TypeId) : Room (w.alloc (.cells cur t)) w.heap.size cur.size := fun j hj =>
  ⟨⟨cur[j], by simp [hj]⟩, by simp⟩

theorem infoT : (Tryd.prog.info? 33).map (fun i => (i.zero, i.size, i.bytes)) = some (some (.agg #[.int .i64 0, .string ⟨#[]⟩, .int .i64 0, .int .i64 0]), 4, 40) := by kernel_rfl

theorem run_make_toks (n : Nat) (hn : n ≤ 1048576) (w : World) :
    (Instr.makeSlice 22 (.int .i64 (n : Int)) (.int .i64 (n : Int))).run Tryd.prog w = .ok (.slice (some ⟨w.heap.size, 0, none⟩) n n) (w.alloc (.cells (madeCells (Value.agg #[.int .i64 0, .string ⟨#[]⟩, .int .i64 0, .int .i64 0]).cells (n * 4)) 33)) := by
  obtain ⟨i, hi, hzz⟩ := Option.map_eq_some_iff.1 infoT
  simp only [Prod.mk.injEq] at hzz
  obtain ⟨hz, hs, hb⟩ := hzz
  have hr := run_make (P := Tryd.prog) w 22 33 i _ Tryd.underlying22 hi hz .i64 .i64 n n (by omega) (Int.le_refl _) (by rw [hb]; omega) (by omega)
  simp only [Int.toNat_natCast, hs] at hr
  exact hr

set_option maxHeartbeats 1000000 in
set_option maxRecDepth 100000 in
theorem toToks (ao : Option Addr) (n cp : Nat) (f : Nat → Tq) (B : Nat) (w : World) (hn : n ≤ 1048576) (hB : B ≤ w.heap.size) (h : SRow w ao n f B) :
    Calls Tryd.prog 20 #[.slice ao n cp] w fun e w' => e = .returned (.slice (some ⟨w.heap.size, 0, none⟩) n n) ∧ Row w' w.heap.size n f ∧ w.heap.size < w'.heap.size ∧ Below w.heap.size w w' := by
  have hmk := run_make_toks n hn
  have H := hide h
  clear h
  go_enter Tryd.func20, Tryd.ntmps20
  go_wp2_with fail
  clear hmk
  obtain ⟨W0, hW0⟩ : ∃ W0, w.alloc (.cells (madeCells #[.int .i64 0, .string ⟨#[]⟩, .int .i64 0, .int .i64 0] (n * 4)) 33) = W0 := ⟨_, rfl⟩
  have hR0 : Room W0 w.heap.size (n * 4) := by
    rw [← hW0]
    have := Room.made w (madeCells #[.int .i64 0, .string ⟨#[]⟩, .int .i64 0, .int .i64 0] (n * 4)) 33
    rwa [size_madeCells] at this
  have hB0 : Below w.heap.size w W0 := by rw [← hW0]; exact below_alloc1 _ _
  have hz0 : W0.heap.size = w.heap.size + 1 := by rw [← hW0]; simp
  rw [hW0]
  clear hW0
  go_loopw [4] (fun s4 wr => ∃ i : Nat, s4 = .int .i64 i ∧ i ≤ n ∧ Row wr w.heap.size i f ∧ Room wr w.heap.size (n * 4) ∧ Below w.heap.size w wr ∧ w.heap.size < wr.heap.size) (fun s4 _ => n - (intOf s4).toNat)
  case atStart => exact ⟨0, rfl, Nat.zero_le _, fun j hj => absurd hj (Nat.not_lt_zero _), hR0, hB0, by omega⟩
  case round =>
    obtain ⟨i, rfl, hi, hRw, hRo, hb, hz⟩ := hrel
    by_cases hlt : i < n
    · have hlt' : (i : Int) < n := by omega
      obtain ⟨g, o, rfl, hg, hR⟩ := (H.out.below hb hB) (by omega)
      obtain ⟨-, x1, x2, x3, x4⟩ := hR i hlt
      have HC : Hid (∀ wx, Calls Tryd.prog 14 #[.agg #[.int .i64 (f i).k, .string (f i).t, .int .i64 (f i).l, .int .i64 (f i).c]] wx fun e w' => e = .returned (.agg #[.int .i64 (f i).k, .string (f i).t, .int .i64 (f i).l, .int .i64 (f i).c]) ∧ Below wx.heap.size wx w') := fun wx => toTok _ _ _ _ wx
      clear hR
      go_wp2_with fail
      refine (HC.out _).mono ?_
      rintro e w1 ⟨rfl, b1⟩
      have hRo1 := hRo.below b1 hz
      obtain ⟨⟨v0, a0⟩, f0⟩ := hRo1 (i * 4) (by omega)
      obtain ⟨⟨v1, a1⟩, f1⟩ := hRo1 (i * 4 + 1) (by omega)
      obtain ⟨⟨v2, a2⟩, f2⟩ := hRo1 (i * 4 + 2) (by omega)
      obtain ⟨⟨v3, a3⟩, f3⟩ := hRo1 (i * 4 + 3) (by omega)
      have HRo := hide hRo1
      have HRw := hide (hRw.keep (b1.block _ hz))
      clear hRo1 hRo hRw
      go_wp2_with fail
      go_roundw
      case rel =>
        have hz1 := b1.size
        obtain ⟨w4, hw4⟩ : ∃ w4, (((w1.setCell ⟨w.heap.size, i * 4, none⟩ (.int .i64 (f i).k)).setCell ⟨w.heap.size, i * 4 + 1, none⟩ (.string (f i).t)).setCell ⟨w.heap.size, i * 4 + 2, none⟩ (.int .i64 (f i).l)).setCell ⟨w.heap.size, i * 4 + 3, none⟩ (.int .i64 (f i).c) = w4 := ⟨_, rfl⟩
        have hz4 : w4.heap.size = w1.heap.size := by rw [← hw4]; simp [World.setCell]
        have hR4 : Room w4 w.heap.size (n * 4) := by rw [← hw4]; exact (((HRo.out.set _ _).set _ _).set _ _).set _ _
        have n0' : w4.cell? ⟨w.heap.size, i * 4, none⟩ = some (.int .i64 (f i).k) := by
          rw [← hw4, World.cell?_setCell_other _ _ _ _ (by simp), World.cell?_setCell_other _ _ _ _ (by simp), World.cell?_setCell_other _ _ _ _ (by simp)]
          exact World.cell?_setCell_same' _ _ _ (by rw [a0]; rfl)
        have n1' : w4.cell? ⟨w.heap.size, i * 4 + 1, none⟩ = some (.string (f i).t) := by
          rw [← hw4, World.cell?_setCell_other _ _ _ _ (by simp), World.cell?_setCell_other _ _ _ _ (by simp)]
          exact World.cell?_setCell_same' _ _ _ (by rw [World.cell?_setCell_other _ _ _ _ (by simp), a1]; rfl)
        have n2' : w4.cell? ⟨w.heap.size, i * 4 + 2, none⟩ = some (.int .i64 (f i).l) := by
          rw [← hw4, World.cell?_setCell_other _ _ _ _ (by simp)]
          exact World.cell?_setCell_same' _ _ _ (by rw [World.cell?_setCell_other _ _ _ _ (by simp), World.cell?_setCell_other _ _ _ _ (by simp), a2]; rfl)
        have n3' : w4.cell? ⟨w.heap.size, i * 4 + 3, none⟩ = some (.int .i64 (f i).c) := by
          rw [← hw4]
          exact World.cell?_setCell_same' _ _ _ (by rw [World.cell?_setCell_other _ _ _ _ (by simp), World.cell?_setCell_other _ _ _ _ (by simp), World.cell?_setCell_other _ _ _ _ (by simp), a3]; rfl)
        have hold : ∀ j, j < i * 4 → w4.cell? ⟨w.heap.size, j, none⟩ = w1.cell? ⟨w.heap.size, j, none⟩ := fun j hj => by
          rw [← hw4, World.cell?_setCell_other _ _ _ _ (by simp), World.cell?_setCell_other _ _ _ _ (by simp), World.cell?_setCell_other _ _ _ _ (by simp), World.cell?_setCell_other _ _ _ _ (by simp)]
        have hbw : Below w.heap.size w1 w4 := by
          rw [← hw4]
          refine ((((Below.refl _ _).setCell ?_ _).setCell ?_ _).setCell ?_ _).setCell ?_ _ <;> simp
        rw [hw4]
        clear hw4
        refine ⟨i + 1, by go_num, by omega, fun j hj => ?_, hR4, (hb.trans (b1.mono hb.size)).trans hbw, by omega⟩
        by_cases hji : j < i
        · obtain ⟨c0, c1, c2, c3⟩ := HRw.out j hji
          exact ⟨(hold _ (by omega)).trans c0, (hold _ (by omega)).trans c1, (hold _ (by omega)).trans c2, (hold _ (by omega)).trans c3⟩
        · obtain rfl : j = i := by omega
          exact ⟨n0', n1', n2', n3'⟩
      case measure => simp [intOf]; omega
    · have hlt' : ¬ (i : Int) < n := by omega
      obtain rfl : i = n := by omega
      go_wp2_with fail
      go_ret
      exact ⟨rfl, hRw, hz, hb⟩

end Go.Proofs.YtjdncofdjabkiaaDoor

namespace Go.Proofs.YtjdncofdjabkiaaDoor
open Go.RowKit Go.Joins

theorem Row.toks {w : World} {g n : Nat} {f : Nat → Tq} (h : Row w g n f) (hg : g < w.heap.size) : Toks w (some ⟨g, 0, none⟩) n f := fun _ => ⟨g, rfl, h, hg⟩

set_option maxHeartbeats 1000000 in
set_option maxRecDepth 100000 in
theorem lawAll (ao : Option Addr) (n cp : Nat) (f : Nat → Tq) (w : World) (ht : TabB w.heap.size w) (hm : n ≤ maxLen) (h : SRow w ao n f w.heap.size) :
    Calls Tryd.prog 6 #[.slice ao n cp] w fun e w' => e = .returned (.bool true) ∧ Below w.heap.size w w' := by
  have HZ := hide (szToks ao n cp f w hm h)
  by_cases hb : 1048576 < totF f n + n
  · rw [if_pos hb] at HZ
    clear ht hm h hb
    go_enter Tryd.func6, Tryd.ntmps6
    go_wp2_with fail
    refine HZ.out.mono ?_
    rintro e w1 ⟨rfl, b1⟩
    go_wp2_with fail
    go_ret
    exact ⟨rfl, b1⟩
  · rw [if_neg hb] at HZ
    obtain ⟨Z, hZ⟩ : ∃ Z : Int, Z = (1048576 : Int) - n - totF f n := ⟨_, rfl⟩
    rw [← hZ] at HZ
    have hZ0 : ¬ Z < 0 := by omega
    have HC : Hid (∀ wx, Below w.heap.size w wx → Calls Tryd.prog 20 #[.slice ao n cp] wx fun e w' => e = .returned (.slice (some ⟨wx.heap.size, 0, none⟩) n n) ∧ Row w' wx.heap.size n f ∧ wx.heap.size < w'.heap.size ∧ Below wx.heap.size wx w') :=
      fun wx hx => toToks ao n cp f w.heap.size wx (by omega) hx.size (h.below hx (Nat.le_refl _))
    obtain ⟨S, hS⟩ : ∃ S : ByteArray, S = ⟨(saF f n).toArray⟩ := ⟨_, rfl⟩
    have HF : Hid (∀ g wx, Toks wx (some ⟨g, 0, none⟩) n f → Calls Tryd.prog 19 #[.slice (some ⟨g, 0, none⟩) n n] wx fun e w' => e = .returned (.string S) ∧ Below wx.heap.size wx w') := fun g wx hx => by
      rw [hS]; exact mAll _ n n f wx (by omega) hx
    have HI : Hid (∀ g wx, Below w.heap.size w wx → Toks wx (some ⟨g, 0, none⟩) n f → Calls Tryd.prog 21 #[.slice (some ⟨g, 0, none⟩) n n] wx fun e w' => e = .returned (.string S) ∧ Below wx.heap.size wx w') := fun g wx hb hx => by
      rw [hS]; exact iAll _ n n f wx (ht.up hb hb.size) (by omega) hx
    have HE : Hid (∀ g g' wx, Toks wx (some ⟨g, 0, none⟩) n f → Toks wx (some ⟨g', 0, none⟩) n f → Calls Tryd.prog 22 #[.slice (some ⟨g, 0, none⟩) n n, .slice (some ⟨g', 0, none⟩) n n] wx fun e w' => e = .returned (.bool true) ∧ Below wx.heap.size wx w') := fun g g' wx h1 h2 =>
      eqToks _ _ n n n f wx (by omega) h1 h2
    clear ht hm h hb hZ hS
    go_enter Tryd.func6, Tryd.ntmps6
    go_wp2_with fail
    refine HZ.out.mono ?_
    rintro e w1 ⟨rfl, b1⟩
    clear HZ
    go_wp2_with fail
    refine (HC.out _ b1).mono ?_
    rintro e w2 ⟨rfl, r2, l2, b2⟩
    have h2 := b1.trans (b2.mono b1.size)
    have T2 := hide (r2.toks l2)
    clear r2 l2 b2
    go_wp2_with fail
    refine (HF.out _ _ T2.out).mono ?_
    rintro e w3 ⟨rfl, b3⟩
    have h3 := h2.trans (b3.mono h2.size)
    clear b3 T2 HF
    go_wp2_with fail
    refine (HC.out _ h3).mono ?_
    rintro e w4 ⟨rfl, r4, l4, b4⟩
    have h4 := h3.trans (b4.mono h3.size)
    have T4 := hide (r4.toks l4)
    clear r4 l4 b4
    go_wp2_with fail
    refine (HI.out _ _ h4 T4.out).mono ?_
    rintro e w5 ⟨rfl, b5⟩
    have h5 := h4.trans (b5.mono h4.size)
    have T5 := hide (T4.out.next b5)
    clear b5 T4 HI
    go_wp2_with fail
    refine (HC.out _ h5).mono ?_
    rintro e w6 ⟨rfl, r6, l6, b6⟩
    have h6 := h5.trans (b6.mono h5.size)
    have T6 := hide (r6.toks l6)
    have T7 := hide (T5.out.next b6)
    clear r6 l6 b6 T5
    go_wp2_with fail
    refine (HE.out _ _ _ T7.out T6.out).mono ?_
    rintro e w7 ⟨rfl, b7⟩
    have h7 := h6.trans (b7.mono h6.size)
    clear b7
    go_wp2_with fail
    go_ret
    exact ⟨rfl, h7⟩

end Go.Proofs.YtjdncofdjabkiaaDoor

namespace Go.Proofs.YtjdncofdjabkiaaDoor
open Go.ChangeShapes Go.WideShapes Go.ChangeAt Go.RowKit Go.Joins

theorem four_cells {W : World} {b o : Nat} {cs : List Value} (h : W.cells? 0 ⟨b, o, none⟩ 4 = some cs) :
    ∃ u0 u1 u2 u3, cs = [u0, u1, u2, u3] ∧ W.cell? ⟨b, o, none⟩ = some u0 ∧ W.cell? ⟨b, o + 1, none⟩ = some u1 ∧ W.cell? ⟨b, o + 2, none⟩ = some u2 ∧ W.cell? ⟨b, o + 3, none⟩ = some u3 := by
  unfold World.cells? at h
  rw [if_pos (Nat.zero_le _)] at h
  simp only [List.range_succ, List.range_zero, List.nil_append, List.cons_append, List.mapM_cons, List.mapM_nil, addr_add, Nat.add_zero] at h
  cases h0 : W.cell? ⟨b, o, none⟩ with
  | none => simp [h0] at h
  | some u0 =>
    cases h1 : W.cell? ⟨b, o + 1, none⟩ with
    | none => simp [h0, h1] at h
    | some u1 =>
      cases h2 : W.cell? ⟨b, o + 2, none⟩ with
      | none => simp [h0, h1, h2] at h
      | some u2 =>
        cases h3 : W.cell? ⟨b, o + 3, none⟩ with
        | none => simp [h0, h1, h2, h3] at h
        | some u3 => simp [h0, h1, h2, h3] at h; exact ⟨u0, u1, u2, u3, h.symm, rfl, rfl, rfl, rfl⟩

set_option maxRecDepth 100000 in
theorem open_toks {H : Type} {enc : TypeId × Value → H} {W : World} {r : Reach} {base : Nat} {v : Value} {d : DataW H} {p : List MemPlace}
    (hv : Value.okWide Tryd.prog W r base 37 v) (h : DataW.Trod enc Tryd.prog W 0 (fun _ => true) true 37 v d p) :
    ∃ (a : Option Addr) (n cap : Nat) (f : Nat → Tq), v = .slice a n cap ∧ n ≤ maxLen ∧ SRow W a n f W.heap.size := by
  obtain ⟨a, len, cap, rfl⟩ := okWide_slice Tryd.underlying37 hv
  obtain ⟨fuel, hf⟩ := h
  rcases DataW.trod_slice Tryd.underlying37 hf with ⟨e2, -⟩ | ⟨ad, len', cap', elems, rest, n', hn', e2, -, -, hlc, hcm, hel, hE, -, -⟩
  · simp only [Value.cells, List.cons.injEq, and_true, Value.slice.injEq] at e2
    obtain ⟨rfl, rfl, rfl⟩ := e2
    exact ⟨none, 0, 0, fun _ => ⟨0, ⟨#[]⟩, 0, 0⟩, rfl, Nat.zero_le _, fun h => absurd h (Nat.lt_irrefl _)⟩
  · simp only [Value.cells, List.cons.injEq, and_true, Value.slice.injEq] at e2
    obtain ⟨rfl, rfl, rfl⟩ := e2
    rw [cells30] at hE
    obtain ⟨b, off, spot⟩ := ad
    rcases Nat.eq_zero_or_pos len with h0 | hp
    · subst h0
      exact ⟨_, 0, cap, fun _ => ⟨0, ⟨#[]⟩, 0, 0⟩, rfl, Nat.zero_le _, fun h => absurd h (Nat.lt_irrefl _)⟩
    · have hel' : ∀ i, i < len → ∃ cs, W.cells? 0 ((⟨b, off, spot⟩ : Addr).add (i * 4)) 4 = some cs ∧ ∃ q : Tq, cs = [.int .i64 q.k, .string q.t, .int .i64 q.l, .int .i64 q.c] ∧ q.t.size ≤ maxLen := by
        intro i hi
        have h1 := hE i hi
        obtain ⟨y, hy⟩ : ∃ y, elems[i]? = some y := ⟨elems[i], by simp [hel ▸ hi]⟩
        rw [hy, Option.bind_eq_some_iff] at h1
        obtain ⟨cs, hc, ht⟩ := h1
        obtain ⟨k, t, l, c, e, hs⟩ := tok_cells n' cs y ht
        exact ⟨cs, hc, ⟨k, t, l, c⟩, e, hs⟩
      have hspot : spot = none := by
        obtain ⟨cs, hc, -⟩ := hel' 0 hp
        unfold World.cells? at hc
        rw [if_pos (Nat.zero_le _)] at hc
        simp only [List.range_succ, List.range_zero, List.nil_append, List.cons_append, List.mapM_cons, List.mapM_nil] at hc
        cases h0 : W.cell? (((⟨b, off, spot⟩ : Addr).add (0 * 4)).add 0) with
        | none => simp [h0] at hc
        | some u => simpa [Addr.add] using World.cell?_spot h0
      subst hspot
      have hel2 : ∀ i, ∃ q : Tq, i < len → q.t.size ≤ maxLen ∧ W.cell? ⟨b, off + i * 4, none⟩ = some (.int .i64 q.k) ∧ W.cell? ⟨b, off + i * 4 + 1, none⟩ = some (.string q.t) ∧ W.cell? ⟨b, off + i * 4 + 2, none⟩ = some (.int .i64 q.l) ∧ W.cell? ⟨b, off + i * 4 + 3, none⟩ = some (.int .i64 q.c) := fun i => by
        by_cases hi : i < len
        · obtain ⟨cs, hc, q, rfl, hs⟩ := hel' i hi
          rw [addr_add] at hc
          obtain ⟨u0, u1, u2, u3, e, c0, c1, c2, c3⟩ := four_cells hc
          simp only [List.cons.injEq, and_true] at e
          obtain ⟨rfl, rfl, rfl, rfl⟩ := e
          exact ⟨q, fun _ => ⟨hs, c0, c1, c2, c3⟩⟩
        · exact ⟨⟨0, ⟨#[]⟩, 0, 0⟩, fun h => absurd h hi⟩
      refine ⟨_, len, cap, fun i => (hel2 i).choose, rfl, Nat.le_trans hlc hcm, fun _ => ⟨b, off, rfl, ?_, fun i hi => (hel2 i).choose_spec hi⟩⟩
      exact block_lt_of_cell ((hel2 0).choose_spec hp).2.1

end Go.Proofs.YtjdncofdjabkiaaDoor

