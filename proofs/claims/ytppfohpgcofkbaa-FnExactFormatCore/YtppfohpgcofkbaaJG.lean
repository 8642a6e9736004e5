import Derived.Test.YtppfohpgcofkbaaJJ
namespace Go.Proofs.Ytppfohpgcofkbaa
open Go.RowKit Go.Joins

theorem at_below {T e : TypeId} {B b : Nat} {p : Value} {ls : List Value} {w w' : World} (h : Lib.BuilderAtF T e B b p ls w) (k : Below w.heap.size w w') : Lib.BuilderAtF T e B b p ls w' := by
  obtain ⟨hB, v, hb, hown, hne⟩ := h
  have hlt : b < w.heap.size := (Array.getElem?_eq_some_iff.1 hb).1
  refine ⟨hB, v, (k.block b hlt).trans hb, ⟨hown.1, ?_⟩, hne⟩
  rcases hown.2 with hn | ⟨g, cap, cur, fz, hv, hbg, hg, rest⟩
  · exact .inl hn
  · exact .inr ⟨g, cap, cur, fz, hv, hbg, (k.block g (Array.getElem?_eq_some_iff.1 hg).1).trans hg, rest⟩

theorem isb_below {T e : TypeId} {B b : Nat} {ls : List Value} {w w' : World} (h : Lib.IsBuilderF T e B b ls w) (k : Below w.heap.size w w') : Lib.IsBuilderF T e B b ls w' :=
  h.elim (fun x => .inl (at_below x k)) (fun x => .inr (at_below x k))

theorem isb_lt {T e : TypeId} {B b : Nat} {ls : List Value} {w : World} (h : Lib.IsBuilderF T e B b ls w) : b < w.heap.size := by
  rcases h with ⟨_, v, hb, _⟩ | ⟨_, v, hb, _⟩
  · exact (Array.getElem?_eq_some_iff.1 hb).1
  · exact (Array.getElem?_eq_some_iff.1 hb).1

/-- The writer in block b holds l, and the rest of the world is as it was, but rows of bytes above b. -/
structure Wr (b : Nat) (l : List UInt8) (w w' : World) : Prop where
  is : Lib.IsBuilderF 55 5 b b (Lib.byteCells l) w'
  low : Below b w w'
  kept : Lib.OthersKept 5 (some b) w w'

theorem kept_below {b : Nat} {w w' : World} (k : Below w.heap.size w w') : Lib.OthersKept 5 (some b) w w' := by
  intro i o hi _ _
  exact (k.block i (Array.getElem?_eq_some_iff.1 hi).1).trans hi

theorem Wr.next {b : Nat} {l : List UInt8} {w w1 w2 : World} (h : Wr b l w w1) (k : Below w1.heap.size w1 w2) : Wr b l w w2 :=
  ⟨isb_below h.is k, h.low.trans (k.mono (Nat.le_of_lt (isb_lt h.is))), h.kept.trans (kept_below k)⟩
theorem Wr.trans {b : Nat} {l m : List UInt8} {w w1 w2 : World} (h : Wr b l w w1) (k : Wr b m w1 w2) : Wr b m w w2 := ⟨k.is, h.low.trans k.low, h.kept.trans k.kept⟩
theorem Wr.start {b : Nat} {l : List UInt8} {w : World} (h : Lib.IsBuilderF 55 5 b b (Lib.byteCells l) w) : Wr b l w w := ⟨h, Below.refl _ _, Lib.OthersKept.refl _ _ _⟩
theorem Wr.alloc {b : Nat} {l : List UInt8} {w w1 : World} (h : Wr b l w w1) (o : Obj) : Wr b l w (w1.alloc o) := h.next (below_alloc1 w1 o)

/-- A block of texts. -/
def Tx (q b : Nat) (xs : List ByteArray) (w : World) : Prop := q ≠ b ∧ ∃ (cs : Array Value) (fz : Nat × Nat), w.heap[q]? = some (.cells cs 9 fz) ∧ ∀ (j : Nat) (x : ByteArray), xs[j]? = some x → cs[j]? = some (.string x)

theorem Tx.cell {q b : Nat} {xs : List ByteArray} {w : World} (h : Tx q b xs w) {j : Nat} {x : ByteArray} (hj : xs[j]? = some x) : w.cell? ⟨q, j, none⟩ = some (.string x) := by
  obtain ⟨_, cs, fz, hb, hc⟩ := h
  rw [Lib.cell_of_heap hb]
  exact hc j x hj

theorem Tx.kept {q b : Nat} {xs : List ByteArray} {w w' : World} (h : Tx q b xs w) (k : Lib.OthersKept 5 (some b) w w') : Tx q b xs w' := by
  obtain ⟨hne, cs, fz, hb, hc⟩ := h
  refine ⟨hne, cs, fz, k q _ hb (fun e => hne (Option.some.inj e)) ?_, hc⟩
  intro c f e
  injection e with _ e2 _
  exact absurd e2 (by decide)

def cat (xs : List ByteArray) : List UInt8 := xs.flatMap bs

theorem cat_take {xs : List ByteArray} {j : Nat} (h : j < xs.length) : cat (xs.take (j + 1)) = cat (xs.take j) ++ bs xs[j] := by
  unfold cat
  rw [List.take_add_one, List.getElem?_eq_getElem h, List.flatMap_append]
  show _ ++ (bs xs[j] ++ []) = _
  rw [List.append_nil]

theorem cat_le (xs : List ByteArray) (j : Nat) : (cat (xs.take j)).length ≤ (cat xs).length := by
  have h : cat xs = cat (xs.take j) ++ cat (xs.drop j) := by unfold cat; rw [← List.flatMap_append, List.take_append_drop]
  rw [h, List.length_append]
  omega

theorem write55 (b : Nat) (l : List UInt8) (s : ByteArray) (w : World) (h : Lib.IsBuilderF 55 5 b b (Lib.byteCells l) w) (hl : l.length + (bs s).length ≤ 70368744177664) :
    Calls Try.prog 71 #[.pointer (some ⟨b, 0, none⟩), .string s] w fun e w' => (∃ x y, e = .returned (.tuple #[x, y])) ∧ Wr b (l ++ bs s) w w' := by
  have hz := bs_len s
  refine (writeString55 b b _ s w h (by rw [Lib.byteCells_length]; omega) (Nat.le_of_lt (isb_lt h))).mono ?_
  rintro e w' ⟨rfl, hw⟩
  refine ⟨⟨_, _, rfl⟩, ?_, hw.2.1, hw.2.2⟩
  rw [Lib.byteCells_append]
  exact .inr hw.1

set_option maxHeartbeats 2000000 in
set_option maxRecDepth 100000 in
theorem put_any (b q c : Nat) (xs : List ByteArray) (l : List UInt8) (w : World) (h : Lib.IsBuilderF 55 5 b b (Lib.byteCells l) w) (hq : Tx q b xs w) (hl : l.length + (cat xs).length ≤ 70368744177664) (hn : xs.length ≤ 16777216) :
    Calls Try.prog 69 #[.pointer (some ⟨b, 0, none⟩), .slice (some ⟨q, 0, none⟩) xs.length c] w fun e w' => e = .returned (.tuple #[]) ∧ Wr b (l ++ cat xs) w w' := by
  go_enter Try.func69, Try.ntmps69
  go_wp2_with fail
  go_loopw [5, 8] (fun _ s8 wr => ∃ j : Nat, s8 = .int .i64 j ∧ j ≤ xs.length ∧ Hid (Wr b (l ++ cat (xs.take j)) w wr)) (fun _ s8 _ => xs.length - (intOf s8).toNat)
  case atStart => exact ⟨0, rfl, Nat.zero_le _, by unfold Hid; rw [List.take_zero]; simpa [cat] using Wr.start h⟩
  case round =>
    obtain ⟨j, rfl, hj, HW⟩ := hrel
    by_cases hlt : j < xs.length
    · have hlt' : (j : Int) < xs.length := by omega
      have hc : wr.cell? ⟨q, j, none⟩ = some (.string xs[j]) := (hq.kept HW.out.kept).cell (List.getElem?_eq_getElem hlt)
      have HP := hide (write55 b _ xs[j] wr HW.out.is (by
        have h1 := cat_le xs (j + 1)
        rw [cat_take hlt, List.length_append] at h1
        rw [List.length_append]
        omega))
      go_wp2_with fail
      refine HP.out.mono ?_
      rintro e w2 ⟨⟨x2, y2, rfl⟩, hW2⟩
      have HW2 := hide hW2
      clear hW2
      go_wp2_with fail
      go_roundw
      case rel => exact ⟨j + 1, by go_num, by omega, by unfold Hid; rw [cat_take hlt, ← List.append_assoc]; exact HW.out.trans HW2.out⟩
      case measure => simp [intOf]; omega
    · have hlt' : ¬ (j : Int) < xs.length := by omega
      go_wp2_with fail
      go_end0
      have hE : xs.take j = xs := List.take_of_length_le (by omega)
      have := HW.out
      rw [hE] at this
      exact ⟨rfl, this⟩

end Go.Proofs.Ytppfohpgcofkbaa

namespace Go.Proofs.Ytppfohpgcofkbaa
open Go.RowKit Go.Joins

theorem Tx.new {b : Nat} {w : World} (xs : List ByteArray) (h : b < w.heap.size) : Tx w.heap.size b xs (w.alloc (.cells (xs.map Value.string).toArray 9)) := by
  refine ⟨by omega, _, _, (MapKept.heap_alloc w _).1, fun j x hj => ?_⟩
  rw [List.getElem?_toArray, List.getElem?_map, hj]
  rfl

theorem put_new (b c : Nat) (xs : List ByteArray) (l : List UInt8) (w : World) (h : Lib.IsBuilderF 55 5 b b (Lib.byteCells l) w) (hl : l.length + (cat xs).length ≤ 70368744177664) (hn : xs.length ≤ 16777216) :
    Calls Try.prog 69 #[.pointer (some ⟨b, 0, none⟩), .slice (some ⟨w.heap.size, 0, none⟩) xs.length c] (w.alloc (.cells (xs.map Value.string).toArray 9)) fun e w' => e = .returned (.tuple #[]) ∧ Wr b (l ++ cat xs) w w' := by
  have hw := (Wr.start h).alloc (.cells (xs.map Value.string).toArray 9)
  refine (put_any b w.heap.size c xs l _ hw.is (Tx.new xs (isb_lt h)) hl hn).mono ?_
  rintro e w' ⟨rfl, k⟩
  exact ⟨rfl, hw.trans k⟩

theorem put1 (b : Nat) (x : ByteArray) (l : List UInt8) (w : World) (h : Lib.IsBuilderF 55 5 b b (Lib.byteCells l) w) (hl : l.length + (bs x).length ≤ 70368744177664) :
    Calls Try.prog 69 #[.pointer (some ⟨b, 0, none⟩), .slice (some ⟨w.heap.size, 0, none⟩) 1 1] (w.alloc (.cells #[.string x] 9)) fun e w' => e = .returned (.tuple #[]) ∧ Wr b (l ++ bs x) w w' := by
  have e : cat [x] = bs x := by simp [cat]
  have := put_new b 1 [x] l w h (by rw [e]; exact hl) (by simp)
  rw [e] at this
  exact this

theorem put2 (b : Nat) (x y : ByteArray) (l : List UInt8) (w : World) (h : Lib.IsBuilderF 55 5 b b (Lib.byteCells l) w) (hl : l.length + (bs x ++ bs y).length ≤ 70368744177664) :
    Calls Try.prog 69 #[.pointer (some ⟨b, 0, none⟩), .slice (some ⟨w.heap.size, 0, none⟩) 2 2] (w.alloc (.cells #[.string x, .string y] 9)) fun e w' => e = .returned (.tuple #[]) ∧ Wr b (l ++ (bs x ++ bs y)) w w' := by
  have e : cat [x, y] = bs x ++ bs y := by simp [cat]
  have := put_new b 2 [x, y] l w h (by rw [e]; exact hl) (by simp)
  rw [e] at this
  exact this

theorem put3 (b : Nat) (x y z : ByteArray) (l : List UInt8) (w : World) (h : Lib.IsBuilderF 55 5 b b (Lib.byteCells l) w) (hl : l.length + (bs x ++ bs y ++ bs z).length ≤ 70368744177664) :
    Calls Try.prog 69 #[.pointer (some ⟨b, 0, none⟩), .slice (some ⟨w.heap.size, 0, none⟩) 3 3] (w.alloc (.cells #[.string x, .string y, .string z] 9)) fun e w' => e = .returned (.tuple #[]) ∧ Wr b (l ++ (bs x ++ bs y ++ bs z)) w w' := by
  have e : cat [x, y, z] = bs x ++ bs y ++ bs z := by simp [cat]
  have := put_new b 3 [x, y, z] l w h (by rw [e]; exact hl) (by simp)
  rw [e] at this
  exact this

/-- A term below the writer, at a point of its write: the box of its pointer and its cells. -/
theorem wr_box {d : Nd} {b : Nat} {T : TypeId} {l l' : List UInt8} {W V : World} (hT : T ≠ 5) (h : Lib.IsBuilderF 55 5 b b (Lib.byteCells l) W) (k : Wr b l' (W.alloc (.cells #[d.ptr] T)) V) : V.cell? ⟨W.heap.size, 0, none⟩ = some d.ptr := by
  have h1 := k.kept W.heap.size _ (MapKept.heap_alloc W _).1 (fun e => by have := isb_lt h; have := Option.some.inj e; omega) (fun c f e => by injection e with _ e2 _; exact hT e2)
  rw [Lib.cell_of_heap h1]
  rfl

set_option maxHeartbeats 2000000 in
set_option maxRecDepth 100000 in
theorem wk_0 (d : Nd) (b : Nat) (nm : ByteArray) (ka : Option Addr) (kc : Nat) (l : List UInt8) (W : World) (hd : d.b < b) (h1 : W.cell? ⟨d.b, d.o + 1, none⟩ = some (.string nm)) (h5 : W.cell? ⟨d.b, d.o + 5, none⟩ = some (.slice ka 0 kc)) (h : Lib.IsBuilderF 55 5 b b (Lib.byteCells l) W) (hl : l.length + (bs nm).length ≤ 70368744177664) :
    Calls Try.prog 68 #[.agg #[d.ptr], .pointer (some ⟨b, 0, none⟩)] W fun e W' => e = .returned (.tuple #[]) ∧ Wr b (l ++ bs nm) W W' := by
  have hw := (Wr.start h).alloc (.cells #[d.ptr] 96)
  have hlt := isb_lt h
  obtain ⟨V0, hV0⟩ : ∃ V, W.alloc (.cells #[d.ptr] 96) = V := ⟨_, rfl⟩
  have hB := wr_box (T := 96) (by decide) h (Wr.start hw.is)
  have b0 := below_alloc1 W (.cells #[d.ptr] 96)
  have c1 : (W.alloc (.cells #[d.ptr] 96)).cell? ⟨d.b, d.o + 1, none⟩ = some (.string nm) := (b0.cell (p := ⟨d.b, d.o + 1, none⟩) (by show d.b < _; omega)).trans h1
  have c5 : (W.alloc (.cells #[d.ptr] 96)).cell? ⟨d.b, d.o + 5, none⟩ = some (.slice ka 0 kc) := (b0.cell (p := ⟨d.b, d.o + 5, none⟩) (by show d.b < _; omega)).trans h5
  have HP := hide (put1 b nm l _ hw.is hl)
  rw [hV0] at hB c1 c5 HP
  have HW : Hid (Wr b l W V0) := by rw [← hV0]; exact hw
  have HV0 := hide hV0
  clear hV0 hw h b0 h1 h5 hl
  unfold Nd.ptr at hB HV0 ⊢
  go_enter Try.func68, Try.ntmps68
  go_upto_region 1 with fail
  rw [HV0.out]
  clear HV0
  go_wp2_with fail
  refine HP.out.mono ?_
  rintro e w2 ⟨rfl, hw2⟩
  have HW2 := hide (HW.out.trans hw2)
  clear hw2
  go_wp2_with fail
  (try simp only [Exit.inBlock, Exit.then])
  refine bodyPost_ret (results_none rfl _ _ _) rfl ?_
  exact ⟨rfl, HW2.out⟩

theorem i_quote6 (w : World) : Calls Try.prog 87 #[.int .i64 6] w fun e w' => e = .returned (.int .i32 39) ∧ w' = w := by
  go_enter Try.func87, Try.ntmps87
  go_wp2_with fail
  go_ret
  exact ⟨rfl, rfl⟩

theorem i_quote7 (k : Int) (hk : (k == 6) = false) (w : World) : Calls Try.prog 87 #[.int .i64 k] w fun e w' => e = .returned (.int .i32 34) ∧ w' = w := by
  go_enter Try.func87, Try.ntmps87
  go_wp2_with fail
  go_ret
  exact ⟨rfl, rfl⟩

set_option maxHeartbeats 2000000 in
set_option maxRecDepth 100000 in
theorem wk_num (d : Nd) (b : Nat) (mn : Bool) (la : Option Addr) (lc ln : Nat) (lk : Fo) (h3 : Fit E lk (rep (E 0) ln)) (l : List UInt8) (W : World) (hs3 : lk.Sub W (fun c => c < b) la ln lc) (hd : d.b < b) (h1 : W.cell? ⟨d.b, d.o + 2, none⟩ = some (.bool mn)) (h5 : W.cell? ⟨d.b, d.o + 3, none⟩ = some (.slice la ln lc)) (h : Lib.IsBuilderF 55 5 b b (Lib.byteCells l) W) (hl : l.length + (num mn (rdU lk)).length ≤ 70368744177664) :
    Calls Try.prog 77 #[.agg #[d.ptr], .pointer (some ⟨b, 0, none⟩)] W fun e W' => e = .returned (.tuple #[]) ∧ Wr b (l ++ num mn (rdU lk)) W W' := by
  have hw := (Wr.start h).alloc (.cells #[d.ptr] 99)
  have hlt := isb_lt h
  obtain ⟨V0, hV0⟩ : ∃ V, W.alloc (.cells #[d.ptr] 99) = V := ⟨_, rfl⟩
  have hB := wr_box (T := 99) (by decide) h (Wr.start hw.is)
  have b0 := below_alloc1 W (.cells #[d.ptr] 99)
  have c1 : (W.alloc (.cells #[d.ptr] 99)).cell? ⟨d.b, d.o + 2, none⟩ = some (.bool mn) := (b0.cell (p := ⟨d.b, d.o + 2, none⟩) (by show d.b < _; omega)).trans h1
  have c5 : (W.alloc (.cells #[d.ptr] 99)).cell? ⟨d.b, d.o + 3, none⟩ = some (.slice la ln lc) := (b0.cell (p := ⟨d.b, d.o + 3, none⟩) (by show d.b < _; omega)).trans h5
  have HC := hide (B.iText_any mn (.slice la ln lc) ln _ _ (lim_of h3 (Fo.Sub.below b0 (fun c hc => by omega) hs3)))
  have hl2 := (lr_of h3 hs3).2
  obtain ⟨X, hX⟩ : ∃ X, num mn (rdU lk) = X := ⟨_, rfl⟩
  rw [hX] at hl ⊢
  unfold num at hX
  rw [hl2] at hX
  rw [hX] at HC
  rw [hV0] at hB c1 c5 HC
  have HW : Hid (Wr b l W V0) := by rw [← hV0]; exact hw
  have HP : Hid (∀ V, Below V0.heap.size V0 V → _) := fun V k => put1 b ⟨X.toArray⟩ l V (HW.out.next k).is hl
  have HV0 := hide hV0
  clear hV0 hw h b0 h1 h5 hl hs3 h3 hX hl2
  unfold Nd.ptr at hB HV0 ⊢
  go_enter Try.func77, Try.ntmps77
  go_upto_region 1 with fail
  rw [HV0.out]
  clear HV0
  go_wp2_with fail
  refine HC.out.mono ?_
  rintro e w1 ⟨rfl, b1⟩
  have HP1 := hide (HP.out w1 b1)
  have HW1 := hide (HW.out.next b1)
  clear hB c1 c5 HC HP b1
  go_wp2_with fail
  refine HP1.out.mono ?_
  rintro e w2 ⟨rfl, hw2⟩
  have HW2 := hide (HW1.out.trans hw2)
  clear hw2
  go_wp2_with fail
  go_end0
  exact ⟨rfl, HW2.out⟩

end Go.Proofs.Ytppfohpgcofkbaa

namespace Go.Proofs.Ytppfohpgcofkbaa
open Go.RowKit Go.Joins

theorem iq39 (s : ByteArray) (w : World) (hs : s.size ≤ 1048576) : Calls Try.prog 86 #[.string s, .int .i32 39] w fun e w' => e = .returned (.string ⟨(escT 39 s).toArray⟩) ∧ Below w.heap.size w w' := iQuote s 39 (by decide) w hs

set_option maxHeartbeats 2000000 in
set_option maxRecDepth 100000 in
theorem wk_chr (d : Nd) (b : Nat) (nm : ByteArray) (l : List UInt8) (W : World) (hsz : nm.size ≤ 1048576) (hd : d.b < b) (h1 : W.cell? ⟨d.b, d.o + 1, none⟩ = some (.string nm)) (h : Lib.IsBuilderF 55 5 b b (Lib.byteCells l) W) (hl : l.length + (escT 39 nm).length ≤ 70368744177664) :
    Calls Try.prog 85 #[.agg #[d.ptr], .pointer (some ⟨b, 0, none⟩)] W fun e W' => e = .returned (.tuple #[]) ∧ Wr b (l ++ escT 39 nm) W W' := by
  have hw := (Wr.start h).alloc (.cells #[d.ptr] 100)
  have hlt := isb_lt h
  obtain ⟨V0, hV0⟩ : ∃ V, W.alloc (.cells #[d.ptr] 100) = V := ⟨_, rfl⟩
  have b0 := below_alloc1 W (.cells #[d.ptr] 100)
  have c1 : (W.alloc (.cells #[d.ptr] 100)).cell? ⟨d.b, d.o + 1, none⟩ = some (.string nm) := (b0.cell (p := ⟨d.b, d.o + 1, none⟩) (by show d.b < _; omega)).trans h1
  have HS : Hid (∀ V l', Wr b l' V0 V → V.cell? ⟨W.heap.size, 0, none⟩ = some d.ptr ∧ V.cell? ⟨d.b, d.o + 1, none⟩ = some (.string nm)) := by
    rw [← hV0]
    exact fun V l' k => ⟨wr_box (T := 100) (by decide) h k, (k.low.cell (p := ⟨d.b, d.o + 1, none⟩) hd).trans c1⟩
  have HW : Hid (Wr b l W V0) := by rw [← hV0]; exact hw
  have HD : Hid (Wr b l V0 V0.drew) := (Wr.start HW.out.is).next (Below.refl _ _).drew
  have kk0 := HS.out _ _ HD.out
  have HQ := hide (iq39 nm V0.drew hsz)
  obtain ⟨X, hX⟩ : ∃ X, escT 39 nm = X := ⟨_, rfl⟩
  rw [hX] at HQ hl ⊢
  have HP : Hid (∀ V, Wr b l V0 V → _) := fun V k => put1 b ⟨X.toArray⟩ l V k.is hl
  have HV0 := hide hV0
  clear hV0 hw h b0 h1 c1 hX hl hsz
  unfold Nd.ptr at kk0 HV0 HS ⊢
  go_enter Try.func85, Try.ntmps85
  go_upto_region 1 with fail
  rw [HV0.out]
  clear HV0
  go_region_held3 (fun V => V.cell? ⟨W.heap.size, 0, none⟩ = some (.pointer (some ⟨d.b, d.o, none⟩)) ∧ V.cell? ⟨d.b, d.o + 1, none⟩ = some (.string nm))
    (first | with_reducible exact kk0 | with_reducible exact kk1 | with_reducible exact kk1b | with_reducible exact kk2)
    (first
      | (go_at_call 87; refine (i_quote6 V0.drew).mono ?_; rintro e _ ⟨rfl, rfl⟩)
      | (go_at_call 86; refine HQ.out.mono ?_; rintro e w1 ⟨rfl, b1⟩; have HW1 := hide (HD.out.next b1); have HP1 := hide (HP.out w1 HW1.out); have kk1 := HS.out w1 _ HW1.out; have kk1b := HS.out _ _ (HW1.out.alloc (.cells #[.string ⟨X.toArray⟩] 9)); clear b1)
      | (go_at_call 69; refine HP1.out.mono ?_; rintro e w2 ⟨rfl, hw2⟩; have HW2 := hide (HW1.out.trans hw2); have kk2 := HS.out w2 _ HW2.out; clear hw2)
      | fail)
  all_goals
    go_wp2_with fail
    go_end0
    exact ⟨rfl, HW.out.trans HW2.out⟩

theorem iq34 (s : ByteArray) (w : World) (hs : s.size ≤ 1048576) : Calls Try.prog 86 #[.string s, .int .i32 34] w fun e w' => e = .returned (.string ⟨(escT 34 s).toArray⟩) ∧ Below w.heap.size w w' := iQuote s 34 (by decide) w hs

set_option maxHeartbeats 2000000 in
set_option maxRecDepth 100000 in
theorem wk_txt (d : Nd) (b : Nat) (nm : ByteArray) (l : List UInt8) (W : World) (hsz : nm.size ≤ 1048576) (hd : d.b < b) (h1 : W.cell? ⟨d.b, d.o + 1, none⟩ = some (.string nm)) (h : Lib.IsBuilderF 55 5 b b (Lib.byteCells l) W) (hl : l.length + (escT 34 nm).length ≤ 70368744177664) :
    Calls Try.prog 110 #[.agg #[d.ptr], .pointer (some ⟨b, 0, none⟩)] W fun e W' => e = .returned (.tuple #[]) ∧ Wr b (l ++ escT 34 nm) W W' := by
  have hw := (Wr.start h).alloc (.cells #[d.ptr] 107)
  have hlt := isb_lt h
  obtain ⟨V0, hV0⟩ : ∃ V, W.alloc (.cells #[d.ptr] 107) = V := ⟨_, rfl⟩
  have b0 := below_alloc1 W (.cells #[d.ptr] 107)
  have c1 : (W.alloc (.cells #[d.ptr] 107)).cell? ⟨d.b, d.o + 1, none⟩ = some (.string nm) := (b0.cell (p := ⟨d.b, d.o + 1, none⟩) (by show d.b < _; omega)).trans h1
  have HS : Hid (∀ V l', Wr b l' V0 V → V.cell? ⟨W.heap.size, 0, none⟩ = some d.ptr ∧ V.cell? ⟨d.b, d.o + 1, none⟩ = some (.string nm)) := by
    rw [← hV0]
    exact fun V l' k => ⟨wr_box (T := 107) (by decide) h k, (k.low.cell (p := ⟨d.b, d.o + 1, none⟩) hd).trans c1⟩
  have HW : Hid (Wr b l W V0) := by rw [← hV0]; exact hw
  have HD : Hid (Wr b l V0 V0.drew) := (Wr.start HW.out.is).next (Below.refl _ _).drew
  have kk0 := HS.out _ _ HD.out
  have HQ := hide (iq34 nm V0.drew hsz)
  obtain ⟨X, hX⟩ : ∃ X, escT 34 nm = X := ⟨_, rfl⟩
  rw [hX] at HQ hl ⊢
  have HP : Hid (∀ V, Wr b l V0 V → _) := fun V k => put1 b ⟨X.toArray⟩ l V k.is hl
  have HV0 := hide hV0
  clear hV0 hw h b0 h1 c1 hX hl hsz
  unfold Nd.ptr at kk0 HV0 HS ⊢
  go_enter Try.func110, Try.ntmps110
  go_upto_region 1 with fail
  rw [HV0.out]
  clear HV0
  go_region_held3 (fun V => V.cell? ⟨W.heap.size, 0, none⟩ = some (.pointer (some ⟨d.b, d.o, none⟩)) ∧ V.cell? ⟨d.b, d.o + 1, none⟩ = some (.string nm))
    (first | with_reducible exact kk0 | with_reducible exact kk1 | with_reducible exact kk1b | with_reducible exact kk2)
    (first
      | (go_at_call 87; refine (i_quote7 7 (by decide) V0.drew).mono ?_; rintro e _ ⟨rfl, rfl⟩)
      | (go_at_call 86; refine HQ.out.mono ?_; rintro e w1 ⟨rfl, b1⟩; have HW1 := hide (HD.out.next b1); have HP1 := hide (HP.out w1 HW1.out); have kk1 := HS.out w1 _ HW1.out; have kk1b := HS.out _ _ (HW1.out.alloc (.cells #[.string ⟨X.toArray⟩] 9)); clear b1)
      | (go_at_call 69; refine HP1.out.mono ?_; rintro e w2 ⟨rfl, hw2⟩; have HW2 := hide (HW1.out.trans hw2); have kk2 := HS.out w2 _ HW2.out; clear hw2)
      | fail)
  all_goals
    go_wp2_with fail
    go_end0
    exact ⟨rfl, HW.out.trans HW2.out⟩

end Go.Proofs.Ytppfohpgcofkbaa

namespace Go.Proofs.Ytppfohpgcofkbaa
open Go.RowKit Go.Joins

/-- Terms of at most m are written as their text. -/
def WtC (b m : Nat) : Prop := ∀ (d : Nd) (l : List UInt8) (W : World), d.x.size ≤ m → d.Ok W (fun c => c < b) → (rdK d.x).good → d.x.wt ≤ 1048576 → Lib.IsBuilderF 55 5 b b (Lib.byteCells l) W → l.length + (fx d.x).length ≤ 70368744177664 → Calls Try.prog 20 #[.pointer (some ⟨b, 0, none⟩), d.ptr] W fun e W' => e = .returned (.tuple #[]) ∧ Wr b (l ++ fx d.x) W W'

theorem Rd.wr {fs : List Fld} {n b i : Nat} {a : Option Addr} {r : Fo} {l : List UInt8} {A B : World} (h : Rd E fs n b a i r A) (k : Wr b l A B) (hb : b ≤ A.heap.size) : Rd E fs n b a i r B :=
  h.kept (S := fun c => c < b) (Kept.of_below k.low (fun _ _ hc => hc)) hb (fun _ hc => hc)

set_option maxHeartbeats 4000000 in
set_option maxRecDepth 100000 in
theorem wk_kids (b m : Nat) (ih : WtC b m) (ka : Option Addr) (kn kc : Nat) (kk : Fo) (W : World) (l : List UInt8) (h5 : Fit E kk (rep (E 3) kn)) (hs5 : kk.Sub W (fun c => c < b) ka kn kc) (hgd : (rdK kk).good) (hsz : kk.size ≤ m ∧ kk.wt ≤ 1048576) (hkx : kn ≤ 16777216) (h : Lib.IsBuilderF 55 5 b b (Lib.byteCells l) W) (hl : l.length + ((KT kk).flatMap (fun t => [32] ++ t)).length ≤ 70368744177664) :
    Calls Try.prog 70 #[.pointer (some ⟨b, 0, none⟩), .slice ka kn kc] W fun e W' => e = .returned (.tuple #[]) ∧ Wr b (l ++ (KT kk).flatMap (fun t => [32] ++ t)) W W' := by
  have hlt := isb_lt h
  obtain ⟨X, hX⟩ : ∃ X, (KT kk).flatMap (fun t => [32] ++ t) = X := ⟨_, rfl⟩
  have HRD := hide (Rd.start h5 hs5)
  have HI : Hid ((KT kk).flatMap (fun t => [32] ++ t) = X ∧ (rdK kk).good ∧ (kk.size ≤ m ∧ kk.wt ≤ 1048576)) := ⟨hX, hgd, hsz⟩
  rw [hX] at hl ⊢
  have HIH := hide ih
  have HL := hide hl
  have HST := hide h
  clear hX h5 hs5 hgd ih hsz hl h
  go_enter Try.func70, Try.ntmps70
  go_wp2_with fail
  go_loopw [4, 7] (fun _ s7 wr => ∃ (i : Nat) (r : Fo) (li : List UInt8), s7 = .int .i64 i ∧ i ≤ kn ∧ Hid (Rd E (E 3) kn b ka i r wr) ∧ Hid (li ++ (KT r).flatMap (fun t => [32] ++ t) = l ++ X ∧ (rdK r).good ∧ (r.size ≤ m ∧ r.wt ≤ 1048576)) ∧ Hid (Wr b li W wr)) (fun _ s7 _ => kn - (intOf s7).toNat)
  case atStart => exact ⟨0, kk, l, rfl, Nat.zero_le _, HRD, ⟨by rw [HI.out.1], HI.out.2.1, HI.out.2.2⟩, Wr.start HST.out⟩
  case round =>
    obtain ⟨i, r, li, rfl, hin, hRd, hinv, HW⟩ := hrel
    have hltw := isb_lt HW.out.is
    by_cases hi : i < kn
    · obtain ⟨x, q, xb, o, rfl, hx, rfl, hb', hc, hxs, hR1⟩ := hRd.out.next hi (by decide)
      have hii : (i : Int) < kn := by omega
      obtain ⟨g1, g2, ⟨g3, g4⟩⟩ := hinv.out
      rw [KT_app hx] at g1
      rw [goodK_app hx] at g2
      rw [Fo.app_size] at g3
      rw [Fo.app_wt] at g4
      have HE : Hid ((li ++ [32] ++ fx x) ++ (KT q).flatMap (fun t => [32] ++ t) = l ++ X) := by
        show _ = _
        rw [← g1]
        simp
      have HLN : Hid (li.length + 1 ≤ 70368744177664 ∧ (li ++ [32]).length + (fx x).length ≤ 70368744177664) := by
        have h1 := congrArg List.length HE.out
        have h2 := HL.out
        simp only [List.length_append, List.length_cons, List.length_nil] at h1 h2
        refine ⟨by omega, ?_⟩
        simp only [List.length_append, List.length_cons, List.length_nil]
        omega
      have HP := hide (put1 b ⟨#[32]⟩ li wr HW.out.is (by show li.length + 1 ≤ _; exact HLN.out.1))
      have HT : Hid (∀ V, Wr b (li ++ [32]) wr V → Calls Try.prog 20 #[.pointer (some ⟨b, 0, none⟩), .pointer (some ⟨xb, o + i * 7, none⟩)] V fun e W' => e = .returned (.tuple #[]) ∧ Wr b (li ++ [32] ++ fx x) V W') := fun V k =>
        HIH.out ⟨xb, o + i * 7, x⟩ (li ++ [32]) V (by show x.size ≤ m; omega) ⟨hx, hc.below k.low hb', hxs.below k.low (fun _ hc => hc), hb'⟩ g2.1 (by show x.wt ≤ _; omega) k.is HLN.out.2
      have HG : Hid ((rdK q).good ∧ q.size ≤ m ∧ q.wt ≤ 1048576) := ⟨g2.2, by omega, by omega⟩
      have HRn : Hid (∀ l' V, Wr b l' wr V → Rd E (E 3) kn b (some ⟨xb, o, none⟩) (i + 1) q V) := fun l' V k => Rd.wr hR1 k (by omega)
      clear hRd hinv g1 g2 g3 g4 hc hxs hx hR1
      go_wp2_with fail
      refine HP.out.mono ?_
      rintro e w1 ⟨rfl, k1⟩
      have HW1 : Hid (Wr b (li ++ [32]) wr w1) := k1
      have HT1 := hide (HT.out w1 HW1.out)
      clear k1 HT HP
      go_wp2_with fail
      refine HT1.out.mono ?_
      rintro e w2 ⟨rfl, k2⟩
      have HW2 : Hid (Wr b (li ++ [32] ++ fx x) wr w2) := HW1.out.trans k2
      clear k2 HT1
      go_wp2_with fail
      go_roundw
      case rel => exact ⟨i + 1, q, _, by go_num, by omega, HRn.out _ _ HW2.out, ⟨HE.out, HG.out.1, HG.out.2⟩, HW.out.trans HW2.out⟩
      case measure => simp [intOf]; omega
    · obtain ⟨rfl, rfl⟩ := hRd.out.done hi
      have hii : ¬ (i : Int) < i := by omega
      have HE : Hid (li = l ++ X) := by
        have g1 := hinv.out.1
        rw [KT_nil, List.flatMap_nil, List.append_nil] at g1
        exact g1
      clear hRd hinv
      go_wp2_with fail
      go_end0
      exact ⟨rfl, by rw [← HE.out]; exact HW.out⟩

end Go.Proofs.Ytppfohpgcofkbaa

namespace Go.Proofs.Ytppfohpgcofkbaa
open Go.RowKit Go.Joins

theorem sub_wr {b : Nat} {l : List UInt8} {a : Option Addr} {n c : Nat} {F : Fo} {A B : World} (h : F.Sub A (fun c => c < b) a n c) (k : Wr b l A B) : F.Sub B (fun c => c < b) a n c :=
  Fo.Sub.below k.low (fun _ hc => hc) h

set_option maxHeartbeats 4000000 in
set_option maxRecDepth 100000 in
theorem wk_4 (d : Nd) (b m : Nat) (ih : WtC b m) (nm : ByteArray) (ka : Option Addr) (kn kc : Nat) (kk : Fo) (l : List UInt8) (W : World) (hd : d.b < b) (h1 : W.cell? ⟨d.b, d.o + 1, none⟩ = some (.string nm)) (h5 : W.cell? ⟨d.b, d.o + 5, none⟩ = some (.slice ka kn kc)) (hk0 : 0 < kn) (hkx : kn ≤ 16777216) (hf5 : Fit E kk (rep (E 3) kn)) (hs5 : kk.Sub W (fun c => c < b) ka kn kc) (hgd : (rdK kk).good) (hsz : kk.size ≤ m ∧ kk.wt ≤ 1048576) (h : Lib.IsBuilderF 55 5 b b (Lib.byteCells l) W) (hl : l.length + ([40] ++ bs nm ++ (KT kk).flatMap (fun t => [32] ++ t) ++ [41]).length ≤ 70368744177664) :
    Calls Try.prog 68 #[.agg #[d.ptr], .pointer (some ⟨b, 0, none⟩)] W fun e W' => e = .returned (.tuple #[]) ∧ Wr b (l ++ ([40] ++ bs nm ++ (KT kk).flatMap (fun t => [32] ++ t) ++ [41])) W W' := by
  have hw := (Wr.start h).alloc (.cells #[d.ptr] 96)
  have hlt := isb_lt h
  obtain ⟨V0, hV0⟩ : ∃ V, W.alloc (.cells #[d.ptr] 96) = V := ⟨_, rfl⟩
  have b0 := below_alloc1 W (.cells #[d.ptr] 96)
  have c1 : (W.alloc (.cells #[d.ptr] 96)).cell? ⟨d.b, d.o + 1, none⟩ = some (.string nm) := (b0.cell (p := ⟨d.b, d.o + 1, none⟩) (by show d.b < _; omega)).trans h1
  have c5 : (W.alloc (.cells #[d.ptr] 96)).cell? ⟨d.b, d.o + 5, none⟩ = some (.slice ka kn kc) := (b0.cell (p := ⟨d.b, d.o + 5, none⟩) (by show d.b < _; omega)).trans h5
  have HS : Hid (∀ V l', Wr b l' V0 V → V.cell? ⟨W.heap.size, 0, none⟩ = some d.ptr ∧ V.cell? ⟨d.b, d.o + 1, none⟩ = some (.string nm) ∧ V.cell? ⟨d.b, d.o + 5, none⟩ = some (.slice ka kn kc)) := by
    rw [← hV0]
    exact fun V l' k => ⟨wr_box (T := 96) (by decide) h k, (k.low.cell (p := ⟨d.b, d.o + 1, none⟩) hd).trans c1, (k.low.cell (p := ⟨d.b, d.o + 5, none⟩) hd).trans c5⟩
  have HW : Hid (Wr b l W V0) := by rw [← hV0]; exact hw
  obtain ⟨X, hX⟩ : ∃ X, (KT kk).flatMap (fun t => [32] ++ t) = X := ⟨_, rfl⟩
  rw [hX] at hl ⊢
  simp only [List.length_append, List.length_cons, List.length_nil] at hl
  have HP := hide (put2 b ⟨#[40]⟩ nm l V0 HW.out.is (by rw [List.length_append]; show l.length + (1 + _) ≤ _; omega))
  have HC : Hid (∀ V l', Wr b l' V0 V → l' = l ++ (bs ⟨#[40]⟩ ++ bs nm) → Calls Try.prog 70 #[.pointer (some ⟨b, 0, none⟩), .slice ka kn kc] V fun e W' => e = .returned (.tuple #[]) ∧ Wr b (l' ++ X) V W') := fun V l' k e => by
    subst e
    have := wk_kids b m ih ka kn kc kk V _ hf5 (sub_wr (sub_wr hs5 HW.out) k) hgd hsz hkx k.is (by
      rw [hX]
      simp only [List.length_append]
      show l.length + (1 + _) + _ ≤ _
      omega)
    rw [hX] at this
    exact this
  have HP2 : Hid (∀ V, Wr b (l ++ (bs ⟨#[40]⟩ ++ bs nm) ++ X) V0 V → _) := fun V k => put1 b ⟨#[41]⟩ _ V k.is (by
    simp only [List.length_append]
    show l.length + (1 + _) + _ + 1 ≤ _
    omega)
  have e1 : l ++ ([40] ++ bs nm ++ X ++ [41]) = l ++ (bs ⟨#[40]⟩ ++ bs nm) ++ X ++ bs ⟨#[41]⟩ := by
    show _ = l ++ ([40] ++ bs nm) ++ X ++ [41]
    simp
  rw [e1]
  obtain ⟨Z, hZ⟩ : ∃ Z, l ++ (bs ⟨#[40]⟩ ++ bs nm) ++ X ++ bs ⟨#[41]⟩ = Z := ⟨_, rfl⟩
  have HZ := hide hZ
  rw [hZ]
  clear hZ e1 c1 c5
  obtain ⟨c0, c1, c5⟩ := HS.out V0 l (Wr.start HW.out.is)
  have hkn2 : ((kn : Int) == 0) = false := by rw [beq_eq_false_iff_ne]; omega
  have HV0 := hide hV0
  clear hV0 hw h b0 h1 h5 hX hl hsz ih hf5 hs5 hgd
  unfold Nd.ptr at c0 HV0 HS ⊢
  go_enter Try.func68, Try.ntmps68
  go_upto_region 1 with fail
  rw [HV0.out]
  clear HV0
  go_wp2_with fail
  refine HP.out.mono ?_
  rintro e w1 ⟨rfl, k1⟩
  have HW1 := hide k1
  have HC1 := hide (HC.out w1 _ HW1.out rfl)
  clear k1 HP HC c0 c1 c5
  obtain ⟨c0, c1, c5⟩ := HS.out w1 _ HW1.out
  go_wp2_with fail
  refine HC1.out.mono ?_
  rintro e w2 ⟨rfl, k2⟩
  have HW2 := hide (HW1.out.trans k2)
  have HP3 := hide (HP2.out w2 HW2.out)
  clear k2 HC1 HP2 c0 c1 c5
  go_wp2_with fail
  refine HP3.out.mono ?_
  rintro e w3 ⟨rfl, k3⟩
  have HW3 : Hid (Wr b Z W w3) := by rw [← HZ.out]; exact HW.out.trans (HW2.out.trans k3)
  clear k3 HP3
  go_wp2_with fail
  go_end0
  exact ⟨rfl, HW3.out⟩

end Go.Proofs.Ytppfohpgcofkbaa

namespace Go.Proofs.Ytppfohpgcofkbaa
open Go.RowKit Go.Joins

theorem sub_tail {W : World} {S : Nat → Prop} {x q : Fo} {kb o n c : Nat} (hx : Fit E x (E 3)) (h : (x.app q).Sub W S (some ⟨kb, o, none⟩) (n + 1) c) : q.Sub W S (some ⟨kb, o + 7, none⟩) n (c - 1) := by
  obtain ⟨h1, h2, h3⟩ := h
  refine ⟨by omega, by omega, fun hl => ?_⟩
  have hxl : x.len = 7 := Fit.len hx
  obtain ⟨b', o', e, s, cc, sb⟩ := h3 (by rw [Fo.app_len]; omega)
  obtain ⟨rfl, rfl⟩ : kb = b' ∧ o = o' := by
    have := Option.some.inj e
    injection this with e1 e2 _
    exact ⟨e1, e2⟩
  rw [Fo.app_vals] at cc
  have c2 := cc.right
  rw [Fo.vals_length, hxl] at c2
  exact ⟨kb, o + 7, rfl, s, c2, sb.right⟩

theorem slice33 (a : Option Addr) (n cap : Nat) (w : World) (h : 1 ≤ n) :
    (Instr.slice 33 (.slice a n cap) (some (.int .i64 1)) none none).run Try.prog w = .ok (.slice (if cap = 1 then a else a.map (·.add 7)) (n - 1) (cap - 1)) w := by
  have hs : (sizeOf (Try.prog.elem 33)).run Try.prog w = .ok 7 w := by kernel_rfl
  rw [run_slice_l (P := Try.prog) w 33 a n cap (by kernel_rfl) .i64 1 (by omega) (by omega), hs]
  simp [Result.andThen, sliced]

theorem sub_any {W : World} {S : Nat → Prop} {q : Fo} {a a' : Option Addr} {n c : Nat} (hq : Fit E q (rep (E 3) n)) (h : q.Sub W S a n c) (h0 : a' = a ∨ n = 0) : q.Sub W S a' n c := by
  rcases h0 with rfl | rfl
  · exact h
  · exact ⟨h.1, h.2.1, fun hl => by rw [fit_nil hq] at hl; exact absurd hl (by decide)⟩

set_option maxHeartbeats 4000000 in
set_option maxRecDepth 100000 in
theorem wk_5 (d : Nd) (b m : Nat) (ih : WtC b m) (ka : Option Addr) (kn kc : Nat) (kk : Fo) (l : List UInt8) (W : World) (hd : d.b < b) (h5 : W.cell? ⟨d.b, d.o + 5, none⟩ = some (.slice ka kn kc)) (hk0 : 0 < kn) (hkx : kn ≤ 16777216) (hf5 : Fit E kk (rep (E 3) kn)) (hs5 : kk.Sub W (fun c => c < b) ka kn kc) (hgd : (rdK kk).good) (hsz : kk.size ≤ m ∧ kk.wt ≤ 1048576) (h : Lib.IsBuilderF 55 5 b b (Lib.byteCells l) W) (hl : l.length + ([40] ++ sepB [32] (KT kk) ++ [41]).length ≤ 70368744177664) :
    Calls Try.prog 94 #[.agg #[d.ptr], .pointer (some ⟨b, 0, none⟩)] W fun e W' => e = .returned (.tuple #[]) ∧ Wr b (l ++ ([40] ++ sepB [32] (KT kk) ++ [41])) W W' := by
  have hw := (Wr.start h).alloc (.cells #[d.ptr] 102)
  have hlt := isb_lt h
  obtain ⟨V0, hV0⟩ : ∃ V, W.alloc (.cells #[d.ptr] 102) = V := ⟨_, rfl⟩
  have b0 := below_alloc1 W (.cells #[d.ptr] 102)
  obtain ⟨n, rfl⟩ : ∃ n, kn = n + 1 := ⟨kn - 1, by omega⟩
  obtain ⟨x, q, rfl, hx, hq, hxl⟩ := Fit.split (fs := E 3) (gs := rep (E 3) n) hf5
  obtain ⟨kb, o, rfl, hkb, hcx, hsx⟩ := hs5.2.2 (by rw [Fo.app_len]; have : x.len = 7 := Fit.len hx; omega)
  have hst := sub_tail hx hs5
  have hcap := hs5.1
  obtain ⟨ta, hta⟩ : ∃ ta : Option Addr, (if kc = 1 then (some ⟨kb, o, none⟩ : Option Addr) else (some ⟨kb, o, none⟩ : Option Addr).map (·.add 7)) = ta := ⟨_, rfl⟩
  have hst := sub_any (a' := ta) hq hst (by
    rw [← hta]
    by_cases hc1 : kc = 1
    · exact .inr (by omega)
    · rw [if_neg hc1]; exact .inl rfl)
  have hcm := hs5.2.1
  rw [Fo.app_vals] at hcx
  have hcx1 := hcx.left
  rw [goodK_app hx] at hgd
  rw [Fo.app_size, Fo.app_wt] at hsz
  have c5 : (W.alloc (.cells #[d.ptr] 102)).cell? ⟨d.b, d.o + 5, none⟩ = some (.slice (some ⟨kb, o, none⟩) (n + 1) kc) := (b0.cell (p := ⟨d.b, d.o + 5, none⟩) (by show d.b < _; omega)).trans h5
  have HS : Hid (∀ V l', Wr b l' V0 V → V.cell? ⟨W.heap.size, 0, none⟩ = some d.ptr ∧ V.cell? ⟨d.b, d.o + 5, none⟩ = some (.slice (some ⟨kb, o, none⟩) (n + 1) kc)) := by
    rw [← hV0]
    exact fun V l' k => ⟨wr_box (T := 102) (by decide) h k, (k.low.cell (p := ⟨d.b, d.o + 5, none⟩) hd).trans c5⟩
  have HW : Hid (Wr b l W V0) := by rw [← hV0]; exact hw
  rw [KT_app hx] at hl ⊢
  obtain ⟨X, hX⟩ : ∃ X, (KT q).flatMap (fun t => [32] ++ t) = X := ⟨_, rfl⟩
  obtain ⟨Y, hY⟩ : ∃ Y, fx x = Y := ⟨_, rfl⟩
  have hsep : sepB [32] (fx x :: KT q) = Y ++ X := by rw [← hX, ← hY]; rfl
  rw [hsep] at hl ⊢
  have e1 : l ++ ([40] ++ (Y ++ X) ++ [41]) = l ++ bs ⟨#[40]⟩ ++ Y ++ X ++ bs ⟨#[41]⟩ := by
    show _ = l ++ [40] ++ Y ++ X ++ [41]
    simp
  rw [e1]
  obtain ⟨Z, hZ⟩ : ∃ Z, l ++ bs ⟨#[40]⟩ ++ Y ++ X ++ bs ⟨#[41]⟩ = Z := ⟨_, rfl⟩
  have HZ := hide hZ
  rw [hZ]
  clear hZ e1
  simp only [List.length_append, List.length_cons, List.length_nil] at hl
  have HP := hide (put1 b ⟨#[40]⟩ l V0 HW.out.is (by show l.length + 1 ≤ _; omega))
  have HT : Hid (∀ V, Wr b (l ++ bs ⟨#[40]⟩) V0 V → Calls Try.prog 20 #[.pointer (some ⟨b, 0, none⟩), .pointer (some ⟨kb, o, none⟩)] V fun e W' => e = .returned (.tuple #[]) ∧ Wr b (l ++ bs ⟨#[40]⟩ ++ Y) V W') := fun V k => by
    have k' := HW.out.trans k
    have := ih ⟨kb, o, x⟩ (l ++ bs ⟨#[40]⟩) V (by show x.size ≤ m; omega) ⟨hx, hcx1.below k'.low hkb, (hsx.left).below k'.low (fun _ hc => hc), hkb⟩ hgd.1 (by show x.wt ≤ _; omega) k.is (by
      rw [hY, List.length_append]
      show l.length + 1 + _ ≤ _
      omega)
    rw [hY] at this
    exact this
  have HC : Hid (∀ V, Wr b (l ++ bs ⟨#[40]⟩ ++ Y) V0 V → Calls Try.prog 70 #[.pointer (some ⟨b, 0, none⟩), .slice ta n (kc - 1)] V fun e W' => e = .returned (.tuple #[]) ∧ Wr b (l ++ bs ⟨#[40]⟩ ++ Y ++ X) V W') := fun V k => by
    have := wk_kids b m ih ta n (kc - 1) q V _ hq (sub_wr hst (HW.out.trans k)) hgd.2 ⟨by omega, by omega⟩ (by omega) k.is (by
      rw [hX]
      simp only [List.length_append]
      show l.length + 1 + _ + _ ≤ _
      omega)
    rw [hX] at this
    exact this
  have HP2 : Hid (∀ V, Wr b (l ++ bs ⟨#[40]⟩ ++ Y ++ X) V0 V → _) := fun V k => put1 b ⟨#[41]⟩ _ V k.is (by
    simp only [List.length_append]
    show l.length + 1 + _ + _ + 1 ≤ _
    omega)
  obtain ⟨kn, hkn⟩ : ∃ kn, n + 1 = kn := ⟨_, rfl⟩
  have hn : n = kn - 1 := by omega
  rw [hkn] at HS
  rw [hn] at HC
  have hk1 : (1 : Int) ≤ kn := by omega
  have hk2 : (0 : Int) < kn := by omega
  have hk3 : (kn : Int) ≤ kc := by omega
  have hk4 : 1 ≤ kn := by omega
  have HSL : Hid (∀ w : World, (Instr.slice 33 (.slice (some ⟨kb, o, none⟩) kn kc) (some (.int .i64 1)) none none).run Try.prog w = .ok (.slice ta (kn - 1) (kc - 1)) w) := fun w => by
    rw [slice33 _ _ _ _ hk4, hta]
  clear c5 hn hkn hcap hta
  obtain ⟨c0, c5⟩ := HS.out V0 l (Wr.start HW.out.is)
  have HV0 := hide hV0
  clear hV0 hw h b0 h5 hX hl hsz ih hf5 hs5 hgd hst hcx hcx1 hsx hx hq hY hsep hxl
  unfold Nd.ptr at c0 HV0 HS ⊢
  go_enter Try.func94, Try.ntmps94
  go_upto_region 1 with fail
  rw [HV0.out]
  clear HV0
  go_wp2_with fail
  refine HP.out.mono ?_
  rintro e w1 ⟨rfl, k1⟩
  have HW1 := hide k1
  have HT1 := hide (HT.out w1 HW1.out)
  clear k1 HP HT c0 c5
  obtain ⟨c0, c5⟩ := HS.out w1 _ HW1.out
  go_wp2_with fail
  refine HT1.out.mono ?_
  rintro e w2 ⟨rfl, k2⟩
  have HW2 := hide (HW1.out.trans k2)
  have HC1 := hide (HC.out w2 HW2.out)
  clear k2 HT1 HC c0 c5
  obtain ⟨c0, c5⟩ := HS.out w2 _ HW2.out
  have hsl := HSL.out w2
  go_wp2_with fail
  refine HC1.out.mono ?_
  rintro e w3 ⟨rfl, k3⟩
  have HW3 := hide (HW2.out.trans k3)
  have HP3 := hide (HP2.out w3 HW3.out)
  clear k3 HC1 HP2 c0 c5
  go_wp2_with fail
  refine HP3.out.mono ?_
  rintro e w4 ⟨rfl, k4⟩
  have HW4 : Hid (Wr b Z W w4) := by rw [← HZ.out]; exact HW.out.trans (HW3.out.trans k4)
  clear k4 HP3
  go_wp2_with fail
  go_end0
  exact ⟨rfl, HW4.out⟩

end Go.Proofs.Ytppfohpgcofkbaa
