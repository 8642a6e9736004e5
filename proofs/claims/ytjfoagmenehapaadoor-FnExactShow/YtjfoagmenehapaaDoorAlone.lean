import Derived.Test.YtjfoagmenehapaaDoorBld
import Derived.Test.YtjfoagmenehapaaDoorTo
import Derived.Sort.Grow
import Derived.Lib.ItoaLen
namespace Go.Proofs.YtjfoagmenehapaaDoor
open Go.RowKit Go.Joins

/-- The builder holds the bytes l now; all else but rows of bytes is as it was. -/
def Wr (B b : Nat) (l : List UInt8) (w w' : World) : Prop := Lib.IsBuilderF 39 5 B b (Lib.byteCells l) w' ∧ Below B w w' ∧ Lib.OthersKept 5 (some b) w w'

theorem Wr.trans {B b : Nat} {l m : List UInt8} {w w1 w2 : World} (h : Wr B b l w w1) (k : Wr B b m w1 w2) : Wr B b m w w2 := ⟨k.1, h.2.1.trans k.2.1, h.2.2.trans k.2.2⟩
theorem Wr.of {B b : Nat} {l : List UInt8} {w w1 : World} (h : Wrote B b (Lib.byteCells l) w w1) : Wr B b l w w1 := ⟨.inr h.1, h.2⟩
theorem Wr.start {B b : Nat} {l : List UInt8} {w : World} (h : Lib.IsBuilderF 39 5 B b (Lib.byteCells l) w) : Wr B b l w w := ⟨h, Below.refl _ _, Lib.OthersKept.refl _ _ _⟩

theorem put_byte (B b : Nat) (l : List UInt8) (c : UInt8) (w : World) (h : Lib.IsBuilderF 39 5 B b (Lib.byteCells l) w) (hl : l.length + 1 ≤ 70368744177664) (hBw : B ≤ w.heap.size) :
    Calls Tryd.prog 13 #[.pointer (some ⟨b, 0, none⟩), .int .u8 (c.toNat : Int)] w fun e w' => e = .returned .nilIface ∧ Wr B b (l ++ [c]) w w' := by
  refine (writeByte_any B b _ (c.toNat : Int) w h (by rw [Lib.byteCells_length]; omega) hBw).mono ?_
  rintro e w' ⟨rfl, hw⟩
  refine ⟨rfl, Wr.of ?_⟩
  rw [Lib.byteCells_append]
  exact hw

theorem put_string (B b : Nat) (l m : List UInt8) (w : World) (h : Lib.IsBuilderF 39 5 B b (Lib.byteCells l) w) (hl : l.length + m.length ≤ 70368744177664) (hBw : B ≤ w.heap.size) :
    Calls Tryd.prog 21 #[.pointer (some ⟨b, 0, none⟩), .string ⟨m.toArray⟩] w fun e w' => (∃ v, e = .returned v) ∧ Wr B b (l ++ m) w w' := by
  have hs : (⟨m.toArray⟩ : ByteArray).size = m.length := by simp [ByteArray.size]
  refine (writeString_any B b _ ⟨m.toArray⟩ w h (by rw [Lib.byteCells_length, hs]; omega) hBw).mono ?_
  rintro e w' ⟨rfl, hw⟩
  refine ⟨⟨_, rfl⟩, Wr.of ?_⟩
  rw [Lib.byteCells_append]
  exact hw

set_option maxHeartbeats 1000000 in
set_option maxRecDepth 100000 in
theorem closeKids_any (B b n : Nat) (l : List UInt8) (w : World) (h : Lib.IsBuilderF 39 5 B b (Lib.byteCells l) w) (hn : n ≤ 1073741824) (hl : l.length + n ≤ 70368744177664) (hBw : B ≤ w.heap.size) :
    Calls Tryd.prog 14 #[.pointer (some ⟨b, 0, none⟩), .int .i64 n] w fun e w' => (∃ v, e = .returned v) ∧ Wr B b (l ++ List.replicate n 41) w w' := by
  go_enter Tryd.func14, Tryd.ntmps14
  go_wp2_with fail
  go_loopw [5] (fun s5 wr => ∃ i : Nat, i ≤ n ∧ s5 = .int .i64 i ∧ Wr B b (l ++ List.replicate i 41) w wr) (fun s5 _ => n - (intOf s5).toNat)
  case atStart => exact ⟨0, by omega, rfl, by simpa using Wr.start h⟩
  case round =>
    obtain ⟨i, hi, rfl, hw⟩ := hrel
    have hz := hw.2.1.size
    by_cases hlt : i < n
    · have hp := put_byte B b (l ++ List.replicate i 41) 41 wr hw.1 (by simp; omega) (by omega)
      go_wp2_with fail
      refine hp.mono ?_
      rintro e w1 ⟨rfl, h1⟩
      go_wp2_with fail
      go_roundw
      case rel =>
        refine ⟨i + 1, by omega, by go_num, ?_⟩
        have := hw.trans h1
        rw [List.append_assoc, ← List.replicate_succ'] at this
        exact this
      case measure => simp [intOf]; omega
    · obtain rfl : i = n := by omega
      go_wp2_with fail
      go_end0
      exact ⟨⟨_, rfl⟩, hw⟩

/-- One hexadecimal digit. -/
def hexd (x : Nat) : UInt8 := if x < 10 then UInt8.ofNat (48 + x) else UInt8.ofNat (87 + x)
def hexb (x : UInt8) : List UInt8 := [hexd (x.toNat / 16), hexd (x.toNat % 16)]
theorem hex_at : ∀ (j : Nat) (h : j < 16), (⟨#[48, 49, 50, 51, 52, 53, 54, 55, 56, 57, 97, 98, 99, 100, 101, 102]⟩ : ByteArray)[j]'h = hexd j := by
  have : ∀ j : Fin 16, (⟨#[48, 49, 50, 51, 52, 53, 54, 55, 56, 57, 97, 98, 99, 100, 101, 102]⟩ : ByteArray)[j.val]'j.isLt = hexd j.val := by decide
  exact fun j h => this ⟨j, h⟩

/-- A node without its kids. -/
def alone (k : Int) (nm : ByteArray) : List UInt8 := Lib.itoa k ++ (if nm.size = 0 then [] else 58 :: nm.data.toList.flatMap hexb)

def Tab (w : World) : Prop := Lib.TabIs Tryd.prog w "internal/strconv.uint64pow10" .u64 Lib.pow10Tab
def TabB (B : Nat) (w : World) : Prop := ∀ w', Below B w w' → Tab w'
theorem TabB.next {B : Nat} {w w1 : World} (h : TabB B w) (hb : Below B w w1) : TabB B w1 := fun w' k => h w' (hb.trans k)
theorem TabB.tab {B : Nat} {w : World} (h : TabB B w) : Tab w := h w (Below.refl _ _)

theorem grow_below (w : World) (k : Nat) (os : Array Obj) : Below w.heap.size w (Go.Sort.grow (w.drewN k) os) := by
  have hk : ∀ k, (w.drewN k).heap = w.heap := fun k => by simp [World.drewN]
  refine ⟨by simp [Go.Sort.grow, World.drewN], by simp [Go.Sort.grow, World.drewN], by simp [Go.Sort.grow, World.drewN], by simp [Go.Sort.grow], fun i hi => ?_⟩
  simp only [Go.Sort.grow, hk]
  rw [Array.getElem?_append_left hi]

theorem wf_range {k : Int} (h : (Lit.int .i64 k).wf = true) : -9223372036854775808 ≤ k ∧ k ≤ 9223372036854775807 := by
  simp [Lit.wf] at h
  have e : IntKind.i64.min = -9223372036854775808 := by decide
  omega

theorem others_below {e : TypeId} {b : Option Nat} {w w' : World} (h : Below w.heap.size w w') : Lib.OthersKept e b w w' := fun k _ hk _ _ =>
  (h.block k (Array.getElem?_eq_some_iff.1 hk).1).trans hk

theorem at_below {B b : Nat} {p : Value} {bs : List Value} {w w' : World} (h : Lib.BuilderAtF 39 5 B b p bs w) (k : Below w.heap.size w w') : Lib.BuilderAtF 39 5 B b p bs w' := by
  have hlt := h.lt
  obtain ⟨hB, v, hb, hown, hne⟩ := h
  exact ⟨hB, v, (k.block b hlt).trans hb, hown.kept (row := none) ⟨k.os, k.tape, k.output, k.size, fun i hi _ => k.block i hi⟩ (by cases v.ownBlock <;> simp), hne⟩

theorem builder_below {B b : Nat} {bs : List Value} {w w' : World} (h : Lib.IsBuilderF 39 5 B b bs w) (k : Below w.heap.size w w') : Lib.IsBuilderF 39 5 B b bs w' :=
  h.elim (fun x => .inl (at_below x k)) (fun x => .inr (at_below x k))

set_option maxHeartbeats 2000000 in
set_option maxRecDepth 100000 in
theorem showAlone_any (B b : Nat) (l : List UInt8) (k : Int) (nm : ByteArray) (a : Option Addr) (len cap : Nat) (w : World) (h : Lib.IsBuilderF 39 5 B b (Lib.byteCells l) w) (ht : TabB B w) (hk : (Lit.int .i64 k).wf = true) (hnm : nm.size ≤ 1048577) (hl : l.length ≤ 35184372088832)
    (hBw : B ≤ w.heap.size) : Calls Tryd.prog 15 #[.pointer (some ⟨b, 0, none⟩), .agg #[.int .i64 k, .string nm, .slice a len cap]] w fun e w' => (∃ v, e = .returned v) ∧ Wr B b (l ++ alone k nm) w w' := by
  go_enter Tryd.func15, Tryd.ntmps15
  go_wp2_with fail
  have q1 := World.alloc_heap_new w (.cells #[.int .i64 k, .string nm, .slice a len cap] 29)
  have b1 := below_alloc1 w (.cells #[.int .i64 k, .string nm, .slice a len cap] 29)
  have hblt : b < w.heap.size := h.elim (fun x => x.lt) (fun x => x.lt)
  generalize w.alloc (.cells #[.int .i64 k, .string nm, .slice a len cap] 29) = w1 at q1 b1 ⊢
  obtain ⟨k0, k1⟩ := wf_range hk
  have hil := Lib.itoa_length_le k k0 k1
  refine (Tryd.strconv_FormatInt_10 k k0 k1 w1 (ht.next (b1.mono hBw)).tab).mono ?_
  rintro e w2 ⟨rfl, kk, os, hw2⟩
  have b2 : Below w1.heap.size w1 w2 := by rw [hw2]; exact grow_below _ _ _
  clear hw2
  have z1 := b1.size
  have z2 := b2.size
  have h2 := builder_below (builder_below h b1) b2
  have q2 := (b2.block _ (Array.getElem?_eq_some_iff.1 q1).1).trans q1
  have hne : some w.heap.size ≠ some b := by simp; omega
  have hcell : ∀ {W : World}, W.heap[w.heap.size]? = some (.cells #[.int .i64 k, .string nm, .slice a len cap] 29) → W.cell? ⟨w.heap.size, 1, none⟩ = some (.string nm) := fun {W} h => by rw [Lib.cell_of_heap h]; rfl
  have W2 : Wr B b l w w2 := ⟨h2, (b1.mono hBw).trans (b2.mono (by omega)), (others_below b1).trans (others_below b2)⟩
  go_wp2_with fail
  refine (put_string B b l (Lib.itoa k) w2 h2 (by omega) (by omega)).mono ?_
  rintro e w3 ⟨⟨v3, rfl⟩, W3⟩
  replace q2 := W3.2.2 _ _ q2 hne (fun c fz e => by cases e)
  replace W3 := W2.trans W3
  have z3 := W3.2.1.size
  have n3 := hcell q2
  clear W2 h2 b1 b2 q1
  by_cases hn0 : nm.size = 0
  · obtain rfl : nm = ⟨#[]⟩ := by
      cases nm with
      | mk d => simp only [ByteArray.size] at hn0; rw [Array.eq_empty_of_size_eq_zero hn0]
    go_wp2_with fail
    refine bodyPost_ret (results_none rfl _ _ _) rfl ⟨⟨_, rfl⟩, ?_⟩
    have e : alone k ⟨#[]⟩ = Lib.itoa k := by
      have h0 : (⟨#[]⟩ : ByteArray).size = 0 := rfl
      unfold alone
      simp only [h0, if_true, List.append_nil]
    rw [e]
    exact W3
  · have hbb : (nm.toList == ([] : List UInt8)) = false := by
      rw [ByteArray.toList_eq]
      cases nm with
      | mk d =>
        simp only [ByteArray.size] at hn0 ⊢
        simp
        intro e
        exact hn0 (by rw [e]; rfl)
    have hp := put_byte B b (l ++ Lib.itoa k) 58 w3 W3.1 (by simp; omega) (by omega)
    go_wp2_with fail
    refine hp.mono ?_
    rintro e w4 ⟨rfl, W4⟩
    replace q2 := W4.2.2 _ _ q2 hne (fun c fz e => by cases e)
    replace W4 := W3.trans W4
    have n4 := hcell q2
    clear hp n3
    go_wp2_with fail
    go_loopw [18] (fun s18 wr => ∃ i : Nat, i ≤ nm.size ∧ s18 = .int .i64 i ∧ Wr B b (l ++ Lib.itoa k ++ 58 :: (nm.data.toList.take i).flatMap hexb) w wr ∧ wr.heap[w.heap.size]? = some (.cells #[.int .i64 k, .string nm, .slice a len cap] 29)) (fun s18 _ => nm.size - (intOf s18).toNat)
    case atStart => exact ⟨0, by omega, rfl, by simpa using W4, q2⟩
    case round =>
      clear W4 q2 n4 W3 z3
      obtain ⟨i, hi, rfl, Wi, qi⟩ := hrel
      have ni := hcell qi
      have zi := Wi.2.1.size
      have hll : (l ++ Lib.itoa k ++ 58 :: (nm.data.toList.take i).flatMap hexb).length ≤ 35184372088832 + 21 + 1 + 2097154 := by
        have : ∀ m : List UInt8, (m.flatMap hexb).length = m.length * 2 := fun m => by
          induction m with
          | nil => rfl
          | cons x m ih => simp only [List.flatMap_cons, List.length_append, ih, List.length_cons, hexb, List.length_nil]; omega
        simp only [List.length_append, List.length_cons, this, List.length_take]
        omega
      by_cases hlt : i < nm.size
      · have hlt' : (i : Int) < nm.size := by omega
        have hx0 := (nm[i]'hlt).toNat_lt
        have hx1 : ((nm[i]'hlt).toNat : Int) / 16 < 16 := by omega
        have hx2 : (nm[i]'hlt).toNat / 16 < 16 := by omega
        have hx3 : (nm[i]'hlt).toNat % 16 < 16 := by omega
        have hx4 : ((nm[i]'hlt).toNat : Int) % 16 < 16 := by omega
        go_wp2_with fail
        rw [hex_at _ hx2]
        refine (put_byte B b _ _ wr Wi.1 (by omega) (by omega)).mono ?_
        rintro e w5 ⟨rfl, W5⟩
        have q5 := W5.2.2 _ _ qi hne (fun c fz e => by cases e)
        have n5 := hcell q5
        have z5 := W5.2.1.size
        go_wp2_with fail
        rw [hex_at _ hx3]
        refine (put_byte B b _ _ w5 W5.1 (by simp only [List.length_append, List.length_cons, List.length_nil] at hll ⊢; omega) (by omega)).mono ?_
        rintro e w6 ⟨rfl, W6⟩
        have q6 := W6.2.2 _ _ q5 hne (fun c fz e => by cases e)
        go_wp2_with fail
        go_roundw
        case rel =>
          refine ⟨i + 1, by omega, by go_num, ?_, q6⟩
          have hW := (Wi.trans W5).trans W6
          have e : (nm.data.toList.take (i + 1)).flatMap hexb = (nm.data.toList.take i).flatMap hexb ++ [hexd ((nm[i]'hlt).toNat / 16), hexd ((nm[i]'hlt).toNat % 16)] := by
            have hg : nm.data.toList[i]? = some (nm[i]'hlt) := by
              rw [Array.getElem?_toList]
              exact Array.getElem?_eq_getElem hlt
            rw [List.take_add_one, hg]
            simp [hexb]
          rw [e]
          simpa [List.append_assoc] using hW
        case measure => simp [intOf]; omega
      · obtain rfl : i = nm.size := by omega
        go_wp2_with fail
        go_end0
        refine ⟨⟨_, rfl⟩, ?_⟩
        have e : alone k nm = Lib.itoa k ++ 58 :: (nm.data.toList.take nm.size).flatMap hexb := by
          unfold alone
          rw [if_neg hn0, List.take_of_length_le (by rw [Array.length_toList]; exact Nat.le_refl _)]
        rw [e, ← List.append_assoc]
        exact Wi

end Go.Proofs.YtjfoagmenehapaaDoor
