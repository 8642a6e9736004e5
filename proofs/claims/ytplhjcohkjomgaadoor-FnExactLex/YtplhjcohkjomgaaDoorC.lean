import Derived.Test.YtplhjcohkjomgaaDoorB
namespace Go.Proofs.YtplhjcohkjomgaaDoor
open Go.RowKit Go.Joins

/-- Line and column of a place of a text. -/
def pl (s : ByteArray) : Nat → Nat
  | 0 => 1
  | i + 1 => if bt s i = 10 then pl s i + 1 else pl s i
def pc (s : ByteArray) : Nat → Nat
  | 0 => 1
  | i + 1 => if bt s i = 10 then 1 else pc s i + 1
theorem pl_le (s : ByteArray) : ∀ i, pl s i ≤ i + 1
  | 0 => Nat.le_refl _
  | i + 1 => by have := pl_le s i; unfold pl; split <;> omega
theorem pc_le (s : ByteArray) : ∀ i, pc s i ≤ i + 1
  | 0 => Nat.le_refl _
  | i + 1 => by have := pc_le s i; unfold pc; split <;> omega

/-- Only block g may have changed, and none was made. -/
structure Only (g : Nat) (w w' : World) : Prop where
  os : w'.os = w.os
  tape : w'.tape = w.tape
  output : w'.output = w.output
  size : w'.heap.size = w.heap.size
  block : ∀ k, k ≠ g → w'.heap[k]? = w.heap[k]?
theorem Only.refl (g w) : Only g w w := ⟨rfl, rfl, rfl, rfl, fun _ _ => rfl⟩
theorem Only.trans {g a b c} (h : Only g a b) (k : Only g b c) : Only g a c := ⟨k.os.trans h.os, k.tape.trans h.tape, k.output.trans h.output, k.size.trans h.size, fun i hi => (k.block i hi).trans (h.block i hi)⟩
theorem Only.setCell (w : World) (p : Addr) (u : Value) : Only p.block w (w.setCell p u) := ⟨rfl, rfl, rfl, by simp [World.setCell], fun k hk => Below.heap_setCell _ _ _ _ hk⟩
theorem Only.drewN {g w w'} (h : Only g w w') (q : Nat) : Only g w (w'.drewN q) := ⟨h.os, h.tape, h.output, h.size, h.block⟩

/-- The model's lexer at block b: at a place of a text, with its line and column; x4 .. x7: what it answers. -/
structure Lx (w : World) (b : Nat) (s : ByteArray) (a : Nat) (ln cl : Int) (x4 x5 x6 x7 : Value) : Prop where
  c0 : w.cell? ⟨b, 0, none⟩ = some (.string s)
  c1 : w.cell? ⟨b, 1, none⟩ = some (.int .i64 a)
  c2 : w.cell? ⟨b, 2, none⟩ = some (.int .i64 ln)
  c3 : w.cell? ⟨b, 3, none⟩ = some (.int .i64 cl)
  c4 : w.cell? ⟨b, 4, none⟩ = some x4
  c5 : w.cell? ⟨b, 5, none⟩ = some x5
  c6 : w.cell? ⟨b, 6, none⟩ = some x6
  c7 : w.cell? ⟨b, 7, none⟩ = some x7
  fr : ∀ o, w.frozen? ⟨b, o, none⟩ = false
  lt : b < w.heap.size

theorem bt_extract (s : ByteArray) (a b i : Nat) (hb : b ≤ s.size) (hi : i < b - a) : bt (s.extract a b) i = bt s (a + i) := by
  have h1 : i < (s.extract a b).size := by rw [ByteArray.size_extract]; omega
  unfold bt
  rw [dif_pos h1, dif_pos (by omega)]
  rw [ByteArray.getElem_extract]
theorem bt_data {s : ByteArray} {i : Nat} : bt s i = (s.data.toList[i]?.map UInt8.toNat).getD 0 := by
  unfold bt
  by_cases h : i < s.size
  · rw [dif_pos h]
    have : s.data.toList[i]? = some s[i] := by
      rw [List.getElem?_eq_getElem (by simpa using h)]; rfl
    rw [this]; rfl
  · rw [dif_neg h, List.getElem?_eq_none (by have : s.data.toList.length = s.size := Array.length_toList
                                             omega)]
    rfl

/-- Two bytes stand at a place. -/
def two (s : ByteArray) (i x y : Nat) : Bool := decide (i + 2 ≤ s.size) && (bt s i == x && bt s (i + 1) == y)

theorem two_list (s : ByteArray) (i : Nat) (x y : UInt8) (h : i + 2 ≤ s.size) : ((s.extract i (i + 2)).toList == [x, y]) = (bt s i == x.toNat && bt s (i + 1) == y.toNat) := by
  have hz : (s.extract i (i + 2)).size = 2 := by simp [ByteArray.size_extract]; omega
  have e0 : bt (s.extract i (i + 2)) 0 = bt s i := bt_extract s i (i + 2) 0 h (by omega)
  have e1 : bt (s.extract i (i + 2)) 1 = bt s (i + 1) := bt_extract s i (i + 2) 1 h (by omega)
  rw [bt_data] at e0 e1
  rw [← e0, ← e1, Lib.toList_data]
  clear e0 e1
  have hl : (s.extract i (i + 2)).data.toList.length = 2 := by rw [Array.length_toList]; exact hz
  generalize (s.extract i (i + 2)).data.toList = L at *
  match L, hl with
  | [u, v], _ =>
    rw [Bool.eq_iff_iff]
    simp [UInt8.toNat_inj]

theorem mTwo (b : Nat) (s : ByteArray) (x y : UInt8) (a i : Nat) (ln cl : Int) (x4 x5 x6 x7 : Value) (w : World) (h : Lx w b s a ln cl x4 x5 x6 x7) (hs : s.size ≤ 1048576) (hi : i ≤ s.size) :
    Calls Tryd.prog 38 #[.pointer (some ⟨b, 0, none⟩), .int .i64 i, .string ⟨#[x, y]⟩] w fun e w' => e = .returned (.bool (two s i x.toNat y.toNat)) ∧ w' = w := by
  obtain ⟨c0, c1, c2, c3, c4, c5, c6, c7, fr, lt⟩ := h
  by_cases h2 : i + 2 ≤ s.size
  · have h2' : (i : Int) + 2 ≤ (s.size : Int) := by omega
    go_enter Tryd.func38, Tryd.ntmps38
    go_wp2_with fail
    go_ret
    exact ⟨ret_b (by unfold two; rw [decide_eq_true h2, Bool.true_and, ← two_list s i x y h2]), rfl⟩
  · have h2' : decide ((i : Int) + 2 ≤ (s.size : Int)) = false := by simp; omega
    go_enter Tryd.func38, Tryd.ntmps38
    go_wp2_with fail
    go_ret
    exact ⟨ret_b (by unfold two; simp [h2]), rfl⟩

theorem Lx.set1 {w b s a ln cl x4 x5 x6 x7} (h : Lx w b s a ln cl x4 x5 x6 x7) (a' : Nat) : Lx (w.setCell ⟨b, 1, none⟩ (.int .i64 a')) b s a' ln cl x4 x5 x6 x7 := by
  obtain ⟨c0, c1, c2, c3, c4, c5, c6, c7, fr, lt⟩ := h
  exact ⟨by simp [go_sem, c0], by simp [go_sem, c1], by simp [go_sem, c2], by simp [go_sem, c3], by simp [go_sem, c4], by simp [go_sem, c5], by simp [go_sem, c6], by simp [go_sem, c7], fun o => by simpa [go_sem] using fr o, by simpa using lt⟩

end Go.Proofs.YtplhjcohkjomgaaDoor
