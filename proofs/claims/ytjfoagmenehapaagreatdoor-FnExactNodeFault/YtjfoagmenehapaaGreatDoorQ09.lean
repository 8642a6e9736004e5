import Derived.Test.YtjfoagmenehapaaGreatDoorQ06
import Derived.Test.YtjfoagmenehapaaGreatDoorQ08
import Derived.Lib.FrozenHead2
import Derived.Test.YtjfoagmenehapaaGreatDoorQ07
import Derived.Test.YtjfoagmenehapaaGreatDoorQ04
import Derived.Lib.DecodeN
import Derived.Laws.RangeAny
import Derived.Laws.Runes
import Derived.WalkMore
namespace Go.Proofs.YtjfoagmenehapaaGreatDoor
open Go.RowKit Go.Joins

theorem Tryz.size56 : (Tryz.prog.info? 116).map (·.size) = some 2 := by kernel_rfl
theorem Tryz.lies56 : liesAt Tryz.prog Tryz.prog.depth 116 (2 / Tryz.prog.cellsOf 116) 0 116 1 = true := by kernel_rfl

/-- What a write leaves: the builder with more in it; all else but rows of bytes as it was. -/
def Wrote (B b : Nat) (bs : List Value) (w w' : World) : Prop :=
  Lib.BuilderAtF 116 5 B b (.pointer (some ⟨b, 0, none⟩)) bs w' ∧ Below B w w' ∧ Lib.OthersKept 5 (some b) w w'

set_option maxHeartbeats 1000000 in
set_option maxRecDepth 100000 in
theorem copyCheck_any (B b : Nat) (bs : List Value) (w : World) (h : Lib.IsBuilderF 116 5 B b bs w) :
    Calls Tryz.prog 100 #[.pointer (some ⟨b, 0, none⟩)] w fun e w' => e = .returned (.tuple #[]) ∧ Wrote B b bs w w' := by
  obtain ⟨j, hj, hjs⟩ := Option.map_eq_some_iff.1 Tryz.size56
  rcases h with h | h
  · have c0 := h.cell0
    have f0 := h.frozen0
    have r1 := Lib.run_to_unsafe w ⟨b, 0, none⟩ Tryz.underlying113 Tryz.underlying151 hj (by rw [hjs]; decide) h.shape (Nat.zero_lt_succ 1)
    have r2 := Lib.run_from_unsafe w ⟨b, 0, none⟩ Tryz.underlying151 Tryz.underlying113 hj h.shape Tryz.lies56
    have r3 : (callFunc 121 #[.pointer (some ⟨b, 0, none⟩)]).run Tryz.prog w = .ok (.value (.pointer (some ⟨b, 0, none⟩))) w := by
      rw [run_callFunc_extern Tryz.func121 (by kernel_rfl) (by kernel_rfl) (by kernel_rfl) (e := Extern.AbiNoEscape.same) (by kernel_rfl)]
      rfl
    go_enter Tryz.func100, Tryz.ntmps100
    go_wp2_with fail
    go_end0
    exact ⟨rfl, h.used _, (Below.refl B w).setCell (p := ⟨b, 0, none⟩) h.1 _, (Lib.OthersKept.refl _ _ w).setCell ⟨b, 0, none⟩ rfl _⟩
  · have c0 := h.cell0
    have r1 := Lib.run_neq_ptr_same w ⟨b, 0, none⟩ Tryz.underlying113 hj
    go_enter Tryz.func100, Tryz.ntmps100
    go_wp2_with fail
    go_end0
    exact ⟨rfl, h, Below.refl B _, Lib.OthersKept.refl _ _ _⟩

set_option maxHeartbeats 1000000 in
set_option maxRecDepth 100000 in
theorem writeByte_any (B b : Nat) (bs : List Value) (c : Int) (w : World) (h : Lib.IsBuilderF 116 5 B b bs w) (hlen : bs.length + 1 ≤ 140737488355328) (hBw : B ≤ w.heap.size) :
    Calls Tryz.prog 87 #[.pointer (some ⟨b, 0, none⟩), .int .u8 c] w fun e w' => e = .returned .nilIface ∧ Wrote B b (bs ++ [.int .u8 c]) w w' := by
  obtain ⟨i0, hi, hz0, hz1, hz2⟩ := info_parts Tryz.info5
  go_enter Tryz.func87, Tryz.ntmps87
  go_wp2_with fail
  refine (copyCheck_any B b bs w h).mono ?_
  rintro e w1 ⟨rfl, h1, hb1, hk1⟩
  have hlt := h1.lt
  obtain ⟨hB, v, hbk, hown, hne⟩ := h1
  have z1 := hb1.size
  have c1 : w1.cell? ⟨b, 1, none⟩ = some v := by rw [Lib.cell_of_heap hbk]; rfl
  go_wp2_with (at_builtin; refine wpList_append_ownF _ rfl _ _ 114 rfl B 5 i0 (.int .u8 0) 1 1 Tryz.underlying114 hi hz0 hz1 hz2 rfl (by decide) _ _ _ rfl (hown.alloc _) ⟨w1.heap.size, 0, none⟩ 1 1 [.int .u8 c] rfl rfl (cell_one_new _ _ _) (by simp [Value.oneCell']) (by unfold maxLen; omega) (by omega) (by simp; omega) ?_)
  intro v' w2 hown' hgrow _
  have hb2 : w2.heap[b]? = some (.cells #[.pointer (some ⟨b, 0, none⟩), v] 116 (0, 0)) := by
    rw [hgrow.block b (by simp; omega) (fun e => hne e.symm)]
    exact (Below.heap_alloc w1 _ b hlt).trans hbk
  have d1 : w2.cell? ⟨b, 1, none⟩ = some v := by rw [Lib.cell_of_heap hb2]; rfl
  have f1 : w2.frozen? ⟨b, 1, none⟩ = false := Lib.frozen_of_heap hb2 1
  obtain ⟨g, cap, rfl⟩ : ∃ g cap, v' = .slice (some ⟨g, 0, none⟩) (bs.length + 1) cap := by
    rcases hown'.2 with ⟨_, h0⟩ | ⟨g, cap, cur, fz, hv, _⟩
    · omega
    · exact ⟨g, cap, hv⟩
  go_wp2_with fail
  go_ret
  refine ⟨rfl, ?_, ?_, ((hk1.alloc _).grown hgrow (Lib.ownsRowF_kind (hown.alloc _))).setCell ⟨b, 1, none⟩ rfl _⟩
  · exact Lib.BuilderAtF.put hB hb2 (bs' := bs ++ [.int .u8 c]) (by simpa using hown') (by decide)
  · exact ((hb1.alloc (by omega) _).grown hgrow (by simp; omega) (fun k hk => (hown.lt k hk).1)).setCell (p := ⟨b, 1, none⟩) hB _

set_option maxHeartbeats 1000000 in
set_option maxRecDepth 100000 in
theorem writeString_any (B b : Nat) (bs : List Value) (s : ByteArray) (w : World) (h : Lib.IsBuilderF 116 5 B b bs w) (hlen : bs.length + s.size ≤ 140737488355328) (hBw : B ≤ w.heap.size) :
    Calls Tryz.prog 86 #[.pointer (some ⟨b, 0, none⟩), .string s] w fun e w' => e = .returned (.tuple #[.int .i64 s.size, .nilIface]) ∧ Wrote B b (bs ++ Lib.strCells s) w w' := by
  obtain ⟨i0, hi, hz0, hz1, hz2⟩ := info_parts Tryz.info5
  go_enter Tryz.func86, Tryz.ntmps86
  go_wp2_with fail
  refine (copyCheck_any B b bs w h).mono ?_
  rintro e w1 ⟨rfl, h1, hb1, hk1⟩
  have hlt := h1.lt
  obtain ⟨hB, v, hbk, hown, hne⟩ := h1
  have z1 := hb1.size
  have c1 : w1.cell? ⟨b, 1, none⟩ = some v := by rw [Lib.cell_of_heap hbk]; rfl
  go_wp2_with (at_builtin; refine Lib.wpList_append_own_stringF _ rfl _ _ 114 9 rfl B 5 i0 Tryz.underlying114 Tryz.underlying9 hi hz0 hz1 hz2 _ _ _ rfl hown s rfl (by unfold maxLen; omega) (by omega) (by omega) ?_)
  intro v' w2 hown' hgrow _
  have hb2 : w2.heap[b]? = some (.cells #[.pointer (some ⟨b, 0, none⟩), v] 116 (0, 0)) := by
    rw [hgrow.block b hlt (fun e => hne e.symm)]
    exact hbk
  have d1 : w2.cell? ⟨b, 1, none⟩ = some v := by rw [Lib.cell_of_heap hb2]; rfl
  have f1 : w2.frozen? ⟨b, 1, none⟩ = false := Lib.frozen_of_heap hb2 1
  obtain ⟨ao, n', cap, rfl⟩ : ∃ ao n' cap, v' = .slice ao n' cap := by
    rcases hown'.2 with ⟨hv, _⟩ | ⟨g, cap, cur, fz, hv, _⟩
    · exact ⟨_, _, _, hv⟩
    · exact ⟨_, _, _, hv⟩
  go_wp2_with fail
  go_ret2
  refine ⟨rfl, ?_, ?_, (hk1.grown hgrow (Lib.ownsRowF_kind hown)).setCell ⟨b, 1, none⟩ rfl _⟩
  · exact Lib.BuilderAtF.put hB hb2 (bs' := bs ++ Lib.strCells s) (by simpa [Lib.strCells_length] using hown') (by decide)
  · exact (hb1.grown hgrow (by omega) (fun k hk => (hown.lt k hk).1)).setCell (p := ⟨b, 1, none⟩) hB _

theorem Wrote.trans {B b : Nat} {bs cs : List Value} {w w1 w2 : World} (h : Wrote B b bs w w1) (k : Wrote B b cs w1 w2) : Wrote B b cs w w2 := ⟨k.1, h.2.1.trans k.2.1, h.2.2.trans k.2.2⟩
theorem Wrote.is {B b : Nat} {bs : List Value} {w w1 : World} (h : Wrote B b bs w w1) : Lib.IsBuilderF 116 5 B b bs w1 := .inr h.1

end Go.Proofs.YtjfoagmenehapaaGreatDoor

namespace Go.Proofs.YtjfoagmenehapaaGreatDoor
open Go.RowKit Go.Joins

set_option maxHeartbeats 1000000 in
set_option maxRecDepth 100000 in
theorem writeRune_low (B b : Nat) (bs : List Value) (c : Nat) (hc : c < 128) (w : World) (h : Lib.IsBuilderF 116 5 B b bs w) (hlen : bs.length + 1 ≤ 4194304) (hBw : B ≤ w.heap.size) :
    Calls Tryz.prog 85 #[.pointer (some ⟨b, 0, none⟩), .int .i32 c] w fun e w' => e = .returned (.tuple #[.int .i64 1, .nilIface]) ∧ Wrote B b (bs ++ [.int .u8 c]) w w' := by
  obtain ⟨i0, hi, hz0, hz1, hz2⟩ := info_parts Tryz.info5
  have hc1 : (c : Int) ≤ 127 := by omega
  go_enter Tryz.func85, Tryz.ntmps85
  go_wp2_with fail
  refine (copyCheck_any B b bs w h).mono ?_
  rintro e w1 ⟨rfl, h1, hb1, hk1⟩
  have hlt := h1.lt
  obtain ⟨hB, v, hbk, hown, hne⟩ := h1
  have z1 := hb1.size
  have c1 : w1.cell? ⟨b, 1, none⟩ = some v := by rw [Lib.cell_of_heap hbk]; rfl
  have hAp : Calls Tryz.prog 101 #[v, .int .i32 c] w1 fun e w2 => ∃ v' wa, wa = w1.alloc (.cells #[.int .u8 c] 5) ∧ e = .returned v' ∧ w2.ownsRowF B 5 1 v' (bs.length + 1) (bs ++ [.int .u8 c]) ∧ wa.grownBy w2 v.ownBlock := by
    go_enter Tryz.func101, Tryz.ntmps101
    go_wp2_with (at_builtin; refine wpList_append_ownF _ rfl _ _ 114 rfl B 5 i0 (.int .u8 0) 1 1 Tryz.underlying114 hi hz0 hz1 hz2 rfl (by decide) _ _ _ rfl (hown.alloc _) ⟨w1.heap.size, 0, none⟩ 1 1 [.int .u8 c] rfl rfl (cell_one_new _ _ _) (by simp [Value.oneCell']) (by unfold maxLen; omega) (by omega) (by simp; omega) ?_)
    intro v' w2 hown' hgrow _
    go_wp2_with fail
    go_ret
    exact ⟨v', _, rfl, rfl, by simpa using hown', hgrow⟩
  have HAp := hide hAp
  clear hAp
  obtain ⟨av, cv, rfl⟩ : ∃ av cv, v = .slice av bs.length cv := by
    rcases hown.2 with ⟨rfl, h0⟩ | ⟨g, cap, cur, fz, hv, _⟩
    · exact ⟨none, 0, by rw [h0]⟩
    · exact ⟨_, cap, hv⟩
  have hl63 : (bs.length : Int) ≤ 4194304 := by omega
  go_wp2_with fail
  refine HAp.out.mono ?_
  rintro e w2 ⟨v', wa, rfl, rfl, hown', hgrow⟩
  have hb2 : w2.heap[b]? = some (.cells #[.pointer (some ⟨b, 0, none⟩), .slice av bs.length cv] 116 (0, 0)) := by
    rw [hgrow.block b (by simp; omega) (fun e => hne e.symm)]
    exact (Below.heap_alloc w1 _ b hlt).trans hbk
  have d1 : w2.cell? ⟨b, 1, none⟩ = some (.slice av bs.length cv) := by rw [Lib.cell_of_heap hb2]; rfl
  have f1 : w2.frozen? ⟨b, 1, none⟩ = false := Lib.frozen_of_heap hb2 1
  obtain ⟨g, cap, rfl⟩ : ∃ g cap, v' = .slice (some ⟨g, 0, none⟩) (bs.length + 1) cap := by
    rcases hown'.2 with ⟨_, h0⟩ | ⟨g, cap, cur, fz, hv, _⟩
    · omega
    · exact ⟨g, cap, hv⟩
  have hfin : Wrote B b (bs ++ [.int .u8 c]) w (w2.setCell ⟨b, 1, none⟩ (.slice (some ⟨g, 0, none⟩) (bs.length + 1) cap)) := by
    refine ⟨?_, ?_, ((hk1.alloc _).grown hgrow (Lib.ownsRowF_kind (hown.alloc _))).setCell ⟨b, 1, none⟩ rfl _⟩
    · exact Lib.BuilderAtF.put hB hb2 (bs' := bs ++ [.int .u8 c]) (by simpa using hown') (by decide)
    · exact ((hb1.alloc (by omega) _).grown hgrow (by simp; omega) (fun k hk => (hown.lt k hk).1)).setCell (p := ⟨b, 1, none⟩) hB _
  have HF := hide hfin
  clear hfin hown hown' hgrow
  generalize bs.length = L at *
  go_wp2_with fail
  go_ret2
  exact ⟨by congr 3; go_num, HF.out⟩

end Go.Proofs.YtjfoagmenehapaaGreatDoor

namespace Go.Proofs.YtjfoagmenehapaaGreatDoor
open Go.RowKit Go.Joins

theorem get_bt (s : ByteArray) (i : Nat) : (s.get! i).toNat = bt s i := by
  unfold bt
  split
  · rename_i h
    rw [show s.get! i = s[i] from by
      cases s with
      | mk d => exact getElem!_pos d i h]
  · rename_i h
    rw [show s.get! i = 0 from by
      cases s with
      | mk d => exact getElem!_neg d i h]
    rfl

theorem bt_pos {s : ByteArray} {i : Nat} (h : 0 < bt s i) : i < s.size := by
  unfold bt at h
  split at h
  · assumption
  · omega

theorem dec_low {s : ByteArray} {i : Nat} (h : i < s.size) (hb : bt s i < 128) : Utf8.decode s i = (bt s i, 1) := by
  rw [decode_ascii s i h (by rw [bt_in h]; exact hb), bt_in h]

set_option maxHeartbeats 1000000 in
theorem dec_high {s : ByteArray} {i : Nat} (h : i < s.size) (hb : 128 ≤ bt s i) : 128 ≤ (Utf8.decode s i).1 ∧ (Utf8.decode s i).1 ≤ 1114111 ∧ 1 ≤ (Utf8.decode s i).2 ∧ i + (Utf8.decode s i).2 ≤ s.size ∧ ∀ j, 0 < j → j < (Utf8.decode s i).2 → 128 ≤ bt s (i + j) := by
  have h1 := decode_high s i h (by rw [bt_in h]; exact hb)
  refine ⟨h1.1, ?_⟩
  clear h1
  rw [Lib.decode_at s i, get_bt, get_bt, get_bt, get_bt]
  unfold Lib.decodeN
  rw [if_neg (by omega)]
  split
  · rename_i h2
    split
    · refine ⟨by simp only; omega, by simp only; omega, by simp only; omega, fun j h0 hj => ?_⟩
      simp only at hj
      obtain rfl : j = 1 := by omega
      omega
    · exact ⟨by simp only; omega, by simp only; omega, by simp only; omega, fun j h0 hj => by simp only at hj; omega⟩
  · split
    · rename_i h2
      split
      · rename_i h3
        refine ⟨by simp only; omega, by simp only; omega, by simp only; omega, fun j h0 hj => ?_⟩
        simp only at hj
        rcases (show j = 1 ∨ j = 2 by omega) with rfl | rfl <;> omega
      · exact ⟨by simp only; omega, by simp only; omega, by simp only; omega, fun j h0 hj => by simp only at hj; omega⟩
    · split
      · rename_i h2
        split
        · rename_i h3
          refine ⟨by simp only; omega, by simp only; omega, by simp only; omega, fun j h0 hj => ?_⟩
          simp only at hj
          rcases (show j = 1 ∨ j = 2 ∨ j = 3 by omega) with rfl | rfl | rfl <;> omega
        · exact ⟨by simp only; omega, by simp only; omega, by simp only; omega, fun j h0 hj => by simp only at hj; omega⟩
      · exact ⟨by simp only; omega, by simp only; omega, by simp only; omega, fun j h0 hj => by simp only at hj; omega⟩

end Go.Proofs.YtjfoagmenehapaaGreatDoor

namespace Go.Proofs.YtjfoagmenehapaaGreatDoor
open Go.RowKit Go.Joins

theorem iCapital (c : Nat) (w : World) : Calls Tryz.prog 141 #[.int .i32 c] w fun e w' => e = .returned (.bool (cap c)) ∧ w' = w := by
  by_cases h : (65 : Int) ≤ c
  · go_enter Tryz.func141, Tryz.ntmps141
    go_wp2
    go_ret
    exact ⟨ret_b (Bool.eq_iff_iff.2 (by simp [cap] <;> omega)), rfl⟩
  · have hd : decide ((65 : Int) ≤ c) = false := by simp; omega
    go_enter Tryz.func141, Tryz.ntmps141
    go_wp2
    go_ret
    exact ⟨ret_b (Bool.eq_iff_iff.2 (by simp [cap] <;> omega)), rfl⟩

theorem iDigit (c : Nat) (w : World) : Calls Tryz.prog 113 #[.int .i32 c] w fun e w' => e = .returned (.bool (dig c)) ∧ w' = w := by
  by_cases h : (48 : Int) ≤ c
  · go_enter Tryz.func113, Tryz.ntmps113
    go_wp2
    go_ret
    exact ⟨ret_b (Bool.eq_iff_iff.2 (by simp [dig] <;> omega)), rfl⟩
  · have hd : decide ((48 : Int) ≤ c) = false := by simp; omega
    go_enter Tryz.func113, Tryz.ntmps113
    go_wp2
    go_ret
    exact ⟨ret_b (Bool.eq_iff_iff.2 (by simp [dig] <;> omega)), rfl⟩

theorem iStays (c : Nat) (w : World) : Calls Tryz.prog 148 #[.int .i32 c] w fun e w' => e = .returned (.bool (c != 10)) ∧ w' = w := by
  go_enter Tryz.func148, Tryz.ntmps148
  go_wp2
  go_ret
  exact ⟨ret_b (Bool.eq_iff_iff.2 (by simp <;> omega)), rfl⟩

theorem iBegins (c : Nat) (w : World) : Calls Tryz.prog 111 #[.int .i32 c] w fun e w' => e = .returned (.bool (cap c || sml c)) ∧ w' = w := by
  rcases q1 : cap c with _ | _
  · by_cases h1 : (97 : Int) ≤ c
    · by_cases h2 : (c : Int) ≤ 122
      · have d1 : decide ((97 : Int) ≤ c) = true := by simp; omega
        have d2 : decide ((c : Int) ≤ 122) = true := by simp; omega
        go_enter Tryz.func111, Tryz.ntmps111
        go_wp2_with fail
        refine (iCapital c _).mono ?_
        rintro e w1 ⟨rfl, rfl⟩
        rw [q1]
        go_wp2_with fail
        go_ret
        exact ⟨ret_b (Bool.eq_iff_iff.2 (by simp [sml] <;> omega)), rfl⟩
      · have d1 : decide ((97 : Int) ≤ c) = true := by simp; omega
        have d2 : decide ((c : Int) ≤ 122) = false := by simp; omega
        go_enter Tryz.func111, Tryz.ntmps111
        go_wp2_with fail
        refine (iCapital c _).mono ?_
        rintro e w1 ⟨rfl, rfl⟩
        rw [q1]
        go_wp2_with fail
        go_ret
        exact ⟨ret_b (Bool.eq_iff_iff.2 (by simp [sml] <;> omega)), rfl⟩
    · have d1 : decide ((97 : Int) ≤ c) = false := by simp; omega
      go_enter Tryz.func111, Tryz.ntmps111
      go_wp2_with fail
      refine (iCapital c _).mono ?_
      rintro e w1 ⟨rfl, rfl⟩
      rw [q1]
      go_wp2_with fail
      go_ret
      exact ⟨ret_b (Bool.eq_iff_iff.2 (by simp [sml] <;> omega)), rfl⟩
  · go_enter Tryz.func111, Tryz.ntmps111
    go_wp2_with fail
    refine (iCapital c _).mono ?_
    rintro e w1 ⟨rfl, rfl⟩
    rw [q1]
    go_wp2_with fail
    go_ret
    exact ⟨rfl, rfl⟩

theorem iCont (c : Nat) (w : World) : Calls Tryz.prog 143 #[.int .i32 c] w fun e w' => e = .returned (.bool (ins c)) ∧ w' = w := by
  rcases q1 : (cap c || sml c) with _ | _
  · rcases q2 : dig c with _ | _
    · go_enter Tryz.func143, Tryz.ntmps143
      go_wp2_with fail
      refine (iBegins c _).mono ?_
      rintro e w1 ⟨rfl, rfl⟩
      rw [q1]
      go_wp2_with fail
      refine (iDigit c _).mono ?_
      rintro e w1 ⟨rfl, rfl⟩
      rw [q2]
      go_wp2_with fail
      go_ret
      refine ⟨ret_b ?_, rfl⟩
      simp only [Bool.or_eq_false_iff] at q1
      simp [ins, q1.1, q1.2, q2]
      exact Bool.eq_iff_iff.2 (by simp <;> omega)
    · go_enter Tryz.func143, Tryz.ntmps143
      go_wp2_with fail
      refine (iBegins c _).mono ?_
      rintro e w1 ⟨rfl, rfl⟩
      rw [q1]
      go_wp2_with fail
      refine (iDigit c _).mono ?_
      rintro e w1 ⟨rfl, rfl⟩
      rw [q2]
      go_wp2_with fail
      go_ret
      exact ⟨ret_b (by simp [ins, q2]), rfl⟩
  · go_enter Tryz.func143, Tryz.ntmps143
    go_wp2_with fail
    refine (iBegins c _).mono ?_
    rintro e w1 ⟨rfl, rfl⟩
    rw [q1]
    go_wp2_with fail
    go_ret
    refine ⟨ret_b ?_, rfl⟩
    simp only [Bool.or_eq_true] at q1
    rcases q1 with q1 | q1 <;> simp [ins, q1]

end Go.Proofs.YtjfoagmenehapaaGreatDoor

namespace Go.Proofs.YtjfoagmenehapaaGreatDoor
open Go.RowKit Go.Joins

/-- A rune above 127 is written with two bytes or more, the last above 127. -/
theorem enc_high (r : Nat) (h : 128 ≤ r) : 2 ≤ (Utf8.encode (r : Int)).size ∧ (Utf8.encode (r : Int)).size ≤ 4 ∧ 128 ≤ bt (Utf8.encode (r : Int)) ((Utf8.encode (r : Int)).size - 1) := by
  obtain ⟨c, hc, h128, hm⟩ : ∃ c : Nat, c = (if Utf8.valid (r : Int) then (r : Int).toNat else Utf8.runeError) ∧ 128 ≤ c ∧ c ≤ 1114111 := by
    refine ⟨_, rfl, ?_, ?_⟩
    · split
      · simpa using h
      · decide
    · split
      · rename_i hv
        simp [Utf8.valid] at hv
        simp; omega
      · decide
  unfold Utf8.encode
  simp only
  rw [← hc]
  rw [if_neg (by omega)]
  have key : ∀ n : Nat, n < 256 → (UInt8.ofNat n).toNat = n := fun n hn => by simp; omega
  split
  · refine ⟨by simp [ByteArray.size], by simp [ByteArray.size], ?_⟩
    show 128 ≤ bt ⟨#[_, _]⟩ 1
    unfold bt
    rw [dif_pos (by simp [ByteArray.size])]
    show 128 ≤ (UInt8.ofNat (128 + c % 64)).toNat
    rw [key _ (by omega)]; omega
  · split
    · refine ⟨by simp [ByteArray.size], by simp [ByteArray.size], ?_⟩
      show 128 ≤ bt ⟨#[_, _, _]⟩ 2
      unfold bt
      rw [dif_pos (by simp [ByteArray.size])]
      show 128 ≤ (UInt8.ofNat (128 + c % 64)).toNat
      rw [key _ (by omega)]; omega
    · refine ⟨by simp [ByteArray.size], by simp [ByteArray.size], ?_⟩
      show 128 ≤ bt ⟨#[_, _, _, _]⟩ 3
      unfold bt
      rw [dif_pos (by simp [ByteArray.size])]
      show 128 ≤ (UInt8.ofNat (128 + c % 64)).toNat
      rw [key _ (by omega)]; omega

theorem indexByte_none : ∀ (l : List UInt8) (c : UInt8), (∀ b ∈ l, b ≠ c) → Lib.indexByte l c = -1
  | [], _, _ => rfl
  | b :: l, c, h => by
    have h1 := h b (List.mem_cons_self)
    have h2 := indexByte_none l c (fun x hx => h x (List.mem_cons_of_mem _ hx))
    unfold Lib.indexByte
    rw [if_neg (by simpa using h1), h2]
    rfl

set_option maxHeartbeats 2000000 in
set_option maxRecDepth 100000 in
theorem iIndexHigh (s : ByteArray) (r : Nat) (w : World) (ha : ∀ i, i < s.size → bt s i < 128) (h5 : 5 ≤ s.size) (hs : s.size ≤ 1000) (h : 128 ≤ r) (h2 : r ≤ 2147483647) :
    Calls Tryz.prog 107 #[.string s, .int .i32 r] w fun e w' => e = .returned (.int .i64 (-1)) ∧ Below w.heap.size w w' := by
  have d1 : decide ((r : Int) < 128) = false := by simp; omega
  by_cases hE : r = 65533
  · subst hE
    go_enter Tryz.func107, Tryz.ntmps107
    go_wp2_with fail
    go_loopw [5, 6] (fun _ _ wr => ∃ pos : Nat, pos ≤ s.size ∧ wr.heap[w.heap.size]? = some (.stringIter s pos) ∧ Below w.heap.size w wr) (fun _ _ wr => s.size - wr.iterPos w.heap.size)
    case atStart => exact ⟨0, Nat.zero_le _, heap_new w _, below_alloc1 _ _⟩
    case round =>
      obtain ⟨pos, hp, hit, hb⟩ := hrel
      by_cases hlt : pos < s.size
      · have hbt := bt_in hlt
        have hal := ha pos hlt
        have hnx : ∀ ty, (Instr.next (.pointer (some ⟨w.heap.size, 0, none⟩)) true ty).run Tryz.prog wr = _ := fun ty => Lib.run_next_any_at wr w.heap.size s pos ty hit hlt
        rw [dec_low hlt hal] at hnx
        have z1 : ((bt s pos : Int) == 65533) = false := by simp; omega
        have hit2 := Lib.iterAt_heap wr w.heap.size s pos (pos + 1) hit
        have hb2 := Lib.below_iterAt hb (k := w.heap.size) (Nat.le_refl _) s (pos + 1)
        clear hbt
        go_wp2_with fail
        go_roundw
        case rel => exact ⟨pos + 1, by omega, hit2, hb2⟩
        case measure =>
          simp only [World.iterPos, hit2, hit]
          omega
      · have hnx : ∀ ty, (Instr.next (.pointer (some ⟨w.heap.size, 0, none⟩)) true ty).run Tryz.prog wr = _ := fun ty => Lib.run_next_end_at wr w.heap.size s pos ty hit hlt
        go_wp2_with fail
        go_ret
        exact ⟨rfl, hb⟩
  · have d2 : ((r : Int) == 65533) = false := by simp; omega
    rcases hv : Lib.validRune (r : Int) with _ | _
    · go_enter Tryz.func107, Tryz.ntmps107
      go_wp2_with (go_at_call 126; refine (Tryz.utf8_ValidRune _ _).mono ?_; rintro e w1 ⟨rfl, rfl⟩; rw [hv])
      go_ret
      exact ⟨rfl, Below.refl _ _⟩
    · obtain ⟨e1, e2, e3⟩ := enc_high r h
      have hcv : (convert 21 9 (.int .i32 (r : Int))).run Tryz.prog w = .ok (.string (Utf8.encode (r : Int))) w := run_convert_int_string w 21 9 .i32 (r : Int) (by rw [Tryz.underlying21]; rfl) Tryz.underlying9
      generalize Utf8.encode (r : Int) = rs at e1 e2 e3 hcv
      obtain ⟨L, hL⟩ : ∃ L, L = rs.size - 1 := ⟨_, rfl⟩
      rw [← hL] at e3
      have hL' : (rs.size : Int) - 1 = (L : Int) := by omega
      have hLs : L < s.size := by omega
      have hLr : L < rs.size := by omega
      have hLs' : (L : Int) < s.size := by omega
      have hLr' : (L : Int) < rs.size := by omega
      have b1 := bt_in hLs
      have b2 := bt_in hLr
      have a1 := ha L hLs
      have z1 : ((s[L].toNat : Int) == (rs[L].toNat : Int)) = false := by rw [b1, b2]; simp; omega
      have hIB : Hid (Lib.indexByte (s.extract (L + 1) s.size).data.toList ((rs[L].toNat : Int).toNat.toUInt8) = -1) := by
        unfold Hid
        apply indexByte_none
        intro x hx hxe
        obtain ⟨i, hi, rfl⟩ := List.getElem_of_mem hx
        have hi' : i < (s.extract (L + 1) s.size).size := by simpa using hi
        have h4 : ((s.extract (L + 1) s.size).data.toList[i]).toNat = bt s (L + 1 + i) := by
          rw [ByteArray.size_extract] at hi'
          rw [← bt_extract s (L + 1) s.size i (Nat.le_refl _) (by omega)]
          unfold bt
          rw [dif_pos (by rw [ByteArray.size_extract]; omega)]
          rfl
        have h5 : L + 1 + i < s.size := by rw [ByteArray.size_extract] at hi'; omega
        have h6 := ha _ h5
        rw [hxe] at h4
        have h7 : ((rs[L].toNat : Int).toNat.toUInt8).toNat = rs[L].toNat := by simp
        rw [h7, b2] at h4
        omega
      obtain ⟨j, hj⟩ : ∃ j, j = L + 1 := ⟨_, rfl⟩
      rw [← hj] at hIB
      have hj1 : (L : Int) + 1 = (j : Int) := by omega
      have hj2 : (j : Int) ≤ s.size := by omega
      have hj3 : IntKind.i64.wrap (j : Int) = (j : Int) := by simp [IntKind.wrap, IntKind.bits, IntKind.signed]; omega
      clear b1 b2 a1 e3 hL hj
      go_enter Tryz.func107, Tryz.ntmps107
      go_wp2_with (go_at_call 126; refine (Tryz.utf8_ValidRune _ _).mono ?_; rintro e w1 ⟨rfl, hw1⟩; obtain rfl : w = w1 := hw1.symm; rw [hv])
      go_step3
      go_wp2_with fail
      go_loopw [9, 10, 11, 12] (fun s9 _ _ _ wr => s9 = .int .i64 L ∧ wr = w) (fun _ _ _ _ _ => 0)
      case atStart => exact ⟨rfl, rfl⟩
      case round =>
        obtain ⟨rfl, rfl⟩ := hrel
        clear hE d1 d2 hcv h2 h ha hv hL'
        go_wp2_with fail
        go_step3
        go_wp2_with fail
        go_region
        all_goals go_wp2_with fail
        go_region_with (go_at_call 125; refine (Tryz.strings_IndexByte _ _ _).mono ?_; rintro e w2 ⟨rfl, rfl⟩; rw [hIB.out])
        all_goals
          go_wp2_with fail
          rw [Exit.noGoto_ret]
          go_wp2_with fail
          rw [Exit.noGoto_ret]
          go_wp2_with fail
          go_ret
          exact ⟨rfl, (Below.refl _ _).drew.drew⟩

theorem contains_ascii (L : List UInt8) (c : Nat) (hc : c < 128) : decide (0 ≤ Lib.indexByte L ((c : Int).toNat.toUInt8)) = (L.map UInt8.toNat).contains c := by
  have hcc : ((c : Int).toNat.toUInt8).toNat = c := by simp; omega
  rcases h : (L.map UInt8.toNat).contains c with _ | _
  · rw [indexByte_none L _ (fun b hb he => by
      have : (L.map UInt8.toNat).contains c = true := List.contains_iff_mem.2 (List.mem_map.2 ⟨b, hb, by rw [he, hcc]⟩)
      rw [this] at h; cases h)]
    decide
  · have hm := List.contains_iff_mem.1 h
    rw [List.mem_map] at hm
    obtain ⟨x, hx, hxc⟩ := hm
    have hxe : x = (c : Int).toNat.toUInt8 := UInt8.toNat_inj.1 (by rw [hcc, hxc])
    have key : ∀ l : List UInt8, (c : Int).toNat.toUInt8 ∈ l → 0 ≤ Lib.indexByte l ((c : Int).toNat.toUInt8) := by
      intro l
      induction l with
      | nil => intro h; cases h
      | cons b l ih =>
        intro hb
        unfold Lib.indexByte
        split
        · omega
        · rename_i hne
          have hin : (c : Int).toNat.toUInt8 ∈ l := by
            rcases List.mem_cons.1 hb with h | h
            · exact absurd (by rw [h]; simp) hne
            · exact h
          have := ih hin
          split
          · rename_i h1
            rw [beq_iff_eq] at h1
            omega
          · omega
    rw [decide_eq_true (key L (hxe ▸ hx))]

theorem iContains (L : List UInt8) (c : Nat) (w : World) (hL : ∀ b ∈ L, b.toNat < 128) (h5 : 5 ≤ L.length) (hl : L.length ≤ 1000) (hc : c ≤ 2147483647) :
    Calls Tryz.prog 94 #[.string ⟨L.toArray⟩, .int .i32 c] w fun e w' => e = .returned (.bool ((L.map UInt8.toNat).contains c)) ∧ Below w.heap.size w w' := by
  have hz : (⟨L.toArray⟩ : ByteArray).size = L.length := by simp [ByteArray.size]
  by_cases h : c < 128
  · refine (Tryz.strings_ContainsRune_ascii ⟨L.toArray⟩ (c : Int) w (by omega) (by omega)).mono ?_
    rintro e w1 ⟨rfl, rfl⟩
    exact ⟨ret_b (contains_ascii L c h), Below.refl _ _⟩
  · have hno : (L.map UInt8.toNat).contains c = false := by
      rcases q : (L.map UInt8.toNat).contains c with _ | _
      · rfl
      · have hm := List.contains_iff_mem.1 q
        rw [List.mem_map] at hm
        obtain ⟨x, hx, hxc⟩ := hm
        have := hL x hx
        omega
    rw [hno]
    have hI := iIndexHigh ⟨L.toArray⟩ c w (fun i hi => by
      rw [hz] at hi
      unfold bt
      rw [dif_pos (by rw [hz]; exact hi)]
      exact hL _ (List.getElem_mem hi)) (by omega) (by omega) (by omega) hc
    go_enter Tryz.func94, Tryz.ntmps94
    go_wp2_with fail
    refine hI.mono ?_
    rintro e w1 ⟨rfl, b1⟩
    go_wp2_with fail
    go_ret
    exact ⟨rfl, b1⟩

theorem iSymbol (c : Nat) (w : World) (hc : c ≤ 2147483647) : Calls Tryz.prog 116 #[.int .i32 c] w fun e w' => e = .returned (.bool (sym c)) ∧ Below w.heap.size w w' := by
  have h : Calls Tryz.prog 94 #[.string ⟨#[33, 35, 36, 37, 38, 42, 43, 46, 47, 60, 61, 62, 63, 64, 92, 94, 124, 45, 126, 58]⟩, .int .i32 c] w fun e w' => e = .returned (.bool (sym c)) ∧ Below w.heap.size w w' := iContains [33, 35, 36, 37, 38, 42, 43, 46, 47, 60, 61, 62, 63, 64, 92, 94, 124, 45, 126, 58] c w (by decide) (by decide) (by decide) hc
  go_enter Tryz.func116, Tryz.ntmps116
  go_wp2_with fail
  refine h.mono ?_
  rintro e w1 ⟨rfl, b1⟩
  go_wp2_with fail
  go_ret
  exact ⟨rfl, b1⟩

theorem iSpecial (c : Nat) (w : World) (hc : c ≤ 2147483647) : Calls Tryz.prog 94 #[.string ⟨#[40, 41, 91, 93, 44, 59, 96, 123, 125]⟩, .int .i32 c] w fun e w' => e = .returned (.bool (spc c)) ∧ Below w.heap.size w w' :=
  iContains [40, 41, 91, 93, 44, 59, 96, 123, 125] c w (by decide) (by decide) (by decide) hc

end Go.Proofs.YtjfoagmenehapaaGreatDoor

