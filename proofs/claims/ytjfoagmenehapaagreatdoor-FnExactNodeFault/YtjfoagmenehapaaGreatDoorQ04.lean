import Derived.Test.YtjfoagmenehapaaGreatDoorQ03
import Derived.Test.YtjfoagmenehapaaGreatDoorRows
import Derived.WalkKit
import Derived.WalkSpells
import Derived.WalkLawsBesides
import Derived.Deep.OwnRows
import Derived.Deep.QuietTactic
import Derived.BigQuiet
import Derived.Deep.RegionWith
import Derived.Lib.SmallJoins
namespace Go.Proofs.YtjfoagmenehapaaGreatDoor.Tree
open Go.RowKit Go.Joins

set_option maxHeartbeats 1000000 in
set_option maxRecDepth 100000 in
theorem mAllE (k : Int) (nm : ByteArray) (a : Option Addr) (cap n : Nat) (L : List Kn) (i0 b : Nat) (kd : Int) (W : World) (hl : L.length = n) (hn : n ≤ maxLen) (hb : b ≤ n) (hk : Kids W W.heap.size a L) :
    Calls Tryz.prog 52 #[nodeV k nm a n cap, .int .i64 i0, .int .i64 b, .int .u8 101, .int .i64 kd] W fun e W' => e = .returned (.bool (allB L eK i0 b)) ∧ Below W.heap.size W W' := by
  obtain ⟨T, hT⟩ : ∃ T, T = allB L eK i0 b := ⟨_, rfl⟩
  rw [← hT]
  unfold nodeV
  have hmx : (n : Int) ≤ 9223372036854775807 := by simp only [maxLen] at hn; omega
  have hbn : (b : Int) ≤ n := by omega
  have HT := hide hT
  have HL := hide hl
  have HK := hide hk
  have q1 := Box3.new W (.int .i64 k) (.string nm) (.slice a n cap) 29
  have hB0 : Below W.heap.size W (W.alloc (.cells #[.int .i64 k, .string nm, .slice a n cap] 29)) := below_alloc1 _ _
  clear hT hl hk hn
  go_enter Tryz.func52, Tryz.ntmps52
  go_wp2_with fail
  generalize W.alloc (.cells #[.int .i64 k, .string nm, .slice a n cap] 29) = W0 at *
  have HQ := hide q1
  clear q1
  go_loopw [11, 12, 13, 30, 34, 38, 42] (fun s11 _ _ _ _ _ _ wr => ∃ i : Nat, s11 = .int .i64 i ∧ Hid (T = allB L eK i b) ∧ Hid (Box3 wr W.heap.size (.int .i64 k) (.string nm) (.slice a n cap)) ∧ Below W.heap.size W wr) (fun s11 _ _ _ _ _ _ _ => b - (intOf s11).toNat)
  case atStart => exact ⟨i0, rfl, HT, HQ, hB0⟩
  case round =>
    obtain ⟨i, rfl, HT', HQ', bel⟩ := hrel
    obtain ⟨-, d0, d1, d2, -, -, -⟩ := HQ'.out
    by_cases hi : i < b
    · have hi' : (i : Int) < b := by omega
      have hin : i < L.length := by rw [HL.out]; omega
      obtain ⟨g, o, rfl, hg, hr⟩ := (HK.out.below bel (Nat.le_refl _)) (by omega)
      obtain ⟨x, hx⟩ : ∃ x, L[i]? = some x := ⟨_, List.getElem?_eq_getElem hin⟩
      obtain ⟨-, -, c0, -, -, -⟩ := hr i x hx
      have HS := hide (HT'.out.trans (allB_step hx hi))
      clear hr HT' hin hx
      generalize x.k = xk at *
      have HC : Hid (∀ wx, Calls Tryz.prog 79 #[.int .i64 xk] wx fun e w' => e = .returned (.bool (eK xk)) ∧ w' = wx) := fun wx => mExpr xk wx
      generalize eK xk = X at HS HC
      cases X with
      | false =>
        have HT2 : Hid (T = false) := HS.out
        clear HS
        go_wp2_with fail
        refine (HC.out _).mono ?_
        rintro e w2 ⟨rfl, rfl⟩
        go_wp2_with fail
        go_ret
        exact ⟨by rw [HT2.out]; rfl, bel⟩
      | true =>
        have HT2 : Hid (T = allB L eK (i + 1) b) := HS.out
        clear HS
        go_wp2_with fail
        refine (HC.out _).mono ?_
        rintro e w2 ⟨rfl, rfl⟩
        go_wp2_with fail
        go_roundw
        case rel => exact ⟨i + 1, by go_num, HT2, HQ', bel⟩
        case measure => simp [intOf]; omega
    · have hi' : ¬ (i : Int) < b := by omega
      have HT2 : Hid (T = true) := HT'.out.trans (allB_end (by omega))
      clear HT'
      go_wp2_with fail
      go_ret
      exact ⟨by rw [HT2.out]; rfl, bel⟩

set_option maxHeartbeats 1000000 in
set_option maxRecDepth 100000 in
theorem mAllP (k : Int) (nm : ByteArray) (a : Option Addr) (cap n : Nat) (L : List Kn) (i0 b : Nat) (kd : Int) (W : World) (hl : L.length = n) (hn : n ≤ maxLen) (hb : b ≤ n) (hk : Kids W W.heap.size a L) :
    Calls Tryz.prog 52 #[nodeV k nm a n cap, .int .i64 i0, .int .i64 b, .int .u8 112, .int .i64 kd] W fun e W' => e = .returned (.bool (allB L pK i0 b)) ∧ Below W.heap.size W W' := by
  obtain ⟨T, hT⟩ : ∃ T, T = allB L pK i0 b := ⟨_, rfl⟩
  rw [← hT]
  unfold nodeV
  have hmx : (n : Int) ≤ 9223372036854775807 := by simp only [maxLen] at hn; omega
  have hbn : (b : Int) ≤ n := by omega
  have HT := hide hT
  have HL := hide hl
  have HK := hide hk
  have q1 := Box3.new W (.int .i64 k) (.string nm) (.slice a n cap) 29
  have hB0 : Below W.heap.size W (W.alloc (.cells #[.int .i64 k, .string nm, .slice a n cap] 29)) := below_alloc1 _ _
  clear hT hl hk hn
  go_enter Tryz.func52, Tryz.ntmps52
  go_wp2_with fail
  generalize W.alloc (.cells #[.int .i64 k, .string nm, .slice a n cap] 29) = W0 at *
  have HQ := hide q1
  clear q1
  go_loopw [11, 12, 13, 30, 34, 38, 42] (fun s11 _ _ _ _ _ _ wr => ∃ i : Nat, s11 = .int .i64 i ∧ Hid (T = allB L pK i b) ∧ Hid (Box3 wr W.heap.size (.int .i64 k) (.string nm) (.slice a n cap)) ∧ Below W.heap.size W wr) (fun s11 _ _ _ _ _ _ _ => b - (intOf s11).toNat)
  case atStart => exact ⟨i0, rfl, HT, HQ, hB0⟩
  case round =>
    obtain ⟨i, rfl, HT', HQ', bel⟩ := hrel
    obtain ⟨-, d0, d1, d2, -, -, -⟩ := HQ'.out
    by_cases hi : i < b
    · have hi' : (i : Int) < b := by omega
      have hin : i < L.length := by rw [HL.out]; omega
      obtain ⟨g, o, rfl, hg, hr⟩ := (HK.out.below bel (Nat.le_refl _)) (by omega)
      obtain ⟨x, hx⟩ : ∃ x, L[i]? = some x := ⟨_, List.getElem?_eq_getElem hin⟩
      obtain ⟨-, -, c0, -, -, -⟩ := hr i x hx
      have HS := hide (HT'.out.trans (allB_step hx hi))
      clear hr HT' hin hx
      generalize x.k = xk at *
      have HC : Hid (∀ wx, Calls Tryz.prog 32 #[.int .i64 xk] wx fun e w' => e = .returned (.bool (pK xk)) ∧ w' = wx) := fun wx => mPat xk wx
      generalize pK xk = X at HS HC
      cases X with
      | false =>
        have HT2 : Hid (T = false) := HS.out
        clear HS
        go_wp2_with fail
        refine (HC.out _).mono ?_
        rintro e w2 ⟨rfl, rfl⟩
        go_wp2_with fail
        go_ret
        exact ⟨by rw [HT2.out]; rfl, bel⟩
      | true =>
        have HT2 : Hid (T = allB L pK (i + 1) b) := HS.out
        clear HS
        go_wp2_with fail
        refine (HC.out _).mono ?_
        rintro e w2 ⟨rfl, rfl⟩
        go_wp2_with fail
        go_roundw
        case rel => exact ⟨i + 1, by go_num, HT2, HQ', bel⟩
        case measure => simp [intOf]; omega
    · have hi' : ¬ (i : Int) < b := by omega
      have HT2 : Hid (T = true) := HT'.out.trans (allB_end (by omega))
      clear HT'
      go_wp2_with fail
      go_ret
      exact ⟨by rw [HT2.out]; rfl, bel⟩

set_option maxHeartbeats 1000000 in
set_option maxRecDepth 100000 in
theorem mAllT (k : Int) (nm : ByteArray) (a : Option Addr) (cap n : Nat) (L : List Kn) (i0 b : Nat) (kd : Int) (W : World) (hl : L.length = n) (hn : n ≤ maxLen) (hb : b ≤ n) (hk : Kids W W.heap.size a L) :
    Calls Tryz.prog 52 #[nodeV k nm a n cap, .int .i64 i0, .int .i64 b, .int .u8 116, .int .i64 kd] W fun e W' => e = .returned (.bool (allB L tK i0 b)) ∧ Below W.heap.size W W' := by
  obtain ⟨T, hT⟩ : ∃ T, T = allB L tK i0 b := ⟨_, rfl⟩
  rw [← hT]
  unfold nodeV
  have hmx : (n : Int) ≤ 9223372036854775807 := by simp only [maxLen] at hn; omega
  have hbn : (b : Int) ≤ n := by omega
  have HT := hide hT
  have HL := hide hl
  have HK := hide hk
  have q1 := Box3.new W (.int .i64 k) (.string nm) (.slice a n cap) 29
  have hB0 : Below W.heap.size W (W.alloc (.cells #[.int .i64 k, .string nm, .slice a n cap] 29)) := below_alloc1 _ _
  clear hT hl hk hn
  go_enter Tryz.func52, Tryz.ntmps52
  go_wp2_with fail
  generalize W.alloc (.cells #[.int .i64 k, .string nm, .slice a n cap] 29) = W0 at *
  have HQ := hide q1
  clear q1
  go_loopw [11, 12, 13, 30, 34, 38, 42] (fun s11 _ _ _ _ _ _ wr => ∃ i : Nat, s11 = .int .i64 i ∧ Hid (T = allB L tK i b) ∧ Hid (Box3 wr W.heap.size (.int .i64 k) (.string nm) (.slice a n cap)) ∧ Below W.heap.size W wr) (fun s11 _ _ _ _ _ _ _ => b - (intOf s11).toNat)
  case atStart => exact ⟨i0, rfl, HT, HQ, hB0⟩
  case round =>
    obtain ⟨i, rfl, HT', HQ', bel⟩ := hrel
    obtain ⟨-, d0, d1, d2, -, -, -⟩ := HQ'.out
    by_cases hi : i < b
    · have hi' : (i : Int) < b := by omega
      have hin : i < L.length := by rw [HL.out]; omega
      obtain ⟨g, o, rfl, hg, hr⟩ := (HK.out.below bel (Nat.le_refl _)) (by omega)
      obtain ⟨x, hx⟩ : ∃ x, L[i]? = some x := ⟨_, List.getElem?_eq_getElem hin⟩
      obtain ⟨-, -, c0, -, -, -⟩ := hr i x hx
      have HS := hide (HT'.out.trans (allB_step hx hi))
      clear hr HT' hin hx
      generalize x.k = xk at *
      have HC : Hid (∀ wx, Calls Tryz.prog 34 #[.int .i64 xk] wx fun e w' => e = .returned (.bool (tK xk)) ∧ w' = wx) := fun wx => mType xk wx
      generalize tK xk = X at HS HC
      cases X with
      | false =>
        have HT2 : Hid (T = false) := HS.out
        clear HS
        go_wp2_with fail
        refine (HC.out _).mono ?_
        rintro e w2 ⟨rfl, rfl⟩
        go_wp2_with fail
        go_ret
        exact ⟨by rw [HT2.out]; rfl, bel⟩
      | true =>
        have HT2 : Hid (T = allB L tK (i + 1) b) := HS.out
        clear HS
        go_wp2_with fail
        refine (HC.out _).mono ?_
        rintro e w2 ⟨rfl, rfl⟩
        go_wp2_with fail
        go_roundw
        case rel => exact ⟨i + 1, by go_num, HT2, HQ', bel⟩
        case measure => simp [intOf]; omega
    · have hi' : ¬ (i : Int) < b := by omega
      have HT2 : Hid (T = true) := HT'.out.trans (allB_end (by omega))
      clear HT'
      go_wp2_with fail
      go_ret
      exact ⟨by rw [HT2.out]; rfl, bel⟩

set_option maxHeartbeats 1000000 in
set_option maxRecDepth 100000 in
theorem mAllD (k : Int) (nm : ByteArray) (a : Option Addr) (cap n : Nat) (L : List Kn) (i0 b : Nat) (kd : Int) (W : World) (hl : L.length = n) (hn : n ≤ maxLen) (hb : b ≤ n) (hk : Kids W W.heap.size a L) :
    Calls Tryz.prog 52 #[nodeV k nm a n cap, .int .i64 i0, .int .i64 b, .int .u8 100, .int .i64 kd] W fun e W' => e = .returned (.bool (allB L dK i0 b)) ∧ Below W.heap.size W W' := by
  obtain ⟨T, hT⟩ : ∃ T, T = allB L dK i0 b := ⟨_, rfl⟩
  rw [← hT]
  unfold nodeV
  have hmx : (n : Int) ≤ 9223372036854775807 := by simp only [maxLen] at hn; omega
  have hbn : (b : Int) ≤ n := by omega
  have HT := hide hT
  have HL := hide hl
  have HK := hide hk
  have q1 := Box3.new W (.int .i64 k) (.string nm) (.slice a n cap) 29
  have hB0 : Below W.heap.size W (W.alloc (.cells #[.int .i64 k, .string nm, .slice a n cap] 29)) := below_alloc1 _ _
  clear hT hl hk hn
  go_enter Tryz.func52, Tryz.ntmps52
  go_wp2_with fail
  generalize W.alloc (.cells #[.int .i64 k, .string nm, .slice a n cap] 29) = W0 at *
  have HQ := hide q1
  clear q1
  go_loopw [11, 12, 13, 30, 34, 38, 42] (fun s11 _ _ _ _ _ _ wr => ∃ i : Nat, s11 = .int .i64 i ∧ Hid (T = allB L dK i b) ∧ Hid (Box3 wr W.heap.size (.int .i64 k) (.string nm) (.slice a n cap)) ∧ Below W.heap.size W wr) (fun s11 _ _ _ _ _ _ _ => b - (intOf s11).toNat)
  case atStart => exact ⟨i0, rfl, HT, HQ, hB0⟩
  case round =>
    obtain ⟨i, rfl, HT', HQ', bel⟩ := hrel
    obtain ⟨-, d0, d1, d2, -, -, -⟩ := HQ'.out
    by_cases hi : i < b
    · have hi' : (i : Int) < b := by omega
      have hin : i < L.length := by rw [HL.out]; omega
      obtain ⟨g, o, rfl, hg, hr⟩ := (HK.out.below bel (Nat.le_refl _)) (by omega)
      obtain ⟨x, hx⟩ : ∃ x, L[i]? = some x := ⟨_, List.getElem?_eq_getElem hin⟩
      obtain ⟨-, -, c0, -, -, -⟩ := hr i x hx
      have HS := hide (HT'.out.trans (allB_step hx hi))
      clear hr HT' hin hx
      generalize x.k = xk at *
      have HC : Hid (∀ wx, Calls Tryz.prog 80 #[.int .i64 xk] wx fun e w' => e = .returned (.bool (dK xk)) ∧ w' = wx) := fun wx => mDecl xk wx
      generalize dK xk = X at HS HC
      cases X with
      | false =>
        have HT2 : Hid (T = false) := HS.out
        clear HS
        go_wp2_with fail
        refine (HC.out _).mono ?_
        rintro e w2 ⟨rfl, rfl⟩
        go_wp2_with fail
        go_ret
        exact ⟨by rw [HT2.out]; rfl, bel⟩
      | true =>
        have HT2 : Hid (T = allB L dK (i + 1) b) := HS.out
        clear HS
        go_wp2_with fail
        refine (HC.out _).mono ?_
        rintro e w2 ⟨rfl, rfl⟩
        go_wp2_with fail
        go_roundw
        case rel => exact ⟨i + 1, by go_num, HT2, HQ', bel⟩
        case measure => simp [intOf]; omega
    · have hi' : ¬ (i : Int) < b := by omega
      have HT2 : Hid (T = true) := HT'.out.trans (allB_end (by omega))
      clear HT'
      go_wp2_with fail
      go_ret
      exact ⟨by rw [HT2.out]; rfl, bel⟩

set_option maxHeartbeats 1000000 in
set_option maxRecDepth 100000 in
theorem mAllK (k : Int) (nm : ByteArray) (a : Option Addr) (cap n : Nat) (L : List Kn) (i0 b : Nat) (kd : Int) (W : World) (hl : L.length = n) (hn : n ≤ maxLen) (hb : b ≤ n) (hk : Kids W W.heap.size a L) :
    Calls Tryz.prog 52 #[nodeV k nm a n cap, .int .i64 i0, .int .i64 b, .int .u8 0, .int .i64 kd] W fun e W' => e = .returned (.bool (allB L (fun y => y == kd) i0 b)) ∧ Below W.heap.size W W' := by
  obtain ⟨T, hT⟩ : ∃ T, T = allB L (fun y => y == kd) i0 b := ⟨_, rfl⟩
  rw [← hT]
  unfold nodeV
  have hmx : (n : Int) ≤ 9223372036854775807 := by simp only [maxLen] at hn; omega
  have hbn : (b : Int) ≤ n := by omega
  have HT := hide hT
  have HL := hide hl
  have HK := hide hk
  have q1 := Box3.new W (.int .i64 k) (.string nm) (.slice a n cap) 29
  have hB0 : Below W.heap.size W (W.alloc (.cells #[.int .i64 k, .string nm, .slice a n cap] 29)) := below_alloc1 _ _
  clear hT hl hk hn
  go_enter Tryz.func52, Tryz.ntmps52
  go_wp2_with fail
  generalize W.alloc (.cells #[.int .i64 k, .string nm, .slice a n cap] 29) = W0 at *
  have HQ := hide q1
  clear q1
  go_loopw [11, 12, 13, 30, 34, 38, 42] (fun s11 _ _ _ _ _ _ wr => ∃ i : Nat, s11 = .int .i64 i ∧ Hid (T = allB L (fun y => y == kd) i b) ∧ Hid (Box3 wr W.heap.size (.int .i64 k) (.string nm) (.slice a n cap)) ∧ Below W.heap.size W wr) (fun s11 _ _ _ _ _ _ _ => b - (intOf s11).toNat)
  case atStart => exact ⟨i0, rfl, HT, HQ, hB0⟩
  case round =>
    obtain ⟨i, rfl, HT', HQ', bel⟩ := hrel
    obtain ⟨-, d0, d1, d2, -, -, -⟩ := HQ'.out
    by_cases hi : i < b
    · have hi' : (i : Int) < b := by omega
      have hin : i < L.length := by rw [HL.out]; omega
      obtain ⟨g, o, rfl, hg, hr⟩ := (HK.out.below bel (Nat.le_refl _)) (by omega)
      obtain ⟨x, hx⟩ : ∃ x, L[i]? = some x := ⟨_, List.getElem?_eq_getElem hin⟩
      obtain ⟨-, -, c0, -, -, -⟩ := hr i x hx
      have HS := hide (HT'.out.trans (allB_step hx hi))
      clear hr HT' hin hx
      generalize x.k = xk at *
      obtain ⟨X, hX⟩ : ∃ X, (xk == kd) = X := ⟨_, rfl⟩
      rw [hX] at HS
      cases X with
      | false =>
        have HT2 : Hid (T = false) := HS.out
        clear HS
        go_wp2_with fail
        go_ret
        exact ⟨by rw [HT2.out]; rfl, bel⟩
      | true =>
        have HT2 : Hid (T = allB L (fun y => y == kd) (i + 1) b) := HS.out
        clear HS
        go_wp2_with fail
        go_roundw
        case rel => exact ⟨i + 1, by go_num, HT2, HQ', bel⟩
        case measure => simp [intOf]; omega
    · have hi' : ¬ (i : Int) < b := by omega
      have HT2 : Hid (T = true) := HT'.out.trans (allB_end (by omega))
      clear HT'
      go_wp2_with fail
      go_ret
      exact ⟨by rw [HT2.out]; rfl, bel⟩

end Go.Proofs.YtjfoagmenehapaaGreatDoor.Tree

namespace Go.Proofs.YtjfoagmenehapaaGreatDoor
open Go.RowKit Go.Joins

def Hid (p : Prop) : Prop := p
theorem hide {p : Prop} (h : p) : Hid p := h
theorem Hid.out {p : Prop} (h : Hid p) : p := h

/-- The byte i of a text; 0 behind it. -/
def bt (s : ByteArray) (i : Nat) : Nat := if h : i < s.size then (s[i]).toNat else 0
theorem bt_in {s : ByteArray} {i : Nat} (h : i < s.size) : (s[i]).toNat = bt s i := by unfold bt; rw [dif_pos h]
theorem bt_le (s : ByteArray) (i : Nat) : bt s i < 256 := by
  unfold bt; split
  · exact UInt8.toNat_lt _
  · omega

/-- Classes of bytes. -/
def dig (c : Nat) : Bool := decide (48 ≤ c) && decide (c ≤ 57)
def sml (c : Nat) : Bool := decide (97 ≤ c) && decide (c ≤ 122) || decide (c = 95)
def cap (c : Nat) : Bool := decide (65 ≤ c) && decide (c ≤ 90)
def ins (c : Nat) : Bool := sml c || cap c || dig c || decide (c = 39)

theorem ret_b {a b : Bool} (h : a = b) : Ending.returned (.bool a) = .returned (.bool b) := by rw [h]

theorem mDigit (c : Nat) (w : World) : Calls Tryz.prog 136 #[.int .u8 c] w fun e w' => e = .returned (.bool (dig c)) ∧ w' = w := by
  by_cases h : (48 : Int) ≤ c
  · go_enter Tryz.func136, Tryz.ntmps136
    go_wp2
    go_ret
    exact ⟨ret_b (Bool.eq_iff_iff.2 (by simp [dig] <;> omega)), rfl⟩
  · have hd : decide ((48 : Int) ≤ c) = false := by simp; omega
    go_enter Tryz.func136, Tryz.ntmps136
    go_wp2
    go_ret
    exact ⟨ret_b (Bool.eq_iff_iff.2 (by simp [dig] <;> omega)), rfl⟩

theorem mCapital (c : Nat) (w : World) : Calls Tryz.prog 133 #[.int .u8 c] w fun e w' => e = .returned (.bool (cap c)) ∧ w' = w := by
  by_cases h : (65 : Int) ≤ c
  · go_enter Tryz.func133, Tryz.ntmps133
    go_wp2
    go_ret
    exact ⟨ret_b (Bool.eq_iff_iff.2 (by simp [cap] <;> omega)), rfl⟩
  · have hd : decide ((65 : Int) ≤ c) = false := by simp; omega
    go_enter Tryz.func133, Tryz.ntmps133
    go_wp2
    go_ret
    exact ⟨ret_b (Bool.eq_iff_iff.2 (by simp [cap] <;> omega)), rfl⟩

theorem mSmall (c : Nat) (w : World) : Calls Tryz.prog 132 #[.int .u8 c] w fun e w' => e = .returned (.bool (sml c)) ∧ w' = w := by
  by_cases h : (97 : Int) ≤ c
  · by_cases h2 : (c : Int) ≤ 122
    · go_enter Tryz.func132, Tryz.ntmps132
      go_wp2
      go_ret
      exact ⟨ret_b (Bool.eq_iff_iff.2 (by simp [sml] <;> omega)), rfl⟩
    · have hd : decide ((c : Int) ≤ 122) = false := by simp; omega
      go_enter Tryz.func132, Tryz.ntmps132
      go_wp2
      go_ret
      exact ⟨ret_b (Bool.eq_iff_iff.2 (by simp [sml] <;> omega)), rfl⟩
  · have hd : decide ((97 : Int) ≤ c) = false := by simp; omega
    go_enter Tryz.func132, Tryz.ntmps132
    go_wp2
    go_ret
    exact ⟨ret_b (Bool.eq_iff_iff.2 (by simp [sml] <;> omega)), rfl⟩

theorem mInside (c : Nat) (w : World) : Calls Tryz.prog 149 #[.int .u8 c] w fun e w' => e = .returned (.bool (ins c)) ∧ w' = w := by
  rcases h1 : sml c with _ | _
  rcases h2 : cap c with _ | _
  rcases h3 : dig c with _ | _
  all_goals
    go_enter Tryz.func149, Tryz.ntmps149
    go_wp2_with fail
    refine (mSmall c _).mono ?_
    rintro e w1 ⟨rfl, rfl⟩
    rw [h1]
    go_wp2_with fail
  all_goals first
    | (refine (mCapital c _).mono ?_
       rintro e w1 ⟨rfl, rfl⟩
       rw [h2]
       go_wp2_with fail)
    | skip
  all_goals first
    | (refine (mDigit c _).mono ?_
       rintro e w1 ⟨rfl, rfl⟩
       rw [h3]
       go_wp2_with fail)
    | skip
  all_goals
    go_ret
    exact ⟨ret_b (Bool.eq_iff_iff.2 (by simp [ins, *] <;> omega)), rfl⟩

/-- Whether a byte is in a list, as a text. -/
def inL (c : Nat) (s : ByteArray) : Bool := (List.range s.size).any (fun i => bt s i == c)
theorem inL_true {c : Nat} {s : ByteArray} {i : Nat} (h : i < s.size) (he : bt s i = c) : true = inL c s := by
  symm
  simp only [inL, List.any_eq_true, List.mem_range]
  exact ⟨i, h, by simp [he]⟩
theorem inL_false {c : Nat} {s : ByteArray} (h : ∀ i, i < s.size → bt s i ≠ c) : false = inL c s := by
  symm
  simp only [inL, List.any_eq_false, List.mem_range]
  intro i hi
  have := h i hi
  simpa using this

theorem mIn (c : Nat) (s : ByteArray) (w : World) (hs : s.size ≤ 1048576) : Calls Tryz.prog 150 #[.int .u8 c, .string s] w fun e w' => e = .returned (.bool (inL c s)) ∧ w' = w := by
  go_enter Tryz.func150, Tryz.ntmps150
  go_wp2_with fail
  go_loop [5] (fun s5 => ∃ k : Nat, k ≤ s.size ∧ s5 = .int .i64 k ∧ Hid (∀ i, i < k → bt s i ≠ c)) (fun s5 => s.size - (intOf s5).toNat)
  case atStart => exact ⟨0, Nat.zero_le _, rfl, fun i hi => by omega⟩
  case round =>
    obtain ⟨k, hk, rfl, hn⟩ := hrel
    by_cases hlt : k < s.size
    · have hb := bt_in hlt
      by_cases he : bt s k = c
      · have hq : ((s[k].toNat : Int) == (c : Int)) = true := by rw [hb, he]; simp
        have HE := hide he
        clear hb he
        go_wp2_with fail
        go_ret
        exact ⟨ret_b (inL_true hlt HE.out), rfl⟩
      · have hq : ((s[k].toNat : Int) == (c : Int)) = false := by rw [hb]; simp; omega
        clear hb
        go_wp2_with fail
        go_round
        case rel =>
          refine ⟨k + 1, by omega, by go_num, fun i hi => ?_⟩
          by_cases h : i = k
          · rw [h]; exact he
          · exact hn.out i (by omega)
        case measure => simp [intOf]; omega
    · go_wp2_with fail
      go_ret
      exact ⟨ret_b (inL_false (fun i hi => hn.out i (by omega))), rfl⟩

/-- The bytes of symbols and of specials. -/
def sym (c : Nat) : Bool := [33, 35, 36, 37, 38, 42, 43, 46, 47, 60, 61, 62, 63, 64, 92, 94, 124, 45, 126, 58].contains c
def spc (c : Nat) : Bool := [40, 41, 91, 93, 44, 59, 96, 123, 125].contains c

theorem inL_list (c : Nat) (L : List UInt8) : inL c ⟨L.toArray⟩ = (L.map UInt8.toNat).contains c := by
  have hz : (⟨L.toArray⟩ : ByteArray).size = L.length := by simp [ByteArray.size]
  rcases h : (L.map UInt8.toNat).contains c with _ | _
  · symm
    apply inL_false
    intro i hi he
    rw [hz] at hi
    have hm : c ∈ L.map UInt8.toNat := by
      rw [List.mem_map]
      refine ⟨L[i], List.getElem_mem hi, ?_⟩
      rw [← he]
      unfold bt
      rw [dif_pos (by rw [hz]; exact hi)]
      rfl
    rw [List.contains_iff_mem.2 hm] at h
    cases h
  · have hm := List.contains_iff_mem.1 h
    rw [List.mem_map] at hm
    obtain ⟨x, hx, rfl⟩ := hm
    obtain ⟨i, hi, rfl⟩ := List.getElem_of_mem hx
    symm
    apply inL_true (i := i) (by rw [hz]; exact hi)
    unfold bt
    rw [dif_pos (by rw [hz]; exact hi)]
    rfl

theorem mSymbol (c : Nat) (w : World) : Calls Tryz.prog 138 #[.int .u8 c] w fun e w' => e = .returned (.bool (sym c)) ∧ w' = w := by
  go_enter Tryz.func138, Tryz.ntmps138
  go_wp2_with fail
  refine (mIn c _ _ (by decide)).mono ?_
  rintro e w1 ⟨rfl, rfl⟩
  go_wp2_with fail
  go_ret
  exact ⟨ret_b (by rw [show (#[33, 35, 36, 37, 38, 42, 43, 46, 47, 60, 61, 62, 63, 64, 92, 94, 124, 45, 126, 58] : Array UInt8) = [33, 35, 36, 37, 38, 42, 43, 46, 47, 60, 61, 62, 63, 64, 92, 94, 124, 45, 126, 58].toArray from rfl, inL_list]; rfl), rfl⟩

theorem mSpecial (c : Nat) (w : World) : Calls Tryz.prog 140 #[.int .u8 c] w fun e w' => e = .returned (.bool (spc c)) ∧ w' = w := by
  go_enter Tryz.func140, Tryz.ntmps140
  go_wp2_with fail
  refine (mIn c _ _ (by decide)).mono ?_
  rintro e w1 ⟨rfl, rfl⟩
  go_wp2_with fail
  go_ret
  exact ⟨ret_b (by rw [show (#[40, 41, 91, 93, 44, 59, 96, 123, 125] : Array UInt8) = [40, 41, 91, 93, 44, 59, 96, 123, 125].toArray from rfl, inL_list]; rfl), rfl⟩

end Go.Proofs.YtjfoagmenehapaaGreatDoor

namespace Go.Proofs.YtjfoagmenehapaaGreatDoor
open Go.RowKit Go.Joins

/-- From a place on n bytes are of a class, and no more. -/
structure Run (p : Nat → Bool) (s : ByteArray) (at' n : Nat) : Prop where
  le : at' + n ≤ s.size
  all : ∀ i, i < n → p (bt s (at' + i)) = true
  stop : at' + n < s.size → p (bt s (at' + n)) = false

theorem Run.unique {p s a n m} (h : Run p s a n) (k : Run p s a m) : n = m := by
  apply Decidable.byContradiction
  intro hne
  by_cases hl : n < m
  · have h1 := k.all n hl
    rw [h.stop (by have := k.le; omega)] at h1
    cases h1
  · have h1 := h.all m (by omega)
    rw [k.stop (by have := h.le; omega)] at h1
    cases h1

theorem mRun0 (s : ByteArray) (a : Nat) (w : World) (hs : s.size ≤ 1048576) (ha : a ≤ s.size) : Calls Tryz.prog 131 #[.string s, .int .i64 a, .int .i64 0] w fun e w' => (∃ n : Nat, e = .returned (.int .i64 n) ∧ Run ins s a n) ∧ w' = w := by
  go_enter Tryz.func131, Tryz.ntmps131
  go_wp2_with fail
  go_loop [7] (fun s7 => ∃ k : Nat, a + k ≤ s.size ∧ s7 = .int .i64 k ∧ Hid (∀ i, i < k → ins (bt s (a + i)) = true)) (fun s7 => s.size - (intOf s7).toNat)
  case atStart => exact ⟨0, by omega, rfl, fun i hi => by omega⟩
  case round =>
    obtain ⟨k, hk, rfl, hn⟩ := hrel
    by_cases hlt : a + k < s.size
    · have hb := hide (bt_in hlt)
      rcases hi : ins (bt s (a + k)) with _ | _
      · go_wp2_with fail
        refine (mInside _ _).mono ?_
        rintro e w1 ⟨rfl, rfl⟩
        rw [hb.out, hi]
        go_wp2_with fail
        go_ret
        exact ⟨⟨k, rfl, hk, hn.out, fun _ => hi⟩, rfl⟩
      · go_wp2_with fail
        refine (mInside _ _).mono ?_
        rintro e w1 ⟨rfl, rfl⟩
        rw [hb.out, hi]
        go_wp2_with fail
        go_round
        case rel =>
          refine ⟨k + 1, by omega, by go_num, fun i hi' => ?_⟩
          by_cases h : i = k
          · rw [h]; exact hi
          · exact hn.out i (by omega)
        case measure => simp [intOf]; omega
    · go_wp2_with fail
      go_ret
      exact ⟨⟨k, rfl, hk, hn.out, fun h => by omega⟩, rfl⟩

theorem mRun1 (s : ByteArray) (a : Nat) (w : World) (hs : s.size ≤ 1048576) (ha : a ≤ s.size) : Calls Tryz.prog 131 #[.string s, .int .i64 a, .int .i64 1] w fun e w' => (∃ n : Nat, e = .returned (.int .i64 n) ∧ Run sym s a n) ∧ w' = w := by
  go_enter Tryz.func131, Tryz.ntmps131
  go_wp2_with fail
  go_loop [7] (fun s7 => ∃ k : Nat, a + k ≤ s.size ∧ s7 = .int .i64 k ∧ Hid (∀ i, i < k → sym (bt s (a + i)) = true)) (fun s7 => s.size - (intOf s7).toNat)
  case atStart => exact ⟨0, by omega, rfl, fun i hi => by omega⟩
  case round =>
    obtain ⟨k, hk, rfl, hn⟩ := hrel
    by_cases hlt : a + k < s.size
    · have hb := hide (bt_in hlt)
      rcases hi : sym (bt s (a + k)) with _ | _
      · go_wp2_with fail
        refine (mSymbol _ _).mono ?_
        rintro e w1 ⟨rfl, rfl⟩
        rw [hb.out, hi]
        go_wp2_with fail
        go_ret
        exact ⟨⟨k, rfl, hk, hn.out, fun _ => hi⟩, rfl⟩
      · go_wp2_with fail
        refine (mSymbol _ _).mono ?_
        rintro e w1 ⟨rfl, rfl⟩
        rw [hb.out, hi]
        go_wp2_with fail
        go_round
        case rel =>
          refine ⟨k + 1, by omega, by go_num, fun i hi' => ?_⟩
          by_cases h : i = k
          · rw [h]; exact hi
          · exact hn.out i (by omega)
        case measure => simp [intOf]; omega
    · go_wp2_with fail
      go_ret
      exact ⟨⟨k, rfl, hk, hn.out, fun h => by omega⟩, rfl⟩

theorem mRun2 (s : ByteArray) (a : Nat) (w : World) (hs : s.size ≤ 1048576) (ha : a ≤ s.size) : Calls Tryz.prog 131 #[.string s, .int .i64 a, .int .i64 2] w fun e w' => (∃ n : Nat, e = .returned (.int .i64 n) ∧ Run dig s a n) ∧ w' = w := by
  go_enter Tryz.func131, Tryz.ntmps131
  go_wp2_with fail
  go_loop [7] (fun s7 => ∃ k : Nat, a + k ≤ s.size ∧ s7 = .int .i64 k ∧ Hid (∀ i, i < k → dig (bt s (a + i)) = true)) (fun s7 => s.size - (intOf s7).toNat)
  case atStart => exact ⟨0, by omega, rfl, fun i hi => by omega⟩
  case round =>
    obtain ⟨k, hk, rfl, hn⟩ := hrel
    by_cases hlt : a + k < s.size
    · have hb := hide (bt_in hlt)
      rcases hi : dig (bt s (a + k)) with _ | _
      · go_wp2_with fail
        refine (mDigit _ _).mono ?_
        rintro e w1 ⟨rfl, rfl⟩
        rw [hb.out, hi]
        go_wp2_with fail
        go_ret
        exact ⟨⟨k, rfl, hk, hn.out, fun _ => hi⟩, rfl⟩
      · go_wp2_with fail
        refine (mDigit _ _).mono ?_
        rintro e w1 ⟨rfl, rfl⟩
        rw [hb.out, hi]
        go_wp2_with fail
        go_round
        case rel =>
          refine ⟨k + 1, by omega, by go_num, fun i hi' => ?_⟩
          by_cases h : i = k
          · rw [h]; exact hi
          · exact hn.out i (by omega)
        case measure => simp [intOf]; omega
    · go_wp2_with fail
      go_ret
      exact ⟨⟨k, rfl, hk, hn.out, fun h => by omega⟩, rfl⟩

end Go.Proofs.YtjfoagmenehapaaGreatDoor

namespace Go.Proofs.YtjfoagmenehapaaGreatDoor
open Go.RowKit Go.Joins

/-- Line and column of a place of a text. -/
def pl (s : ByteArray) : Nat → Nat
  | 0 => 1
  | i + 1 => if bt s i = 10 then pl s i + 1 else pl s i
def pc (s : ByteArray) : Nat → Nat
  | 0 => 1
  | i + 1 => if bt s i = 10 then 1 else pc s i + 1
theorem pl_le (s : ByteArray) : ∀ i, pl s i ≤ i + 1
  | 0 => Nat.le_refl _
  | i + 1 => by have := pl_le s i; unfold pl; split <;> omega
theorem pc_le (s : ByteArray) : ∀ i, pc s i ≤ i + 1
  | 0 => Nat.le_refl _
  | i + 1 => by have := pc_le s i; unfold pc; split <;> omega

/-- Only block g may have changed, and none was made. -/
structure Only (g : Nat) (w w' : World) : Prop where
  os : w'.os = w.os
  tape : w'.tape = w.tape
  output : w'.output = w.output
  size : w'.heap.size = w.heap.size
  block : ∀ k, k ≠ g → w'.heap[k]? = w.heap[k]?
theorem Only.refl (g w) : Only g w w := ⟨rfl, rfl, rfl, rfl, fun _ _ => rfl⟩
theorem Only.trans {g a b c} (h : Only g a b) (k : Only g b c) : Only g a c := ⟨k.os.trans h.os, k.tape.trans h.tape, k.output.trans h.output, k.size.trans h.size, fun i hi => (k.block i hi).trans (h.block i hi)⟩
theorem Only.setCell (w : World) (p : Addr) (u : Value) : Only p.block w (w.setCell p u) := ⟨rfl, rfl, rfl, by simp [World.setCell], fun k hk => Below.heap_setCell _ _ _ _ hk⟩
theorem Only.drewN {g w w'} (h : Only g w w') (q : Nat) : Only g w (w'.drewN q) := ⟨h.os, h.tape, h.output, h.size, h.block⟩

/-- The model's lexer at block b: at a place of a text, with its line and column; x4 .. x7: what it answers. -/
structure Lx (w : World) (b : Nat) (s : ByteArray) (a : Nat) (ln cl : Int) (x4 x5 x6 x7 : Value) : Prop where
  c0 : w.cell? ⟨b, 0, none⟩ = some (.string s)
  c1 : w.cell? ⟨b, 1, none⟩ = some (.int .i64 a)
  c2 : w.cell? ⟨b, 2, none⟩ = some (.int .i64 ln)
  c3 : w.cell? ⟨b, 3, none⟩ = some (.int .i64 cl)
  c4 : w.cell? ⟨b, 4, none⟩ = some x4
  c5 : w.cell? ⟨b, 5, none⟩ = some x5
  c6 : w.cell? ⟨b, 6, none⟩ = some x6
  c7 : w.cell? ⟨b, 7, none⟩ = some x7
  fr : ∀ o, w.frozen? ⟨b, o, none⟩ = false
  lt : b < w.heap.size

theorem bt_extract (s : ByteArray) (a b i : Nat) (hb : b ≤ s.size) (hi : i < b - a) : bt (s.extract a b) i = bt s (a + i) := by
  have h1 : i < (s.extract a b).size := by rw [ByteArray.size_extract]; omega
  unfold bt
  rw [dif_pos h1, dif_pos (by omega)]
  rw [ByteArray.getElem_extract]
theorem bt_data {s : ByteArray} {i : Nat} : bt s i = (s.data.toList[i]?.map UInt8.toNat).getD 0 := by
  unfold bt
  by_cases h : i < s.size
  · rw [dif_pos h]
    have : s.data.toList[i]? = some s[i] := by
      rw [List.getElem?_eq_getElem (by simpa using h)]; rfl
    rw [this]; rfl
  · rw [dif_neg h, List.getElem?_eq_none (by have : s.data.toList.length = s.size := Array.length_toList
                                             omega)]
    rfl

/-- Two bytes stand at a place. -/
def two (s : ByteArray) (i x y : Nat) : Bool := decide (i + 2 ≤ s.size) && (bt s i == x && bt s (i + 1) == y)

theorem two_list (s : ByteArray) (i : Nat) (x y : UInt8) (h : i + 2 ≤ s.size) : ((s.extract i (i + 2)).toList == [x, y]) = (bt s i == x.toNat && bt s (i + 1) == y.toNat) := by
  have hz : (s.extract i (i + 2)).size = 2 := by simp [ByteArray.size_extract]; omega
  have e0 : bt (s.extract i (i + 2)) 0 = bt s i := bt_extract s i (i + 2) 0 h (by omega)
  have e1 : bt (s.extract i (i + 2)) 1 = bt s (i + 1) := bt_extract s i (i + 2) 1 h (by omega)
  rw [bt_data] at e0 e1
  rw [← e0, ← e1, Lib.toList_data]
  clear e0 e1
  have hl : (s.extract i (i + 2)).data.toList.length = 2 := by rw [Array.length_toList]; exact hz
  generalize (s.extract i (i + 2)).data.toList = L at *
  match L, hl with
  | [u, v], _ =>
    rw [Bool.eq_iff_iff]
    simp [UInt8.toNat_inj]

theorem mTwo (b : Nat) (s : ByteArray) (x y : UInt8) (a i : Nat) (ln cl : Int) (x4 x5 x6 x7 : Value) (w : World) (h : Lx w b s a ln cl x4 x5 x6 x7) (hs : s.size ≤ 1048576) (hi : i ≤ s.size) :
    Calls Tryz.prog 128 #[.pointer (some ⟨b, 0, none⟩), .int .i64 i, .string ⟨#[x, y]⟩] w fun e w' => e = .returned (.bool (two s i x.toNat y.toNat)) ∧ w' = w := by
  obtain ⟨c0, c1, c2, c3, c4, c5, c6, c7, fr, lt⟩ := h
  by_cases h2 : i + 2 ≤ s.size
  · have h2' : (i : Int) + 2 ≤ (s.size : Int) := by omega
    go_enter Tryz.func128, Tryz.ntmps128
    go_wp2_with fail
    go_ret
    exact ⟨ret_b (by unfold two; rw [decide_eq_true h2, Bool.true_and, ← two_list s i x y h2]), rfl⟩
  · have h2' : decide ((i : Int) + 2 ≤ (s.size : Int)) = false := by simp; omega
    go_enter Tryz.func128, Tryz.ntmps128
    go_wp2_with fail
    go_ret
    exact ⟨ret_b (by unfold two; simp [h2]), rfl⟩

theorem Lx.set1 {w b s a ln cl x4 x5 x6 x7} (h : Lx w b s a ln cl x4 x5 x6 x7) (a' : Nat) : Lx (w.setCell ⟨b, 1, none⟩ (.int .i64 a')) b s a' ln cl x4 x5 x6 x7 := by
  obtain ⟨c0, c1, c2, c3, c4, c5, c6, c7, fr, lt⟩ := h
  exact ⟨by simp [go_sem, c0], by simp [go_sem, c1], by simp [go_sem, c2], by simp [go_sem, c3], by simp [go_sem, c4], by simp [go_sem, c5], by simp [go_sem, c6], by simp [go_sem, c7], fun o => by simpa [go_sem] using fr o, by simpa using lt⟩

end Go.Proofs.YtjfoagmenehapaaGreatDoor

namespace Go.Proofs.YtjfoagmenehapaaGreatDoor
open Go.RowKit Go.Joins

theorem Lx.drewN {w b s a ln cl x4 x5 x6 x7} (h : Lx w b s a ln cl x4 x5 x6 x7) (q : Nat) : Lx (w.drewN q) b s a ln cl x4 x5 x6 x7 :=
  ⟨h.c0, h.c1, h.c2, h.c3, h.c4, h.c5, h.c6, h.c7, h.fr, h.lt⟩
theorem Lx.set2 {w b s a ln cl x4 x5 x6 x7} (h : Lx w b s a ln cl x4 x5 x6 x7) (z : Int) : Lx (w.setCell ⟨b, 2, none⟩ (.int .i64 z)) b s a z cl x4 x5 x6 x7 := by
  obtain ⟨c0, c1, c2, c3, c4, c5, c6, c7, fr, lt⟩ := h
  exact ⟨by simp [go_sem, c0], by simp [go_sem, c1], by simp [go_sem, c2], by simp [go_sem, c3], by simp [go_sem, c4], by simp [go_sem, c5], by simp [go_sem, c6], by simp [go_sem, c7], fun o => by simpa [go_sem] using fr o, by simpa using lt⟩
theorem Lx.set3 {w b s a ln cl x4 x5 x6 x7} (h : Lx w b s a ln cl x4 x5 x6 x7) (z : Int) : Lx (w.setCell ⟨b, 3, none⟩ (.int .i64 z)) b s a ln z x4 x5 x6 x7 := by
  obtain ⟨c0, c1, c2, c3, c4, c5, c6, c7, fr, lt⟩ := h
  exact ⟨by simp [go_sem, c0], by simp [go_sem, c1], by simp [go_sem, c2], by simp [go_sem, c3], by simp [go_sem, c4], by simp [go_sem, c5], by simp [go_sem, c6], by simp [go_sem, c7], fun o => by simpa [go_sem] using fr o, by simpa using lt⟩

set_option maxHeartbeats 1000000 in
set_option maxRecDepth 100000 in
theorem mSkip (b : Nat) (s : ByteArray) (a n : Nat) (x4 x5 x6 x7 : Value) (w : World) (h : Lx w b s a (pl s a) (pc s a) x4 x5 x6 x7) (hs : s.size ≤ 1048576) (ha : a + n ≤ s.size) :
    Calls Tryz.prog 127 #[.pointer (some ⟨b, 0, none⟩), .int .i64 n] w fun e w' => e = .returned (.tuple #[]) ∧ Lx w' b s (a + n) (pl s (a + n)) (pc s (a + n)) x4 x5 x6 x7 ∧ Only b w w' := by
  go_enter Tryz.func127, Tryz.ntmps127
  go_wp2_with fail
  go_loopw [4] (fun s4 wr => ∃ k : Nat, k ≤ n ∧ s4 = .int .i64 k ∧ Lx wr b s (a + k) (pl s (a + k)) (pc s (a + k)) x4 x5 x6 x7 ∧ Only b w wr) (fun s4 _ => n - (intOf s4).toNat)
  case atStart => exact ⟨0, Nat.zero_le _, rfl, h, Only.refl _ _⟩
  case round =>
    clear h
    obtain ⟨k, hk, rfl, hl, ho⟩ := hrel
    by_cases hlt : k < n
    · have hlt' : a + k < s.size := by omega
      have hnx : Hid (a + (k + 1) = a + k + 1) := by show _ = _; omega
      generalize a + k = j at *
      have hb := bt_in hlt'
      have p1 := pl_le s j
      have p2 := pc_le s j
      obtain ⟨c0, c1, c2, c3, c4, c5, c6, c7, fr, lt⟩ := id hl
      have f1 := fr 1
      have f2 := fr 2
      have f3 := fr 3
      by_cases he : bt s j = 10
      · have hq : ((s[j].toNat : Int) == 10) = true := by rw [hb, he]; rfl
        have e1 : Hid (pl s (j + 1) = pl s j + 1) := by show pl s (j + 1) = _; rw [pl, if_pos he]
        have e2 : Hid (pc s (j + 1) = 1) := by show pc s (j + 1) = _; rw [pc, if_pos he]
        clear hb he
        go_wp2_with fail
        go_region
        go_wp2_with fail
        go_roundw
        case rel =>
          refine ⟨k + 1, by omega, by go_num, ?_, ?_⟩
          · rw [hnx.out, e1.out, e2.out]
            exact ((((hl.set2 _).set3 _).set1 (j + 1)).set3 _).drewN 1
          · exact ((((ho.trans (Only.setCell wr ⟨b, 2, none⟩ _)).trans (Only.setCell _ ⟨b, 3, none⟩ _)).trans (Only.setCell _ ⟨b, 1, none⟩ _)).trans (Only.setCell _ ⟨b, 3, none⟩ _)).drewN 1
        case measure => simp [intOf]; omega
      · have hq : ((s[j].toNat : Int) == 10) = false := by rw [hb]; simp; omega
        have e1 : Hid (pl s (j + 1) = pl s j) := by show pl s (j + 1) = _; rw [pl, if_neg he]
        have e2 : Hid (pc s (j + 1) = pc s j + 1) := by show pc s (j + 1) = _; rw [pc, if_neg he]
        clear hb he
        go_wp2_with fail
        go_region
        go_wp2_with fail
        go_roundw
        case rel =>
          refine ⟨k + 1, by omega, by go_num, ?_, ?_⟩
          · rw [hnx.out, e1.out, e2.out]
            exact ((hl.set1 (j + 1)).set3 _).drewN 1
          · exact ((ho.trans (Only.setCell wr ⟨b, 1, none⟩ _)).trans (Only.setCell _ ⟨b, 3, none⟩ _)).drewN 1
        case measure => simp [intOf]; omega
    · obtain rfl : n = k := by omega
      go_wp2_with fail
      go_end0
      exact ⟨rfl, hl, ho⟩

end Go.Proofs.YtjfoagmenehapaaGreatDoor

namespace Go.Proofs.YtjfoagmenehapaaGreatDoor
open Go.RowKit Go.Joins

/-- The place behind the comment that is open d times at i. -/
def nest (s : ByteArray) (i d : Nat) : Option Nat :=
  if s.size ≤ i then none
  else if two s i 123 45 = true then nest s (i + 2) (d + 1)
  else if two s i 45 125 = true then (if d = 1 then some (i + 2) else nest s (i + 2) (d - 1))
  else nest s (i + 1) d
termination_by s.size - i
decreasing_by all_goals omega

theorem two_le {s : ByteArray} {i x y : Nat} (h : two s i x y = true) : i + 2 ≤ s.size := by
  unfold two at h
  simp only [Bool.and_eq_true, decide_eq_true_eq] at h
  exact h.1

/-- What the model tells of a comment's length. -/
def nestN (s : ByteArray) (a : Nat) : Int := match nest s a 0 with
  | none => -1
  | some j => (j : Int) - a

set_option maxHeartbeats 1000000 in
set_option maxRecDepth 100000 in
theorem mNested (b : Nat) (s : ByteArray) (a : Nat) (ln cl : Int) (x4 x5 x6 x7 : Value) (w : World) (h : Lx w b s a ln cl x4 x5 x6 x7) (hs : s.size ≤ 1048576) (ha : two s a 123 45 = true) :
    Calls Tryz.prog 129 #[.pointer (some ⟨b, 0, none⟩)] w fun e w' => e = .returned (.int .i64 (nestN s a)) ∧ w' = w := by
  have hal := two_le ha
  obtain ⟨c0, c1, c2, c3, c4, c5, c6, c7, fr, lt⟩ := id h
  go_enter Tryz.func129, Tryz.ntmps129
  go_wp2_with fail
  go_loop [3, 4] (fun s3 s4 => ∃ i d : Nat, s4 = .int .i64 i ∧ s3 = .int .i64 d ∧ a ≤ i ∧ i ≤ s.size ∧ d ≤ i ∧ (i = a ∧ d = 0 ∨ 0 < d) ∧ Hid (nest s i d = nest s a 0)) (fun _ s4 => s.size - (intOf s4).toNat)
  case atStart => exact ⟨a, 0, rfl, rfl, Nat.le_refl _, by omega, by omega, .inl ⟨rfl, rfl⟩, rfl⟩
  case round =>
    obtain ⟨i, d, rfl, rfl, h1, h2, h3, h4, hn⟩ := hrel
    by_cases hlt : i < s.size
    · rcases q1 : two s i 123 45 with _ | _
      · rcases q2 : two s i 45 125 with _ | _
        · have en : Hid (nest s (i + 1) d = nest s a 0) := by
            have := hn.out
            rw [nest, if_neg (by omega), if_neg (by rw [q1]; decide), if_neg (by rw [q2]; decide)] at this
            exact this
          go_wp2_with fail
          refine (mTwo b s 123 45 a i ln cl x4 x5 x6 x7 _ h hs (by omega)).mono ?_
          rintro e w1 ⟨rfl, rfl⟩
          rw [show (123 : UInt8).toNat = 123 from rfl, show (45 : UInt8).toNat = 45 from rfl, q1]
          go_wp2_with fail
          refine (mTwo b s 45 125 a i ln cl x4 x5 x6 x7 _ h hs (by omega)).mono ?_
          rintro e w1 ⟨rfl, rfl⟩
          rw [show (125 : UInt8).toNat = 125 from rfl, show (45 : UInt8).toNat = 45 from rfl, q2]
          go_wp2_with fail
          go_round
          case rel => exact ⟨i + 1, d, by go_num, rfl, by omega, by omega, by omega, by
            rcases h4 with ⟨rfl, rfl⟩ | h4
            · rw [ha] at q1; cases q1
            · exact .inr h4, en⟩
          case measure => simp [intOf]; omega
        · have h22 := two_le q2
          have hd : 0 < d := by
            rcases h4 with ⟨rfl, rfl⟩ | h4
            · rw [ha] at q1; cases q1
            · exact h4
          by_cases hd1 : d = 1
          · subst hd1
            have en : Hid (nestN s a = (i : Int) + 2 - a) := by
              have := hn.out
              rw [nest, if_neg (by omega), if_neg (by rw [q1]; decide), if_pos q2, if_pos rfl] at this
              unfold Hid nestN
              rw [← this]
              simp
            go_wp2_with fail
            refine (mTwo b s 123 45 a i ln cl x4 x5 x6 x7 _ h hs (by omega)).mono ?_
            rintro e w1 ⟨rfl, rfl⟩
            rw [show (123 : UInt8).toNat = 123 from rfl, show (45 : UInt8).toNat = 45 from rfl, q1]
            go_wp2_with fail
            refine (mTwo b s 45 125 a i ln cl x4 x5 x6 x7 _ h hs (by omega)).mono ?_
            rintro e w1 ⟨rfl, rfl⟩
            rw [show (125 : UInt8).toNat = 125 from rfl, show (45 : UInt8).toNat = 45 from rfl, q2]
            go_wp2_with fail
            go_ret
            rw [en.out]
            exact ⟨rfl, rfl⟩
          · have en : Hid (nest s (i + 2) (d - 1) = nest s a 0) := by
              have := hn.out
              rw [nest, if_neg (by omega), if_neg (by rw [q1]; decide), if_pos q2, if_neg hd1] at this
              exact this
            have hz : (((d : Int) - 1) == 0) = false := by simp; omega
            go_wp2_with fail
            refine (mTwo b s 123 45 a i ln cl x4 x5 x6 x7 _ h hs (by omega)).mono ?_
            rintro e w1 ⟨rfl, rfl⟩
            rw [show (123 : UInt8).toNat = 123 from rfl, show (45 : UInt8).toNat = 45 from rfl, q1]
            go_wp2_with fail
            refine (mTwo b s 45 125 a i ln cl x4 x5 x6 x7 _ h hs (by omega)).mono ?_
            rintro e w1 ⟨rfl, rfl⟩
            rw [show (125 : UInt8).toNat = 125 from rfl, show (45 : UInt8).toNat = 45 from rfl, q2]
            go_wp2_with fail
            go_round
            case rel => exact ⟨i + 2, d - 1, by go_num, by go_num, by omega, by omega, by omega, .inr (by omega), en⟩
            case measure => simp [intOf]; omega
      · have h22 := two_le q1
        have en : Hid (nest s (i + 2) (d + 1) = nest s a 0) := by
          have := hn.out
          rw [nest, if_neg (by omega), if_pos q1] at this
          exact this
        go_wp2_with fail
        refine (mTwo b s 123 45 a i ln cl x4 x5 x6 x7 _ h hs (by omega)).mono ?_
        rintro e w1 ⟨rfl, rfl⟩
        rw [show (123 : UInt8).toNat = 123 from rfl, show (45 : UInt8).toNat = 45 from rfl, q1]
        go_wp2_with fail
        go_round
        case rel => exact ⟨i + 2, d + 1, by go_num, by go_num, by omega, by omega, by omega, .inr (by omega), en⟩
        case measure => simp [intOf]; omega
    · have en : Hid (nestN s a = -1) := by
        have := hn.out
        rw [nest, if_pos (by omega)] at this
        unfold Hid nestN
        rw [← this]
      go_wp2_with fail
      go_ret
      rw [en.out]
      exact ⟨rfl, rfl⟩

end Go.Proofs.YtjfoagmenehapaaGreatDoor

