import Derived.Test.YtojobdjmdncgdaaDoorShelf
import Derived.Test.YtojobdjmdncgdaaDoorRows
import Derived.WalkKit
import Derived.WalkSpells
import Derived.WalkLawsBesides
import Derived.Deep.OwnRows
import Derived.Deep.QuietTactic
import Derived.BigQuiet
import Derived.Deep.RegionWith
import Derived.Deep.RegionHeld3
import Derived.Lib.SmallJoins
namespace Go.Proofs.YtojobdjmdncgdaaDoor
open Go.RowKit Go.Joins

theorem hide {p : Prop} (h : p) : Hid p := h
theorem ret_int {k : IntKind} {a b : Int} (h : a = b) : Ending.returned (.int k a) = .returned (.int k b) := by rw [h]

/-- Block g holds the strings of f, n of them. -/
def SR (w : World) (g n : Nat) (f : Nat → ByteArray) : Prop := ∀ i, i < n → w.cell? ⟨g, i, none⟩ = some (.string (f i))
theorem SR.below {A B : World} {m g n : Nat} {f : Nat → ByteArray} (h : SR A g n f) (k : Below m A B) (hg : g < m) : SR B g n f := fun i hi => (k.cell (p := ⟨g, i, none⟩) hg).trans (h i hi)

/-- The digits of a number ahead of a text. -/
def dg (k : Nat) (o : ByteArray) : ByteArray := if _h : k = 0 then o else dg (k / 10) (⟨#[UInt8.ofNat (48 + k % 10)]⟩ ++ o)
termination_by k
decreasing_by omega
def mt (k : Nat) : ByteArray := ⟨#[109]⟩ ++ dg k ⟨#[]⟩

set_option maxHeartbeats 1000000 in
set_option maxRecDepth 100000 in
theorem eq_strs (g h n c d : Nat) (f : Nat → ByteArray) (w : World) (hn : n ≤ 1048576) (hR : SR w g n f) (hS : SR w h n f) :
    Calls Tryd.prog 6 #[.slice (some ⟨g, 0, none⟩) n c, .slice (some ⟨h, 0, none⟩) n d] w fun e w' => e = .returned (.bool true) ∧ Below w.heap.size w w' := by
  have HR := hide hR
  have HS := hide hS
  clear hR hS
  go_enter Tryd.func6, Tryd.ntmps6
  go_wp2_with fail
  go_loopw [5] (fun i wr => ∃ j : Nat, j ≤ n ∧ i = .int .i64 j ∧ Below w.heap.size w wr ∧ Hid (SR wr g n f) ∧ Hid (SR wr h n f)) (fun i _ => n - (intOf i).toNat)
  case atStart => exact ⟨0, Nat.zero_le _, rfl, Below.refl _ _, HR, HS⟩
  case round =>
    obtain ⟨j, hj, rfl, hb, HRj, HSj⟩ := hrel
    by_cases hlt : j < n
    · have hlt' : (j : Int) < n := by omega
      have c1 := HRj.out j hlt
      have c2 := HSj.out j hlt
      go_wp2_with fail
      go_region
      all_goals
        go_wp2_with fail
        go_roundw
        case rel => exact ⟨j + 1, by omega, by go_num, hb.drew, HRj, HSj⟩
        case measure => simp [intOf]; omega
    · have hlt' : ¬ (j : Int) < n := by omega
      obtain rfl : j = n := by omega
      go_wp2_with fail
      go_ret
      exact ⟨rfl, hb⟩
set_option maxHeartbeats 1000000 in
set_option maxRecDepth 100000 in
theorem markText (k : Nat) (w : World) (h0 : 0 < k) (hk : k ≤ 4294967296) : Calls Tryd.prog 10 #[.int .i64 k] w fun e w' => e = .returned (.string (mt k)) ∧ Below w.heap.size w w' := by
  go_enter Tryd.func10, Tryd.ntmps10
  go_wp2_with fail
  go_loopw [0, 3] (fun i o wr => ∃ (j : Nat) (s : ByteArray), j ≤ k ∧ i = .int .i64 j ∧ o = .string s ∧ s.size + j ≤ k ∧ Hid (dg j s = dg k ⟨#[]⟩) ∧ Below w.heap.size w wr) (fun i _ _ => (intOf i).toNat)
  case atStart => exact ⟨k, ⟨#[]⟩, Nat.le_refl _, rfl, rfl, by simp [ByteArray.size], rfl, Below.refl _ _⟩
  case round =>
    obtain ⟨j, s, hj, rfl, rfl, hsz, hd, hb⟩ := hrel
    by_cases hlt : 0 < j
    · have hlt' : (0 : Int) < j := by omega
      obtain ⟨r, hr⟩ : ∃ r, r = j % 10 := ⟨_, rfl⟩
      obtain ⟨q, hq⟩ : ∃ q, q = j / 10 := ⟨_, rfl⟩
      have hr' : (j : Int).tmod 10 = r := by rw [hr, Int.tmod_eq_emod_of_nonneg (by omega)]; omega
      have hq' : (j : Int).tdiv 10 = q := by rw [hq, Int.tdiv_eq_ediv_of_nonneg (by omega)]; omega
      have hrl : r < 10 := by omega
      have hql : q < j := by omega
      have HDG : Hid (dg q (⟨#[UInt8.ofNat (48 + r)]⟩ ++ s) = dg k ⟨#[]⟩) := by
        unfold Hid
        rw [← hd.out, dg.eq_def j s, dif_neg (by omega), hr, hq]
      have hss : ((⟨#[UInt8.ofNat (48 + r)]⟩ : ByteArray) ++ s).size = s.size + 1 := by
        rw [ByteArray.size_append]
        show 1 + s.size = _
        omega
      clear hr hq
      have hcv : (convert 32 9 (.slice (some ⟨wr.heap.size, 0, none⟩) 1 1)).run Tryd.prog (wr.alloc (.cells #[.int .u8 (48 + (r : Int))] 5)) = .ok (.string ⟨#[UInt8.ofNat (48 + r)]⟩) (wr.alloc (.cells #[.int .u8 (48 + (r : Int))] 5)) :=
        run_convert_bytes_back (P := Tryd.prog) (wr.alloc (.cells #[.int .u8 (48 + (r : Int))] 5)) 32 9 5 ⟨wr.heap.size, 0, none⟩ 1 [UInt8.ofNat (48 + r)] Tryd.underlying32 Tryd.underlying5 Tryd.underlying9 (fun j hj => by
          have : j = 0 := by simpa using hj
          subst this
          have hm : (48 + r) % 256 = 48 + r := Nat.mod_eq_of_lt (by omega)
          show (wr.alloc _).cell? _ = _
          simp [Addr.add, hm])
      generalize hG : UInt8.ofNat (48 + r) = G at *
      go_wp2_with fail
      go_roundw
      case rel => exact ⟨q, ⟨#[G]⟩ ++ s, by omega, rfl, rfl, by rw [hss]; omega, HDG, hb.trans ((below_alloc1 _ _).mono hb.size)⟩
      case measure => simp [intOf]; omega
    · have hlt' : ¬ (0 : Int) < j := by omega
      obtain rfl : j = 0 := by omega
      have hd' := hd.out
      rw [dg, dif_pos rfl] at hd'
      subst hd'
      go_wp2_with fail
      go_ret
      exact ⟨rfl, hb⟩


theorem grows_of {w w' : World} (h : Below w.heap.size w w') (row : Option Nat) : w.grownBy w' row := ⟨h.os, h.tape, h.output, h.size, fun k hk _ => h.block k hk⟩
theorem grows_set (w : World) (a : Addr) (v : Value) : w.grownBy (w.setCell a v) (some a.block) := ⟨rfl, rfl, rfl, by simp, fun k hk hne => Below.heap_setCell w a v k (fun e => hne (by rw [e]))⟩

theorem cs {w : World} {g o o' : Nat} {u v : Value} (h : w.cell? ⟨g, o', none⟩ = some u) : (w.setCell ⟨g, o, none⟩ v).cell? ⟨g, o', none⟩ = some (if o' = o then v else u) := by
  by_cases e : o' = o
  · subst e; rw [if_pos rfl]; exact World.cell?_setCell_same _ _ _ h
  · rw [if_neg e]; exact (World.cell?_setCell_other _ _ _ _ (fun hh => e (congrArg Addr.off hh).symm)).trans h

def mk (i : Nat) : ByteArray := mt (1 + i)

theorem SR.set {w : World} {g n j : Nat} {f : Nat → ByteArray} (h : SR w g n (fun i => if i < j then mk i else f i)) (t : ByteArray) (ht : t = mk j) : SR (w.setCell ⟨g, j, none⟩ (.string t)) g n (fun i => if i < j + 1 then mk i else f i) := fun i hi => by
  rw [cs (h i hi)]
  show _ = some (Value.string (if i < j + 1 then mk i else f i))
  by_cases e : i = j
  · subst e; rw [if_pos rfl, if_pos (by omega), ht]
  · rw [if_neg e]
    show some (Value.string (if i < j then mk i else f i)) = _
    by_cases e2 : i < j
    · rw [if_pos e2, if_pos (by omega)]
    · rw [if_neg e2, if_neg (by omega)]

set_option maxHeartbeats 1000000 in
set_option maxRecDepth 100000 in
theorem mark_strs (M : Nat) (g n c : Nat) (hM : M = 1 + n) (f : Nat → ByteArray) (w : World) (hn : n ≤ 1048576) (hg : g < w.heap.size) (hR : SR w g n f) (hF : ∀ o, w.frozen? ⟨g, o, none⟩ = false) :
    Calls Tryd.prog 7 #[.slice (some ⟨g, 0, none⟩) n c, .int .i64 1] w fun e w' => e = .returned (.int .i64 (M : Int)) ∧ SR w' g n mk ∧ w.grownBy w' (some g) := by
  have HR := hide hR
  have HMM := hide hM
  clear hR hM
  go_enter Tryd.func7, Tryd.ntmps7
  go_wp2_with fail
  go_loopw [1, 5] (fun k i wr => ∃ (j K : Nat), j ≤ n ∧ Hid (K = 1 + j) ∧ i = .int .i64 j ∧ k = .int .i64 K ∧ Hid (SR wr g n (fun i => if i < j then mk i else f i)) ∧ Hid (∀ o, wr.frozen? ⟨g, o, none⟩ = false) ∧ w.grownBy wr (some g)) (fun _ i _ => n - (intOf i).toNat)
  case atStart => exact ⟨0, 1, Nat.zero_le _, rfl, rfl, rfl, (by unfold Hid; simpa using HR.out), hF, grows_of (Below.refl _ w) _⟩
  case round =>
    obtain ⟨j, K, hj, hK, rfl, rfl, HRj, HF, hG⟩ := hrel
    have hKb : K ≤ 1048577 := by have := hK.out; omega
    by_cases hlt : j < n
    · have hlt' : (j : Int) < n := by omega
      have hgr : g < wr.heap.size := Nat.lt_of_lt_of_le hg hG.size
      have HM : Hid (∀ w1, Calls Tryd.prog 10 #[.int .i64 (K : Int)] w1 fun e w' => e = .returned (.string (mt K)) ∧ Below w1.heap.size w1 w') := fun w1 => markText K w1 (by have := hK.out; omega) (by omega)
      clear hF
      go_wp2_with fail
      refine (HM.out _).mono ?_
      rintro e w2 ⟨rfl, b2⟩
      have HR2 := hide (HRj.out.below b2 hgr)
      have x0 := HR2.out j hlt
      have HF2 : Hid (∀ o, w2.frozen? ⟨g, o, none⟩ = false) := fun o => (b2.frozen (p := ⟨g, o, none⟩) hgr).trans (HF.out o)
      have f0 := HF2.out j
      have HS := hide (SR.set HR2.out (mt K) (by unfold mk; rw [hK.out]))
      have HG2 : Hid (w.grownBy (w2.setCell ⟨g, j, none⟩ (.string (mt K))) (some g)) := (hG.trans ((grows_of b2 _))).trans (grows_set w2 ⟨g, j, none⟩ _)
      clear b2
      go_wp2_with fail
      go_roundw
      case rel =>
        have hK := hK.out
        exact ⟨j + 1, K + 1, by omega, by unfold Hid; omega, by go_num, by go_num, HS, fun o => by simp only [World.frozen?_setCell]; exact HF2.out o, HG2.out⟩
      case measure => simp [intOf]; omega
    · have hlt' : ¬ (j : Int) < n := by omega
      obtain rfl : j = n := by omega
      go_wp2_with fail
      go_ret
      exact ⟨ret_int (by have := hK.out; have := HMM.out; omega), fun i hi => by have := HRj.out i hi; simp only [hi, if_true] at this; exact this, hG⟩

set_option maxHeartbeats 1000000 in
set_option maxRecDepth 100000 in
theorem held_strs (M : Nat) (g n c : Nat) (hM : M = 1 + n) (w : World) (hn : n ≤ 1048576) (hg : g < w.heap.size) (hR : SR w g n mk) :
    Calls Tryd.prog 8 #[.slice (some ⟨g, 0, none⟩) n c, .int .i64 1] w fun e w' => e = .returned (.int .i64 (M : Int)) ∧ Below w.heap.size w w' := by
  have HR := hide hR
  have HMM := hide hM
  clear hR hM
  go_enter Tryd.func8, Tryd.ntmps8
  go_wp2_with fail
  go_loopw [1, 5] (fun k i wr => ∃ (j K : Nat), j ≤ n ∧ Hid (K = 1 + j) ∧ i = .int .i64 j ∧ k = .int .i64 K ∧ Below w.heap.size w wr) (fun _ i _ => n - (intOf i).toNat)
  case atStart => exact ⟨0, 1, Nat.zero_le _, rfl, rfl, rfl, Below.refl _ _⟩
  case round =>
    obtain ⟨j, K, hj, hK, rfl, rfl, hb⟩ := hrel
    have hKb : K ≤ 1048577 := by have := hK.out; omega
    by_cases hlt : j < n
    · have hlt' : (j : Int) < n := by omega
      have hgr : g < wr.heap.size := Nat.lt_of_lt_of_le hg hb.size
      have x0 : wr.drew.cell? ⟨g, j, none⟩ = some (.string (mt K)) := by
        have := (HR.out.below hb hg) j hlt
        unfold mk at this
        rw [← hK.out] at this
        exact this
      have HM : Hid (∀ w1, Calls Tryd.prog 10 #[.int .i64 (K : Int)] w1 fun e w' => e = .returned (.string (mt K)) ∧ Below w1.heap.size w1 w') := fun w1 => markText K w1 (by have := hK.out; omega) (by omega)
      go_wp2_with fail
      go_region_held3 (fun w' => w'.cell? ⟨g, j, none⟩ = some (.string (mt K))) (first | exact x0 | exact k6) (first
        | (go_at_call 10; refine (HM.out _).mono ?_; rintro e w6 ⟨rfl, b6⟩; have k6 : w6.cell? ⟨g, j, none⟩ = some (.string (mt K)) := (b6.cell (p := ⟨g, j, none⟩) hgr).trans x0))
      all_goals
        have hb6 := hb.drew.trans (b6.mono hb.size)
        go_wp2_with fail
        go_roundw
        case rel =>
          have hK := hK.out
          exact ⟨j + 1, K + 1, by omega, by unfold Hid; omega, by go_num, by go_num, hb6⟩
        case measure => simp [intOf]; omega
    · have hlt' : ¬ (j : Int) < n := by omega
      obtain rfl : j = n := by omega
      go_wp2_with fail
      go_ret
      exact ⟨ret_int (by have := hK.out; have := HMM.out; omega), hb⟩

end Go.Proofs.YtojobdjmdncgdaaDoor
