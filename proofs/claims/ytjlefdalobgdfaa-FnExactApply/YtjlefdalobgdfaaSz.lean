import Derived.Test.YtjlefdalobgdfaaRows
import Derived.Test.YtjlefdalobgdfaaTr
import Derived.WalkSpells
import Derived.WalkLawsBesides
import Derived.Deep.OwnRows
import Derived.Deep.QuietTactic
import Derived.BigQuiet
import Derived.Deep.RegionWith
import Derived.Lib.SmallJoins
namespace Go.Proofs.Ytjlefdalobgdfaa
open Go.RowKit Go.Joins

theorem Fo.len_le_tot (F : Fo) : F.len ≤ F.tot := Nat.le_trans F.len_le F.size_le

theorem ret_int {k : IntKind} {a b : Int} (h : a = b) : Ending.returned (.int k a) = .returned (.int k b) := by rw [h]

/-- The law's own reckoning of sizes. -/
def szV (left : Int) (n : Nat) : Int := if left < n then -1 else left - n

theorem szV_lt {left : Int} {n : Nat} (h : left < n) : szV left n = -1 := if_pos h
theorem szV_ge {left : Int} {n : Nat} (h : ¬ left < n) : szV left n = left - n := if_neg h

def SzS (F : Fo) : Prop := ∀ (n0 : Nat) (left : Int) (W : World) (a : Option Addr) (cap : Nat), n0 ≤ W.heap.size → 0 ≤ left → left ≤ 1048576 → F.Sl W (fun b => b < n0) a cap →
  Calls Try.prog 43 #[.slice a F.len cap, .int .i64 left] W fun e W' => e = .returned (.int .i64 (szV left F.tot)) ∧ Below W.heap.size W W'

set_option maxHeartbeats 1000000 in
set_option maxRecDepth 100000 in
theorem sz_node {ks : Fo} (hS : SzS ks) (k ix : Int) (nm : ByteArray) (n0 : Nat) (left : Int) (W : World) (a : Option Addr) (cap : Nat) (hn : n0 ≤ W.heap.size) (h0 : 0 ≤ left) (h1 : left ≤ 1048576) (hnm : nm.size ≤ maxLen)
    (hs : ks.Sl W (fun b => b < n0) a cap) :
    Calls Try.prog 9 #[nodeV k ix nm a ks.len cap, .int .i64 left] W fun e W' => e = .returned (.int .i64 (szV left (nm.size + ks.tot))) ∧ Below W.heap.size W W' := by
  unfold nodeV
  have hmx : nm.size ≤ 9223372036854775807 := by simp only [maxLen] at hnm; omega
  by_cases h : left < nm.size
  · go_enter Try.func9, Try.ntmps9
    go_wp2_with fail
    go_ret
    exact ⟨by rw [szV_lt (by omega)]; rfl, below_alloc1 _ _⟩
  · have hs1 : ks.Sl (W.alloc (.cells #[.int .i64 k, .int .i64 ix, .string nm, .slice a ks.len cap] 24)) (fun b => b < n0) a cap := hs.below (below_alloc1 _ _) (fun b x => by omega)
    by_cases h2 : left - nm.size < ks.tot
    · go_enter Try.func9, Try.ntmps9
      go_wp2_with fail
      refine (hS n0 _ _ _ _ (by simp; omega) (by omega) (by omega) hs1).mono ?_
      rintro e w1 ⟨rfl, b1⟩
      have e1 : szV (left - nm.size) ks.tot = -1 := szV_lt (by omega)
      rw [e1]
      go_wp2_with fail
      go_ret
      exact ⟨by rw [szV_lt (by omega)]; rfl, (below_alloc1 _ _).trans (b1.mono (by simp [World.size_alloc]))⟩
    · go_enter Try.func9, Try.ntmps9
      go_wp2_with fail
      refine (hS n0 _ _ _ _ (by simp; omega) (by omega) (by omega) hs1).mono ?_
      rintro e w1 ⟨rfl, b1⟩
      have e1 : szV (left - nm.size) ks.tot = left - nm.size - ks.tot := szV_ge (by omega)
      rw [e1]
      go_wp2_with fail
      go_ret
      exact ⟨by rw [szV_ge (by omega)]; exact ret_int (by omega), (below_alloc1 _ _).trans (b1.mono (by simp [World.size_alloc]))⟩

set_option maxHeartbeats 1000000 in
set_option maxRecDepth 100000 in
theorem sz_row : ∀ (m : Nat) (F : Fo), F.size ≤ m → SzS F := by
  intro m
  induction m with
  | zero =>
    intro F hF
    cases F with
    | cons _ _ _ _ _ _ _ => simp only [Fo.size] at hF; omega
    | nil =>
      intro n0 left W a cap hn h0 h1 hs
      simp only [Fo.len, Fo.tot]
      go_enter Try.func43, Try.ntmps43
      go_wp2_with fail
      go_loopw [1, 5] (fun s1 s5 wr => s1 = .int .i64 left ∧ s5 = .int .i64 0 ∧ wr = W) (fun _ _ _ => 0)
      case atStart => exact ⟨rfl, rfl, rfl⟩
      case round =>
        obtain ⟨rfl, rfl, rfl⟩ := hrel
        go_wp2_with fail
        go_ret
        exact ⟨by rw [szV_ge (by omega)]; exact ret_int (by omega), Below.refl _ _⟩
  | succ m ih =>
    intro F hF n0 left W a cap hn h0 h1 hs
    have hlt := F.len_le_tot
    have hmx : F.len ≤ 9223372036854775807 := by have h2 := hs.1; have h3 := hs.2.1; simp only [maxLen] at h3; omega
    by_cases h : left < F.len
    · go_enter Try.func43, Try.ntmps43
      go_wp2_with fail
      go_ret
      exact ⟨by rw [szV_lt (by omega)]; rfl, Below.refl _ _⟩
    · go_enter Try.func43, Try.ntmps43
      go_wp2_with fail
      go_loopw [1, 5] (fun s1 s5 wr => ∃ (L : Int) (i : Nat) (r : Fo), s1 = .int .i64 L ∧ s5 = .int .i64 i ∧ 0 ≤ L ∧ L ≤ 1048576 ∧ r.len + i = F.len ∧ r.size ≤ F.size ∧ L + F.tot + r.len = left + r.tot ∧
        (0 < r.len → ∃ b o, a = some ⟨b, o, none⟩ ∧ b < n0 ∧ r.Row wr (fun b => b < n0) b (o + i * 4)) ∧ Below W.heap.size W wr) (fun _ s5 _ => F.len - (intOf s5).toNat)
      case atStart => exact ⟨left - F.len, 0, F, rfl, rfl, by omega, by omega, rfl, Nat.le_refl _, by omega, hs.2.2, Below.refl _ _⟩
      case round =>
        obtain ⟨L, i, r, rfl, rfl, hL0, hL1, hri, hrs, hLe, hrow, bel⟩ := hrel
        cases r with
        | nil =>
          simp only [Fo.len, Nat.zero_add] at hri
          subst hri
          go_wp2_with fail
          go_ret
          simp only [Fo.len, Fo.tot] at hLe
          exact ⟨by rw [szV_ge (by omega)]; exact ret_int (by omega), bel⟩
        | cons k ix nm ka kcap ks r =>
          simp only [Fo.len, Fo.tot] at hri hLe
          obtain ⟨b, o, rfl, hb, hk, hix, hnm, c1, ci, c2, c3, h4, h5, h6, h7⟩ := hrow (by simp [Fo.len])
          have hks : ks.Sl wr (fun b => b < n0) ka kcap := ⟨h4, h5, h6⟩
          have hsz : ks.size ≤ m := by simp only [Fo.size] at hrs; omega
          have hw := bel.size
          have hr := r.len_le_tot
          have hi : (i : Int) < F.len := by omega
          by_cases h2 : L < ((nm.size + ks.tot : Nat) : Int)
          · go_wp2_with fail
            refine (sz_node (ih ks hsz) k ix nm n0 L wr ka kcap (by omega) hL0 hL1 hnm hks).mono ?_
            rintro e w1 ⟨rfl, b1⟩
            rw [szV_lt (by omega)]
            go_wp2_with fail
            go_ret
            exact ⟨by rw [szV_lt (by omega)]; rfl, bel.trans (b1.mono hw)⟩
          · go_wp2_with fail
            refine (sz_node (ih ks hsz) k ix nm n0 L wr ka kcap (by omega) hL0 hL1 hnm hks).mono ?_
            rintro e w1 ⟨rfl, b1⟩
            rw [szV_ge (by omega)]
            go_wp2_with fail
            go_roundw
            case rel =>
              refine ⟨L - (nm.size + ks.tot : Nat), i + 1, r, by go_num, by go_num, by omega, by omega, by omega, by simp only [Fo.size] at hrs; omega, by omega, fun _ => ⟨b, o, rfl, hb, ?_⟩, bel.trans (b1.mono hw)⟩
              have e : o + (i + 1) * 4 = o + i * 4 + 4 := by omega
              rw [e]
              exact h7.below b1 (fun b x => by omega) (by omega)
            case measure => simp [intOf]; omega

end Go.Proofs.Ytjlefdalobgdfaa
