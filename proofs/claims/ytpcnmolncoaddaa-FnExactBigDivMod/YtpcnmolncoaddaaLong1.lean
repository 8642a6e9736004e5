import Derived.Test.YtpcnmolncoaddaaKnuth
namespace Go.Proofs.Ytpcnmolncoaddaa
open Go.RowKit Go.Joins

set_option maxHeartbeats 2000000 in
set_option maxRecDepth 100000 in
theorem take_any (bm bd nm n a q : Nat) (F G : Nat → Nat) (w : World) (hm : MagAt w bm nm F) (hd : MagAt w bd n G) (hne : bd ≠ bm) (hn : a + n ≤ 79) (hq : q < 4294967296) (hF : ∀ i, F i < 4294967296) (hG : ∀ i, G i < 4294967296) :
    Calls Try.prog 98 #[.pointer (some ⟨bm, 0, none⟩), .pointer (some ⟨bd, 0, none⟩), .int .i64 a, .int .u32 q] w fun e w' => e = .returned (.bool (((subB (fromAt F a) (scD G q 0) (n + 1) : Nat) : Int) != 0)) ∧ MagAt w' bm nm (put F (subD (fromAt F a) (scD G q 0)) a (n + 1)) ∧ Only bm w w' := by
  have c80 := hd.count
  have HF : Hid (∀ i, F i < 4294967296) := hF
  have HG : Hid (∀ i, G i < 4294967296) := hG
  have hlm := hm.lt
  have hld := hd.lt
  clear hF hG
  go_enter Try.func98, Try.ntmps98
  go_wp2_with fail
  go_loopw [9, 10, 18] (fun s9 s10 s18 wr => ∃ k : Nat, k ≤ n + 1 ∧ s18 = .int .i64 k ∧ s9 = .int .u64 (scC G q 0 k) ∧ s10 = .int .u64 (subB (fromAt F a) (scD G q 0) k) ∧ MagAt wr bm nm (put F (subD (fromAt F a) (scD G q 0)) a k) ∧ Only bm w wr) (fun _ _ s18 _ => n + 1 - (intOf s18).toNat)
  case atStart => exact ⟨0, Nat.zero_le _, rfl, rfl, rfl, by rw [put_zero]; exact hm, Only.refl _ _⟩
  case round =>
    obtain ⟨k, hk, rfl, rfl, rfl, hm', ho'⟩ := hrel
    have hd' := hd.only ho' hne
    clear hm hd c80
    have bC := scC_lt HG.out hq (by omega : (0 : Nat) < 4294967296) k
    have bB := subB_le (fromAt F a) (scD G q 0) k
    by_cases hlt : k < n + 1
    · have g1 := hm'.limb (a + k) (by omega)
      rw [put_at] at g1
      have g2 := hd'.limb k (by omega)
      have g4 := hm'.frozen (a + k)
      have bF := HF.out (a + k)
      have bG := HG.out k
      have bM := mul_bound hq bG
      have bP := scD_lt G q 0 k
      have ep : Hid (scD G q 0 k = (scC G q 0 k + q * G k) % 4294967296) := by show (scC G q 0 k + G k * q) % 4294967296 = _; rw [Nat.mul_comm]
      have eq1 : Hid (scC G q 0 (k + 1) = (scC G q 0 k + q * G k) / 4294967296) := by show (scC G q 0 k + G k * q) / 4294967296 = _; rw [Nat.mul_comm]
      go_wp2_with fail
      go_roundw
      case rel =>
        have epI : ((scC G q 0 k : Int) + (q : Int) * (G k : Int)) % 4294967296 = ((scD G q 0 k : Nat) : Int) := by rw [ep.out]; go_num
        rw [epI]
        refine ⟨k + 1, by omega, by go_num, by rw [eq1.out]; go_num, by rw [sub_borrow _ _ _ bF bP bB]; rfl, ?_, ho'.trans (Only.setCell wr ⟨bm, a + k, none⟩ _)⟩
        have := hm'.setLimb (a + k) (subD (fromAt F a) (scD G q 0) k) (by omega)
        rw [put_upd] at this
        rw [sub_digit _ _ _ bF bP bB]
        exact this
      case measure => simp [intOf]; omega
    · obtain rfl : k = n + 1 := by omega
      go_wp2_with fail
      go_ret
      exact ⟨rfl, hm', ho'⟩

set_option maxHeartbeats 2000000 in
set_option maxRecDepth 100000 in
theorem give_any (bm bd nm n a : Nat) (F G : Nat → Nat) (w : World) (hm : MagAt w bm nm F) (hd : MagAt w bd n G) (hne : bd ≠ bm) (hn : a + n ≤ 79) (hF : ∀ i, F i < 4294967296) (hG : ∀ i, G i < 4294967296) :
    Calls Try.prog 99 #[.pointer (some ⟨bm, 0, none⟩), .pointer (some ⟨bd, 0, none⟩), .int .i64 a] w fun e w' => e = .returned (.tuple #[]) ∧ MagAt w' bm nm (put F (addD (fromAt F a) G) a (n + 1)) ∧ Only bm w w' := by
  have c80 := hd.count
  have HF : Hid (∀ i, F i < 4294967296) := hF
  have HG : Hid (∀ i, G i < 4294967296) := hG
  have HC : Hid (∀ k, addC (fromAt F a) G k ≤ 1) := fun k => addC_le (fun i => hF (a + i)) hG k
  have hlm := hm.lt
  have hld := hd.lt
  clear hF hG
  go_enter Try.func99, Try.ntmps99
  go_wp2_with fail
  go_loopw [6, 13] (fun s6 s13 wr => ∃ k : Nat, k ≤ n + 1 ∧ s13 = .int .i64 k ∧ s6 = .int .u64 (addC (fromAt F a) G k) ∧ MagAt wr bm nm (put F (addD (fromAt F a) G) a k) ∧ Only bm w wr) (fun _ s13 _ => n + 1 - (intOf s13).toNat)
  case atStart => exact ⟨0, Nat.zero_le _, rfl, rfl, by rw [put_zero]; exact hm, Only.refl _ _⟩
  case round =>
    obtain ⟨k, hk, rfl, rfl, hm', ho'⟩ := hrel
    have hd' := hd.only ho' hne
    clear hm hd c80
    have bC := HC.out k
    by_cases hlt : k < n + 1
    · have g1 := hm'.limb (a + k) (by omega)
      rw [put_at] at g1
      have g2 := hd'.limb k (by omega)
      have g4 := hm'.frozen (a + k)
      have bF := HF.out (a + k)
      have bG := HG.out k
      have ec : Hid (addC (fromAt F a) G (k + 1) = (addC (fromAt F a) G k + (F (a + k) + G k)) / 4294967296) := rfl
      have ed : Hid (addD (fromAt F a) G k = (addC (fromAt F a) G k + (F (a + k) + G k)) % 4294967296) := rfl
      go_wp2_with fail
      go_quiet (fail)
      go_wp2_with fail
      go_roundw
      case rel =>
        refine ⟨k + 1, by omega, by go_num, by rw [ec.out]; go_num, ?_, ho'.trans (onlyd wr ⟨bm, a + k, none⟩ _ _)⟩
        have := hm'.setLimb (a + k) (addD (fromAt F a) G k) (by omega)
        rw [put_upd, ed.out] at this
        exact this
      case measure => simp [intOf]; omega
    · obtain rfl : k = n + 1 := by omega
      go_wp2_with fail
      go_end0
      exact ⟨rfl, hm', ho'⟩

end Go.Proofs.Ytpcnmolncoaddaa
