import Derived.Test.YtpcnmolncoaddaaLong1
namespace Go.Proofs.Ytpcnmolncoaddaa
open Go.RowKit Go.Joins

theorem upC_lt {f : Nat → Nat} (hf : ∀ i, f i < 4294967296) (sh k : Nat) : scC f (2 ^ sh) 0 k < 2 ^ sh := by
  have hp : 0 < 2 ^ sh := Nat.pos_of_ne_zero (by simp)
  induction k with
  | zero => exact hp
  | succ k ih =>
    unfold scC
    have h1 : f k * 2 ^ sh ≤ 4294967295 * 2 ^ sh := Nat.mul_le_mul_right _ (by have := hf k; omega)
    generalize 2 ^ sh = D at *
    generalize f k * D = X at *
    omega
theorem or_shl (c x sh : Nat) (hc : c < 2 ^ sh) (hx : x < 4294967296) (hsh : sh ≤ 31) : bits .or .u64 (c : Int) (IntKind.u64.wrap ((x : Int) * 2 ^ sh)) = ((c + x * 2 ^ sh : Nat) : Int) := by
  have hp : 2 ^ sh ≤ 2 ^ 31 := Nat.pow_le_pow_right (by decide) hsh
  have hb : x * 2 ^ sh ≤ 4294967295 * 2147483648 := Nat.mul_le_mul (by omega) hp
  have e : (x : Int) * 2 ^ sh = ((x * 2 ^ sh : Nat) : Int) := by simp
  rw [e, IntKind.wrap_u64]
  have e2 : ((x * 2 ^ sh : Nat) : Int) % 18446744073709551616 = ((x * 2 ^ sh : Nat) : Int) := by
    generalize x * 2 ^ sh = X at *
    omega
  rw [e2, u64_or_nat _ _ (by omega) (by generalize x * 2 ^ sh = X at *; omega), Nat.or_comm]
  have := Nat.two_pow_add_eq_or_of_lt (i := sh) (b := c) hc x
  rw [Nat.mul_comm] at this
  rw [← this, Nat.add_comm]

set_option maxHeartbeats 2000000 in
set_option maxRecDepth 100000 in
theorem up_any (bm n sh : Nat) (f : Nat → Nat) (w : World) (hm : MagAt w bm n f) (hn : n ≤ 79) (hsh : sh ≤ 31) (hf : ∀ i, f i < 4294967296) (h0 : f n = 0) :
    Calls Try.prog 96 #[.pointer (some ⟨bm, 0, none⟩), .int .i64 sh] w fun e w' => ∃ rs, e = .returned (.agg rs) ∧ MagC rs (trimN (scD f (2 ^ sh) 0) (n + 1)) (ext (n + 1) (scD f (2 ^ sh) 0)) ∧ Below w.heap.size w w' := by
  have hlm := hm.lt
  go_enter Try.func96, Try.ntmps96
  go_upto_region 3 with (first
    | ((with_reducible refine wpList_alloc63 4 ?_ ?_ ?_ ?_); rfl; rfl; rfl; intro w1 hz1 hm1 hb1)
    | ((with_reducible refine wpList_alloc63 5 ?_ ?_ ?_ ?_); rfl; rfl; rfl; intro w2 hz2 hm2 hb2; rw [hz1] at hz2 hm2 hb2))
  have ma : MagAt w2 bm n f := (hm.below hb1 hlm).below hb2 (by omega)
  have mr : MagAt w2 w.heap.size 0 (fun _ => 0) := hm1.below hb2 (by omega)
  have bel2 : Below w.heap.size w w2 := hb1.trans (hb2.mono (by omega))
  have e1 := ma.count
  have HF : Hid (∀ i, f i < 4294967296) := hf
  clear hb1 hb2 hm1 hm hf
  go_wp2_with fail
  go_loopw [6, 12] (fun s6 s12 wr => ∃ k : Nat, k ≤ n ∧ s12 = .int .i64 k ∧ s6 = .int .u64 (scC f (2 ^ sh) 0 k) ∧ MagAt wr bm n f ∧ MagAt wr w.heap.size 0 (fun _ => 0) ∧ MagAt wr (w.heap.size + 1) 0 (ext k (scD f (2 ^ sh) 0)) ∧ Below w.heap.size w wr) (fun _ s12 _ => n - (intOf s12).toNat)
  case atStart => exact ⟨0, Nat.zero_le _, rfl, rfl, ma, mr, by rw [ext_zero]; exact hm2, bel2⟩
  case round =>
    obtain ⟨k, hk, rfl, rfl, ma', mr', ms', bel'⟩ := hrel
    clear ma mr hm2 bel2 e1
    by_cases hlt : k < n
    · have g1 := ma'.limb k (by omega)
      have g3 := ms'.limb k (by omega)
      have g4 := ms'.frozen k
      have bf := HF.out k
      have bC := upC_lt HF.out sh k
      have eo := or_shl (scC f (2 ^ sh) 0 k) (f k) sh bC bf hsh
      have ec : Hid (scC f (2 ^ sh) 0 (k + 1) = (scC f (2 ^ sh) 0 k + f k * 2 ^ sh) / 4294967296) := rfl
      have ed : Hid (scD f (2 ^ sh) 0 k = (scC f (2 ^ sh) 0 k + f k * 2 ^ sh) % 4294967296) := rfl
      have EO := show Hid _ from eo
      clear eo bC
      go_wp2_with fail
      go_roundw
      case rel =>
        rw [EO.out]
        refine ⟨k + 1, by omega, by go_num, by rw [ec.out]; rfl, ma'.only (Only.setCell wr ⟨w.heap.size + 1, k, none⟩ _) (by show _ ≠ w.heap.size + 1; omega), mr'.only (Only.setCell wr ⟨w.heap.size + 1, k, none⟩ _) (by show _ ≠ w.heap.size + 1; omega), ?_, bel'.trans ((Only.setCell wr ⟨w.heap.size + 1, k, none⟩ _).below (by show _ ≤ w.heap.size + 1; omega))⟩
        have := ms'.setLimb k (scD f (2 ^ sh) 0 k) (by omega)
        rw [ext_upd, ed.out] at this
        exact this
      case measure => simp [intOf]; omega
    · obtain rfl : n = k := by omega
      have e1 := ma'.count
      have g3 := ms'.limb n (by omega)
      have g4 := ms'.frozen n
      have bC := upC_lt HF.out sh n
      have bC2 : scC f (2 ^ sh) 0 n < 4294967296 := Nat.lt_of_lt_of_le bC (Nat.le_trans (Nat.pow_le_pow_right (by decide) hsh) (by decide))
      have edn : scD f (2 ^ sh) 0 n = scC f (2 ^ sh) 0 n := by unfold scD; rw [h0, Nat.zero_mul, Nat.add_zero, Nat.mod_eq_of_lt bC2]
      have hms := ms'.setLimb n (scD f (2 ^ sh) 0 n) (by omega)
      rw [ext_upd, edn] at hms
      have hox : Only (w.heap.size + 1) wr (wr.setCell ⟨w.heap.size + 1, n, none⟩ (.int .u32 (scC f (2 ^ sh) 0 n : Nat))) := Only.setCell wr ⟨w.heap.size + 1, n, none⟩ _
      have ma2 := ma'.only hox (by omega)
      have mr2 := mr'.only hox (by omega)
      have bel3 := bel'.trans (hox.below (by omega))
      have e2 := ma2.count
      clear edn bC hox ms' ma' mr' bel'
      go_wp2_with fail
      refine (setCount_at (w.heap.size + 1) (n + 1) _ _ _ hms (by omega)).mono ?_
      rintro e w5 ⟨rfl, hm5, ho5⟩
      have mr5 := mr2.only ho5 (by omega)
      have bel5 := bel3.trans (ho5.below (by omega))
      rw [trimN_ext] at hm5
      clear ho5 ma2 mr2 hms
      go_wp2_with (first
        | ((with_reducible refine wpList_load63 (.tmp 5) (w.heap.size + 1) _ _ hm5 ?_ ?_ ?_ ?_); rfl; rfl; rfl; intro rs hrs)
        | ((with_reducible refine wpList_store63 (.tmp 4) (.tmp 48) w.heap.size _ 0 _ (fun _ => 0) rs hrs mr5 ?_ ?_ ?_ ?_ ?_); rfl; rfl; rfl; rfl; intro w6 hm6 ho6))
      obtain ⟨rs', r1, r2⟩ := hm6
      refine bodyPost_ret (v := .agg rs') (results63 rfl _ _ w.heap.size _ _ rs' (by simp [Act.put]) r1 r2) rfl ⟨rs', rfl, r2, bel5.trans (ho6.below (by omega))⟩

end Go.Proofs.Ytpcnmolncoaddaa
