import Derived.Test.YtpcnmolncoaddaaLong2
namespace Go.Proofs.Ytpcnmolncoaddaa
open Go.RowKit Go.Joins

/-- A limb of limbs shifted down. -/
def dnD (f : Nat → Nat) (sh i : Nat) : Nat := (f (i + 1) * 4294967296 + f i) / 2 ^ sh % 4294967296

set_option maxHeartbeats 2000000 in
set_option maxRecDepth 100000 in
theorem down_any (bm n sh : Nat) (f : Nat → Nat) (w : World) (hm : MagAt w bm n f) (hn : n ≤ 79) (hsh : sh ≤ 31) (hf : ∀ i, f i < 4294967296) :
    Calls Try.prog 100 #[.pointer (some ⟨bm, 0, none⟩), .int .i64 sh] w fun e w' => ∃ rs, e = .returned (.agg rs) ∧ MagC rs (trimN (dnD f sh) n) (ext n (dnD f sh)) ∧ Below w.heap.size w w' := by
  have hlm := hm.lt
  go_enter Try.func100, Try.ntmps100
  go_upto_region 2 with (first
    | ((with_reducible refine wpList_alloc63 4 ?_ ?_ ?_ ?_); rfl; rfl; rfl; intro w1 hz1 hm1 hb1)
    | ((with_reducible refine wpList_alloc63 5 ?_ ?_ ?_ ?_); rfl; rfl; rfl; intro w2 hz2 hm2 hb2; rw [hz1] at hz2 hm2 hb2))
  have ma : MagAt w2 bm n f := (hm.below hb1 hlm).below hb2 (by omega)
  have mr : MagAt w2 w.heap.size 0 (fun _ => 0) := hm1.below hb2 (by omega)
  have bel2 : Below w.heap.size w w2 := hb1.trans (hb2.mono (by omega))
  have e1 := ma.count
  have HF : Hid (∀ i, f i < 4294967296) := hf
  clear hb1 hb2 hm1 hm hf
  go_wp2_with fail
  go_loopw [12] (fun s12 wr => ∃ k : Nat, k ≤ n ∧ s12 = .int .i64 k ∧ MagAt wr bm n f ∧ MagAt wr w.heap.size 0 (fun _ => 0) ∧ MagAt wr (w.heap.size + 1) 0 (ext k (dnD f sh)) ∧ Below w.heap.size w wr) (fun s12 _ => n - (intOf s12).toNat)
  case atStart => exact ⟨0, Nat.zero_le _, rfl, ma, mr, by rw [ext_zero]; exact hm2, bel2⟩
  case round =>
    obtain ⟨k, hk, rfl, ma', mr', ms', bel'⟩ := hrel
    clear ma mr hm2 bel2 e1
    by_cases hlt : k < n
    · have g1 := ma'.limb k (by omega)
      have g2 := ma'.limb (k + 1) (by omega)
      have g3 := ms'.limb k (by omega)
      have g4 := ms'.frozen k
      have bf := HF.out k
      have bf2 := HF.out (k + 1)
      have EO : Hid _ := or_hi (f k) (f (k + 1)) bf bf2
      go_wp2_with fail
      go_quiet (fail)
      go_wp2_with fail
      go_roundw
      case rel =>
        have ed : ((f (k + 1) * 4294967296 + f k : Nat) : Int) / 2 ^ sh % 4294967296 = ((dnD f sh k : Nat) : Int) := by simp only [dnD, Int.natCast_emod, Int.natCast_ediv, Int.natCast_pow]; rfl
        rw [EO.out, ed]
        refine ⟨k + 1, by omega, by go_num, ma'.only (onlyd wr ⟨w.heap.size + 1, k, none⟩ _ _) (by show _ ≠ w.heap.size + 1; omega), mr'.only (onlyd wr ⟨w.heap.size + 1, k, none⟩ _ _) (by show _ ≠ w.heap.size + 1; omega), ?_, bel'.trans ((onlyd wr ⟨w.heap.size + 1, k, none⟩ _ _).below (by show _ ≤ w.heap.size + 1; omega))⟩
        have := ms'.setLimb k (dnD f sh k) (by omega)
        rw [ext_upd] at this
        exact this
      case measure => simp [intOf]; omega
    · obtain rfl : n = k := by omega
      have e1 := ma'.count
      go_wp2_with fail
      refine (setCount_at (w.heap.size + 1) n _ _ _ ms' (by omega)).mono ?_
      rintro e w5 ⟨rfl, hm5, ho5⟩
      have mr5 := mr'.only ho5 (by omega)
      have bel5 := bel'.trans (ho5.below (by omega))
      rw [trimN_ext] at hm5
      clear ho5 ma' mr' ms'
      go_wp2_with (first
        | ((with_reducible refine wpList_load63 (.tmp 5) (w.heap.size + 1) _ _ hm5 ?_ ?_ ?_ ?_); rfl; rfl; rfl; intro rs hrs)
        | ((with_reducible refine wpList_store63 (.tmp 4) (.tmp 45) w.heap.size _ 0 _ (fun _ => 0) rs hrs mr5 ?_ ?_ ?_ ?_ ?_); rfl; rfl; rfl; rfl; intro w6 hm6 ho6))
      obtain ⟨rs', r1, r2⟩ := hm6
      refine bodyPost_ret (v := .agg rs') (results63 rfl _ _ w.heap.size _ _ rs' (by simp [Act.put]) r1 r2) rfl ⟨rs', rfl, r2, bel5.trans (ho6.below (by omega))⟩

end Go.Proofs.Ytpcnmolncoaddaa
