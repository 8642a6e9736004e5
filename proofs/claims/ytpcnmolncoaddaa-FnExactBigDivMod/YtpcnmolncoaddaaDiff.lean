import Derived.Test.YtpcnmolncoaddaaSum
namespace Go.Proofs.Ytpcnmolncoaddaa
open Go.RowKit Go.Joins

def subB (F G : Nat → Nat) : Nat → Nat
  | 0 => 0
  | k + 1 => if F k < G k + subB F G k then 1 else 0
def subD (F G : Nat → Nat) (k : Nat) : Nat := (F k + 4294967296 - G k - subB F G k) % 4294967296

theorem subB_le (F G : Nat → Nat) (k : Nat) : subB F G k ≤ 1 := by
  cases k with
  | zero => simp [subB]
  | succ k => unfold subB; split <;> omega
theorem subD_lt (F G : Nat → Nat) (k : Nat) : subD F G k < 4294967296 := by unfold subD; omega

theorem sub_digit (f g b : Nat) (hf : f < 4294967296) (hg : g < 4294967296) (hb : b ≤ 1) : IntKind.u64.wrap (IntKind.u64.wrap ((f : Int) - (g : Int)) - (b : Int)) % 4294967296 = (((f + 4294967296 - g - b) % 4294967296 : Nat) : Int) := by
  rw [IntKind.wrap_u64, IntKind.wrap_u64]; omega
theorem sub_borrow (f g b : Nat) (hf : f < 4294967296) (hg : g < 4294967296) (hb : b ≤ 1) : IntKind.u64.wrap (IntKind.u64.wrap ((f : Int) - (g : Int)) - (b : Int)) / 9223372036854775808 = ((if f < g + b then 1 else 0 : Nat) : Int) := by
  rw [IntKind.wrap_u64, IntKind.wrap_u64]; split <;> omega

set_option maxHeartbeats 2000000 in
set_option maxRecDepth 100000 in
theorem diff_any (cs cs' : Array Value) (n m : Nat) (F G : Nat → Nat) (w : World) (hc : MagC cs n F) (hc' : MagC cs' m G) (hn : n ≤ 80) (hF : ∀ i, F i < 4294967296) (hG : ∀ i, G i < 4294967296) :
    Calls Try.prog 64 #[.agg cs, .agg cs'] w fun e w' => ∃ rs, e = .returned (.agg rs) ∧ MagC rs (trimN (subD F G) n) (ext n (subD F G)) ∧ Below w.heap.size w w' := by
  go_enter Try.func64, Try.ntmps64
  go_upto_region 2 with (first
    | ((with_reducible refine wpList_alloc63 4 ?_ ?_ ?_ ?_); rfl; rfl; rfl; intro w1 hz1 hm1 hb1; simp only [World.size_alloc] at hz1 hm1 hb1)
    | ((with_reducible refine wpList_alloc63 5 ?_ ?_ ?_ ?_); rfl; rfl; rfl; intro w2 hz2 hm2 hb2; rw [hz1] at hz2 hm2 hb2))
  have ma : MagAt w2 w.heap.size n F := ((((show MagAt (w.alloc (.cells cs 63)) w.heap.size n F from ⟨cs, heap_alloc_new _ _, hc⟩).below (below_alloc1 _ _) (by simp)).below hb1 (by omega)).below hb2 (by omega))
  have mb : MagAt w2 (w.heap.size + 1) m G := ((show MagAt ((w.alloc (.cells cs 63)).alloc (.cells cs' 63)) (w.heap.size + 1) m G from ⟨cs', by rw [show w.heap.size + 1 = (w.alloc (.cells cs 63)).heap.size from by simp]; exact heap_alloc_new _ _, hc'⟩).below hb1 (by omega)).below hb2 (by omega)
  have mr : MagAt w2 (w.heap.size + 1 + 1) 0 (fun _ => 0) := hm1.below hb2 (by omega)
  have bel2 : Below w.heap.size w w2 := ((below_alloc2 w _ _).trans (hb1.mono (by omega))).trans (hb2.mono (by omega))
  have e1 := ma.count
  clear hb1 hb2 hm1 hc hc'
  go_wp2_with fail
  go_loopw [6, 11] (fun s6 s11 wr => ∃ k : Nat, k ≤ n ∧ s11 = .int .i64 k ∧ s6 = .int .u64 (subB F G k) ∧ MagAt wr w.heap.size n F ∧ MagAt wr (w.heap.size + 1) m G ∧ MagAt wr (w.heap.size + 1 + 1) 0 (fun _ => 0) ∧ MagAt wr (w.heap.size + 1 + 1 + 1) 0 (ext k (subD F G)) ∧ Below w.heap.size w wr) (fun _ s11 _ => n - (intOf s11).toNat)
  case atStart => exact ⟨0, Nat.zero_le _, rfl, rfl, ma, mb, mr, by rw [ext_zero]; exact hm2, bel2⟩
  case round =>
    obtain ⟨k, hk, rfl, rfl, ma', mb', mr', ms', bel'⟩ := hrel
    clear ma mb mr hm2 bel2 e1
    have hC := subB_le F G k
    have bF := hF k
    have bG := hG k
    clear hF hG
    by_cases hlt : k < n
    · have g1 := ma'.limb k (by omega)
      have g2 := mb'.limb k (by omega)
      have g3 := ms'.limb k (by omega)
      have g4 := ms'.frozen k
      have ec : Hid (((subB F G (k + 1) : Nat) : Int) = IntKind.u64.wrap (IntKind.u64.wrap ((F k : Int) - (G k : Int)) - (subB F G k : Int)) / 9223372036854775808) := by
        rw [sub_borrow _ _ _ bF bG hC]; rfl
      have ed : Hid (((subD F G k : Nat) : Int) = IntKind.u64.wrap (IntKind.u64.wrap ((F k : Int) - (G k : Int)) - (subB F G k : Int)) % 4294967296) := by
        rw [sub_digit _ _ _ bF bG hC]; rfl
      go_wp2_with fail
      go_quiet (fail)
      go_wp2_with fail
      go_roundw
      case rel =>
        refine ⟨k + 1, by omega, by go_num, by rw [ec.out], ma'.only (onlyd wr ⟨w.heap.size + 1 + 1 + 1, k, none⟩ _ _) (by show _ ≠ w.heap.size + 1 + 1 + 1; omega), mb'.only (onlyd wr ⟨w.heap.size + 1 + 1 + 1, k, none⟩ _ _) (by show _ ≠ w.heap.size + 1 + 1 + 1; omega), mr'.only (onlyd wr ⟨w.heap.size + 1 + 1 + 1, k, none⟩ _ _) (by show _ ≠ w.heap.size + 1 + 1 + 1; omega), ?_, (bel'.trans ((onlyd wr ⟨w.heap.size + 1 + 1 + 1, k, none⟩ _ _).below (by show _ ≤ w.heap.size + 1 + 1 + 1; omega)))⟩
        have := ms'.setLimb k (subD F G k) (by omega)
        rw [ext_upd, ed.out] at this
        exact this
      case measure => simp [intOf]; omega
    · obtain rfl : n = k := by omega
      have e1 := ma'.count
      go_wp2_with fail
      refine (setCount_at (w.heap.size + 1 + 1 + 1) n _ _ _ ms' (by omega)).mono ?_
      rintro e w5 ⟨rfl, hm5, ho5⟩
      have mr5 := mr'.only ho5 (by omega)
      have bel5 := bel'.trans (ho5.below (by omega))
      rw [trimN_ext] at hm5
      clear ho5 ma' mb' mr' ms'
      go_wp2_with (first
        | ((with_reducible refine wpList_load63 (.tmp 5) (w.heap.size + 1 + 1 + 1) _ _ hm5 ?_ ?_ ?_ ?_); rfl; rfl; rfl; intro rs hrs)
        | ((with_reducible refine wpList_store63 (.tmp 4) (.tmp 38) (w.heap.size + 1 + 1) _ 0 _ (fun _ => 0) rs hrs mr5 ?_ ?_ ?_ ?_ ?_); rfl; rfl; rfl; rfl; intro w6 hm6 ho6))
      obtain ⟨rs', r1, r2⟩ := hm6
      refine bodyPost_ret (v := .agg rs') (results63 rfl _ _ (w.heap.size + 1 + 1) _ _ rs' (by simp [Act.put]) r1 r2) rfl ⟨rs', rfl, r2, bel5.trans (ho6.below (by omega))⟩

end Go.Proofs.Ytpcnmolncoaddaa
