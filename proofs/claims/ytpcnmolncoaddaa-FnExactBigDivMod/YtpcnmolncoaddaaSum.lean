import Derived.Test.YtpcnmolncoaddaaOf2
import Derived.Deep.DeepCutAuto
namespace Go.Proofs.Ytpcnmolncoaddaa
open Go.RowKit Go.Joins

def addC (F G : Nat → Nat) : Nat → Nat
  | 0 => 0
  | k + 1 => (addC F G k + (F k + G k)) / 4294967296
def addD (F G : Nat → Nat) (k : Nat) : Nat := (addC F G k + (F k + G k)) % 4294967296

theorem addC_le {F G : Nat → Nat} (hF : ∀ i, F i < 4294967296) (hG : ∀ i, G i < 4294967296) (k : Nat) : addC F G k ≤ 1 := by
  induction k with
  | zero => simp [addC]
  | succ k ih => unfold addC; have := hF k; have := hG k; omega
theorem addD_lt (F G : Nat → Nat) (k : Nat) : addD F G k < 4294967296 := by unfold addD; omega

theorem addD_zero {F G : Nat → Nat} {N : Nat} (hF : ∀ i, N ≤ i → F i = 0) (hG : ∀ i, N ≤ i → G i = 0) (hC : addC F G N ≤ 1) (i : Nat) (hi : N < i) : addD F G i = 0 := by
  have hc : ∀ j, addC F G (N + 1 + j) = 0 := by
    intro j
    induction j with
    | zero => show addC F G (N + 1) = 0; unfold addC; rw [hF N (by omega), hG N (by omega)]; omega
    | succ j ih => show addC F G (N + 1 + j + 1) = 0; unfold addC; rw [ih, hF _ (by omega), hG _ (by omega)]
  obtain ⟨j, rfl⟩ : ∃ j, i = N + 1 + j := ⟨i - (N + 1), by omega⟩
  unfold addD
  rw [hc, hF _ (by omega), hG _ (by omega)]
theorem trimN_ext (f : Nat → Nat) (n : Nat) : trimN (ext n f) n = trimN f n := by
  have : ∀ k, k ≤ n → trimN (ext n f) k = trimN f k := by
    intro k
    induction k with
    | zero => intro _; rfl
    | succ k ih =>
      intro hk
      unfold trimN
      rw [show ext n f k = f k from by simp [ext]; omega, ih (by omega)]
  exact this n (Nat.le_refl _)

theorem ext_zero (f : Nat → Nat) : ext 0 f = fun _ => 0 := by funext i; simp [ext]
theorem ext_upd (k : Nat) (f : Nat → Nat) : upd (ext k f) k (f k) = ext (k + 1) f := by
  funext i
  unfold upd ext
  by_cases h : i = k
  · subst h; simp
  · by_cases h2 : i < k
    · rw [if_neg h, if_pos h2, if_pos (by omega)]
    · rw [if_neg h, if_neg h2, if_neg (by omega)]

theorem onlyd (w : World) (p : Addr) (u : Value) (q : Nat) : Only p.block w ((w.drewN q).setCell p u) := have h := Only.setCell (w.drewN q) p u
  ⟨h.os, h.tape, h.output, h.size, h.block⟩

set_option maxHeartbeats 2000000 in
set_option maxRecDepth 100000 in
theorem sum_lt (cs cs' : Array Value) (n m : Nat) (F G : Nat → Nat) (w : World) (hc : MagC cs n F) (hc' : MagC cs' m G) (hm : m ≤ 40) (hF : ∀ i, F i < 4294967296) (hG : ∀ i, G i < 4294967296) (hF0 : ∀ i, n ≤ i → F i = 0) (hG0 : ∀ i, m ≤ i → G i = 0) (hnm : n < m) :
    Calls Try.prog 88 #[.agg cs, .agg cs'] w fun e w' => ∃ rs, e = .returned (.agg rs) ∧ MagC rs (trimN (addD F G) (m + 1)) (addD F G) ∧ Below w.heap.size w w' := by
  have c80 : cs[80]? = some (.int .i64 n) := hc.count
  have c80' : cs'[80]? = some (.int .i64 m) := hc'.count
  have HF0 : Hid (∀ i, n ≤ i → F i = 0) := hF0
  have HG0 : Hid (∀ i, m ≤ i → G i = 0) := hG0
  clear hF0 hG0
  go_enter Try.func88, Try.ntmps88
  go_upto_region 2 with (first
    | ((with_reducible refine wpList_alloc63 4 ?_ ?_ ?_ ?_); rfl; rfl; rfl; intro w1 hz1 hm1 hb1; simp only [World.size_alloc] at hz1 hm1 hb1)
    | ((with_reducible refine wpList_alloc63 5 ?_ ?_ ?_ ?_); rfl; rfl; rfl; intro w2 hz2 hm2 hb2; rw [hz1] at hz2 hm2 hb2))
  have ma : MagAt w2 w.heap.size n F := ((((show MagAt (w.alloc (.cells cs 63)) w.heap.size n F from ⟨cs, heap_alloc_new _ _, hc⟩).below (below_alloc1 _ _) (by simp)).below hb1 (by omega)).below hb2 (by omega))
  have mb : MagAt w2 (w.heap.size + 1) m G := ((show MagAt ((w.alloc (.cells cs 63)).alloc (.cells cs' 63)) (w.heap.size + 1) m G from ⟨cs', by rw [show w.heap.size + 1 = (w.alloc (.cells cs 63)).heap.size from by simp]; exact heap_alloc_new _ _, hc'⟩).below hb1 (by omega)).below hb2 (by omega)
  have mr : MagAt w2 (w.heap.size + 1 + 1) 0 (fun _ => 0) := hm1.below hb2 (by omega)
  have bel2 : Below w.heap.size w w2 := ((below_alloc2 w _ _).trans (hb1.mono (by omega))).trans (hb2.mono (by omega))
  have e1 := ma.count
  have e2 := mb.count
  clear hb1 hb2 hm1 c80 c80' hc hc'
  go_wp2_with fail
  go_loopw [7, 15] (fun s7 s15 wr => ∃ k : Nat, k ≤ m ∧ s15 = .int .i64 k ∧ s7 = .int .u64 (addC F G k) ∧ MagAt wr w.heap.size n F ∧ MagAt wr (w.heap.size + 1) m G ∧ MagAt wr (w.heap.size + 1 + 1) 0 (fun _ => 0) ∧ MagAt wr (w.heap.size + 1 + 1 + 1) 0 (ext k (addD F G)) ∧ Below w.heap.size w wr) (fun _ s15 _ => m - (intOf s15).toNat)
  case atStart => exact ⟨0, Nat.zero_le _, rfl, rfl, ma, mb, mr, by rw [ext_zero]; exact hm2, bel2⟩
  case round =>
    obtain ⟨k, hk, rfl, rfl, ma', mb', mr', ms', bel'⟩ := hrel
    clear ma mb mr hm2 bel2 e1 e2
    have hC := addC_le hF hG k
    have bF := hF k
    have bG := hG k
    clear hF hG
    by_cases hlt : k < m
    · have g1 := ma'.limb k (by omega)
      have g2 := mb'.limb k (by omega)
      have g3 := ms'.limb k (by omega)
      have g4 := ms'.frozen k
      have ec : Hid (addC F G (k + 1) = (addC F G k + (F k + G k)) / 4294967296) := rfl
      have ed : Hid (addD F G k = (addC F G k + (F k + G k)) % 4294967296) := rfl
      go_wp2_with fail
      go_quiet (fail)
      go_wp2_with fail
      go_roundw
      case rel =>
        refine ⟨k + 1, by omega, by go_num, by rw [ec.out]; go_num, ma'.only (onlyd wr ⟨w.heap.size + 1 + 1 + 1, k, none⟩ _ _) (by show _ ≠ w.heap.size + 1 + 1 + 1; omega), mb'.only (onlyd wr ⟨w.heap.size + 1 + 1 + 1, k, none⟩ _ _) (by show _ ≠ w.heap.size + 1 + 1 + 1; omega), mr'.only (onlyd wr ⟨w.heap.size + 1 + 1 + 1, k, none⟩ _ _) (by show _ ≠ w.heap.size + 1 + 1 + 1; omega), ?_, (bel'.trans ((onlyd wr ⟨w.heap.size + 1 + 1 + 1, k, none⟩ _ _).below (by show _ ≤ w.heap.size + 1 + 1 + 1; omega)))⟩
        have := ms'.setLimb k (addD F G k) (by omega)
        rw [ext_upd, ed.out] at this
        exact this
      case measure => simp [intOf]; omega
    · obtain rfl : m = k := by omega
      have g3 := ms'.limb m (by omega)
      have g4 := ms'.frozen m
      have ed : Hid (addD F G m = addC F G m) := by
        unfold Hid addD
        rw [HF0.out m (by omega), HG0.out m (by omega)]; omega
      have hmx := (ms'.setLimb m (addD F G m) (by omega))
      rw [ext_upd, ed.out] at hmx
      have hox : Only (w.heap.size + 1 + 1 + 1) wr (wr.setCell ⟨w.heap.size + 1 + 1 + 1, m, none⟩ (.int .u32 (addC F G m : Nat))) := Only.setCell wr ⟨w.heap.size + 1 + 1 + 1, m, none⟩ _
      go_wp2_with fail
      refine (setCount_at (w.heap.size + 1 + 1 + 1) (m + 1) _ _ _ hmx (by omega)).mono ?_
      rintro e w5 ⟨rfl, hm5, ho5'⟩
      have ho5 := hox.trans ho5'
      have mr5 := mr'.only ho5 (by omega)
      have bel5 := bel'.trans (ho5.below (by omega))
      rw [trimN_ext] at hm5
      clear g3 g4 hmx hox ho5 ho5' ma' mb' mr' ms'
      have HX : Hid (ext (m + 1) (addD F G) = addD F G) := by
        funext i
        unfold ext
        split
        · rfl
        · exact (addD_zero (fun i hi => HF0.out i (by omega)) (fun i hi => HG0.out i (by omega)) hC i (by omega)).symm
      rw [HX.out] at hm5
      go_wp2_with (first
        | ((with_reducible refine wpList_load63 (.tmp 5) (w.heap.size + 1 + 1 + 1) _ _ hm5 ?_ ?_ ?_ ?_); rfl; rfl; rfl; intro rs hrs)
        | ((with_reducible refine wpList_store63 (.tmp 4) (.tmp 47) (w.heap.size + 1 + 1) _ 0 _ (fun _ => 0) rs hrs mr5 ?_ ?_ ?_ ?_ ?_); rfl; rfl; rfl; rfl; intro w6 hm6 ho6))
      obtain ⟨rs', r1, r2⟩ := hm6
      refine bodyPost_ret (v := .agg rs') (results63 rfl _ _ (w.heap.size + 1 + 1) _ _ rs' (by simp [Act.put]) r1 r2) rfl ⟨rs', rfl, r2, bel5.trans (ho6.below (by omega))⟩

set_option maxHeartbeats 2000000 in
set_option maxRecDepth 100000 in
theorem sum_ge (cs cs' : Array Value) (n m : Nat) (F G : Nat → Nat) (w : World) (hc : MagC cs n F) (hc' : MagC cs' m G) (hn : n ≤ 40) (hF : ∀ i, F i < 4294967296) (hG : ∀ i, G i < 4294967296) (hF0 : ∀ i, n ≤ i → F i = 0) (hG0 : ∀ i, m ≤ i → G i = 0) (hnm : m ≤ n) :
    Calls Try.prog 88 #[.agg cs, .agg cs'] w fun e w' => ∃ rs, e = .returned (.agg rs) ∧ MagC rs (trimN (addD F G) (n + 1)) (addD F G) ∧ Below w.heap.size w w' := by
  have c80 : cs[80]? = some (.int .i64 n) := hc.count
  have c80' : cs'[80]? = some (.int .i64 m) := hc'.count
  have HF0 : Hid (∀ i, n ≤ i → F i = 0) := hF0
  have HG0 : Hid (∀ i, m ≤ i → G i = 0) := hG0
  clear hF0 hG0
  go_enter Try.func88, Try.ntmps88
  go_upto_region 2 with (first
    | ((with_reducible refine wpList_alloc63 4 ?_ ?_ ?_ ?_); rfl; rfl; rfl; intro w1 hz1 hm1 hb1; simp only [World.size_alloc] at hz1 hm1 hb1)
    | ((with_reducible refine wpList_alloc63 5 ?_ ?_ ?_ ?_); rfl; rfl; rfl; intro w2 hz2 hm2 hb2; rw [hz1] at hz2 hm2 hb2))
  have ma : MagAt w2 w.heap.size n F := ((((show MagAt (w.alloc (.cells cs 63)) w.heap.size n F from ⟨cs, heap_alloc_new _ _, hc⟩).below (below_alloc1 _ _) (by simp)).below hb1 (by omega)).below hb2 (by omega))
  have mb : MagAt w2 (w.heap.size + 1) m G := ((show MagAt ((w.alloc (.cells cs 63)).alloc (.cells cs' 63)) (w.heap.size + 1) m G from ⟨cs', by rw [show w.heap.size + 1 = (w.alloc (.cells cs 63)).heap.size from by simp]; exact heap_alloc_new _ _, hc'⟩).below hb1 (by omega)).below hb2 (by omega)
  have mr : MagAt w2 (w.heap.size + 1 + 1) 0 (fun _ => 0) := hm1.below hb2 (by omega)
  have bel2 : Below w.heap.size w w2 := ((below_alloc2 w _ _).trans (hb1.mono (by omega))).trans (hb2.mono (by omega))
  have e1 := ma.count
  have e2 := mb.count
  clear hb1 hb2 hm1 c80 c80' hc hc'
  go_wp2_with fail
  go_loopw [7, 15] (fun s7 s15 wr => ∃ k : Nat, k ≤ n ∧ s15 = .int .i64 k ∧ s7 = .int .u64 (addC F G k) ∧ MagAt wr w.heap.size n F ∧ MagAt wr (w.heap.size + 1) m G ∧ MagAt wr (w.heap.size + 1 + 1) 0 (fun _ => 0) ∧ MagAt wr (w.heap.size + 1 + 1 + 1) 0 (ext k (addD F G)) ∧ Below w.heap.size w wr) (fun _ s15 _ => n - (intOf s15).toNat)
  case atStart => exact ⟨0, Nat.zero_le _, rfl, rfl, ma, mb, mr, by rw [ext_zero]; exact hm2, bel2⟩
  case round =>
    obtain ⟨k, hk, rfl, rfl, ma', mb', mr', ms', bel'⟩ := hrel
    clear ma mb mr hm2 bel2 e1 e2
    have hC := addC_le hF hG k
    have bF := hF k
    have bG := hG k
    clear hF hG
    by_cases hlt : k < n
    · have g1 := ma'.limb k (by omega)
      have g2 := mb'.limb k (by omega)
      have g3 := ms'.limb k (by omega)
      have g4 := ms'.frozen k
      have ec : Hid (addC F G (k + 1) = (addC F G k + (F k + G k)) / 4294967296) := rfl
      have ed : Hid (addD F G k = (addC F G k + (F k + G k)) % 4294967296) := rfl
      go_wp2_with fail
      go_quiet (fail)
      go_wp2_with fail
      go_roundw
      case rel =>
        refine ⟨k + 1, by omega, by go_num, by rw [ec.out]; go_num, ma'.only (onlyd wr ⟨w.heap.size + 1 + 1 + 1, k, none⟩ _ _) (by show _ ≠ w.heap.size + 1 + 1 + 1; omega), mb'.only (onlyd wr ⟨w.heap.size + 1 + 1 + 1, k, none⟩ _ _) (by show _ ≠ w.heap.size + 1 + 1 + 1; omega), mr'.only (onlyd wr ⟨w.heap.size + 1 + 1 + 1, k, none⟩ _ _) (by show _ ≠ w.heap.size + 1 + 1 + 1; omega), ?_, (bel'.trans ((onlyd wr ⟨w.heap.size + 1 + 1 + 1, k, none⟩ _ _).below (by show _ ≤ w.heap.size + 1 + 1 + 1; omega)))⟩
        have := ms'.setLimb k (addD F G k) (by omega)
        rw [ext_upd, ed.out] at this
        exact this
      case measure => simp [intOf]; omega
    · obtain rfl : n = k := by omega
      have g3 := ms'.limb n (by omega)
      have g4 := ms'.frozen n
      have ed : Hid (addD F G n = addC F G n) := by
        unfold Hid addD
        rw [HF0.out n (by omega), HG0.out n (by omega)]; omega
      have hmx := (ms'.setLimb n (addD F G n) (by omega))
      rw [ext_upd, ed.out] at hmx
      have hox : Only (w.heap.size + 1 + 1 + 1) wr (wr.setCell ⟨w.heap.size + 1 + 1 + 1, n, none⟩ (.int .u32 (addC F G n : Nat))) := Only.setCell wr ⟨w.heap.size + 1 + 1 + 1, n, none⟩ _
      go_wp2_with fail
      refine (setCount_at (w.heap.size + 1 + 1 + 1) (n + 1) _ _ _ hmx (by omega)).mono ?_
      rintro e w5 ⟨rfl, hm5, ho5'⟩
      have ho5 := hox.trans ho5'
      have mr5 := mr'.only ho5 (by omega)
      have bel5 := bel'.trans (ho5.below (by omega))
      rw [trimN_ext] at hm5
      clear g3 g4 hmx hox ho5 ho5' ma' mb' mr' ms'
      have HX : Hid (ext (n + 1) (addD F G) = addD F G) := by
        funext i
        unfold ext
        split
        · rfl
        · exact (addD_zero (fun i hi => HF0.out i (by omega)) (fun i hi => HG0.out i (by omega)) hC i (by omega)).symm
      rw [HX.out] at hm5
      go_wp2_with (first
        | ((with_reducible refine wpList_load63 (.tmp 5) (w.heap.size + 1 + 1 + 1) _ _ hm5 ?_ ?_ ?_ ?_); rfl; rfl; rfl; intro rs hrs)
        | ((with_reducible refine wpList_store63 (.tmp 4) (.tmp 47) (w.heap.size + 1 + 1) _ 0 _ (fun _ => 0) rs hrs mr5 ?_ ?_ ?_ ?_ ?_); rfl; rfl; rfl; rfl; intro w6 hm6 ho6))
      obtain ⟨rs', r1, r2⟩ := hm6
      refine bodyPost_ret (v := .agg rs') (results63 rfl _ _ (w.heap.size + 1 + 1) _ _ rs' (by simp [Act.put]) r1 r2) rfl ⟨rs', rfl, r2, bel5.trans (ho6.below (by omega))⟩

theorem sum_any (cs cs' : Array Value) (n m : Nat) (F G : Nat → Nat) (w : World) (hc : MagC cs n F) (hc' : MagC cs' m G) (hn : n ≤ 40) (hm : m ≤ 40) (hF : ∀ i, F i < 4294967296) (hG : ∀ i, G i < 4294967296) (hF0 : ∀ i, n ≤ i → F i = 0) (hG0 : ∀ i, m ≤ i → G i = 0) :
    Calls Try.prog 88 #[.agg cs, .agg cs'] w fun e w' => ∃ rs, e = .returned (.agg rs) ∧ MagC rs (trimN (addD F G) (max n m + 1)) (addD F G) ∧ Below w.heap.size w w' := by
  rcases Nat.lt_or_ge n m with hnm | hnm
  · rw [Nat.max_eq_right (by omega)]; exact sum_lt cs cs' n m F G w hc hc' hm hF hG hF0 hG0 hnm
  · rw [Nat.max_eq_left hnm]; exact sum_ge cs cs' n m F G w hc hc' hn hF hG hF0 hG0 hnm

end Go.Proofs.Ytpcnmolncoaddaa
