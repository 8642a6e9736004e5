import Derived.Test.YtpcnmolncoaddaaSum
namespace Go.Proofs.Ytpcnmolncoaddaa
open Go.RowKit Go.Joins

/-- The carry of a row of the product, and its digits: row i, laid over P. -/
def mulC (F G : Nat → Nat) (i : Nat) (P : Nat → Nat) : Nat → Nat
  | 0 => 0
  | j + 1 => (mulC F G i P j + (P (i + j) + F i * G j)) / 4294967296
def mulD (F G : Nat → Nat) (i : Nat) (P : Nat → Nat) (j : Nat) : Nat := (mulC F G i P j + (P (i + j) + F i * G j)) % 4294967296
/-- The row as far as k. -/
def mulIn (F G : Nat → Nat) (i : Nat) (P : Nat → Nat) (k : Nat) : Nat → Nat := fun x => if i ≤ x ∧ x < i + k then mulD F G i P (x - i) else P x
def mulRow (F G : Nat → Nat) (m i : Nat) (P : Nat → Nat) : Nat → Nat := upd (mulIn F G i P m) (i + m) (mulC F G i P m)
def mulP (F G : Nat → Nat) (m : Nat) : Nat → Nat → Nat
  | 0 => fun _ => 0
  | i + 1 => mulRow F G m i (mulP F G m i)

theorem mul_bound {x y : Nat} (hx : x < 4294967296) (hy : y < 4294967296) : x * y ≤ 18446744065119617025 :=
  Nat.le_trans (Nat.mul_le_mul (show x ≤ 4294967295 by omega) (show y ≤ 4294967295 by omega)) (by decide)
theorem mulC_lt {F G : Nat → Nat} (hF : ∀ i, F i < 4294967296) (hG : ∀ i, G i < 4294967296) (i : Nat) {P : Nat → Nat} (hP : ∀ x, P x < 4294967296) (j : Nat) : mulC F G i P j < 4294967296 := by
  induction j with
  | zero => simp [mulC]
  | succ j ih =>
    unfold mulC
    have h1 := mul_bound (hF i) (hG j)
    have h2 := hP (i + j)
    generalize F i * G j = t at *
    omega
theorem mulD_lt (F G : Nat → Nat) (i : Nat) (P : Nat → Nat) (j : Nat) : mulD F G i P j < 4294967296 := Nat.mod_lt _ (by decide)
theorem mulIn_lt {F G : Nat → Nat} {i : Nat} {P : Nat → Nat} (hP : ∀ x, P x < 4294967296) (k x : Nat) : mulIn F G i P k x < 4294967296 := by
  unfold mulIn; split
  · exact mulD_lt _ _ _ _ _
  · exact hP x
theorem mulP_lt {F G : Nat → Nat} (hF : ∀ i, F i < 4294967296) (hG : ∀ i, G i < 4294967296) (m i x : Nat) : mulP F G m i x < 4294967296 := by
  induction i generalizing x with
  | zero => simp [mulP]
  | succ i ih =>
    show upd _ _ _ x < _
    unfold upd; split
    · exact mulC_lt hF hG i ih m
    · exact mulIn_lt ih m x
theorem mulIn_zero (F G : Nat → Nat) (i : Nat) (P : Nat → Nat) : mulIn F G i P 0 = P := by
  funext x; unfold mulIn; rw [if_neg (by omega)]
theorem mulIn_at (F G : Nat → Nat) (i : Nat) (P : Nat → Nat) (k : Nat) : mulIn F G i P k (i + k) = P (i + k) := by
  unfold mulIn; rw [if_neg (by omega)]
theorem mulIn_upd (F G : Nat → Nat) (i : Nat) (P : Nat → Nat) (k : Nat) : upd (mulIn F G i P k) (i + k) (mulD F G i P k) = mulIn F G i P (k + 1) := by
  funext x
  unfold upd mulIn
  by_cases h : x = i + k
  · subst h; rw [if_pos rfl, if_pos (by omega), show i + k - i = k by omega]
  · rw [if_neg h]
    by_cases h2 : i ≤ x ∧ x < i + k
    · rw [if_pos h2, if_pos (by omega)]
    · rw [if_neg h2, if_neg (by omega)]
theorem mulP_zero (F G : Nat → Nat) (m i x : Nat) (h : i + m ≤ x) (h0 : 0 < i ∨ 0 < x + 1) : mulP F G m i x = 0 := by
  induction i generalizing x with
  | zero => rfl
  | succ i ih =>
    show upd _ _ _ x = 0
    unfold upd
    rw [if_neg (by omega)]
    unfold mulIn
    rw [if_neg (by omega)]
    exact ih x (by omega) (by omega)

set_option maxHeartbeats 4000000 in
set_option maxRecDepth 100000 in
theorem prod_any (cs cs' : Array Value) (n m : Nat) (F G : Nat → Nat) (w : World) (hc : MagC cs n F) (hc' : MagC cs' m G) (hn : n ≤ 40) (hm : m ≤ 40) (hF : ∀ i, F i < 4294967296) (hG : ∀ i, G i < 4294967296) :
    Calls Try.prog 56 #[.agg cs, .agg cs'] w fun e w' => ∃ rs, e = .returned (.agg rs) ∧ MagC rs (trimN (mulP F G m n) (n + m)) (mulP F G m n) ∧ Below w.heap.size w w' := by
  have HF : Hid (∀ i, F i < 4294967296) := hF
  have HG : Hid (∀ i, G i < 4294967296) := hG
  clear hF hG
  go_enter Try.func56, Try.ntmps56
  go_upto_region 2 with (first
    | ((with_reducible refine wpList_alloc63 4 ?_ ?_ ?_ ?_); rfl; rfl; rfl; intro w1 hz1 hm1 hb1; simp only [World.size_alloc] at hz1 hm1 hb1)
    | ((with_reducible refine wpList_alloc63 5 ?_ ?_ ?_ ?_); rfl; rfl; rfl; intro w2 hz2 hm2 hb2; rw [hz1] at hz2 hm2 hb2))
  have ma : MagAt w2 w.heap.size n F := ((((show MagAt (w.alloc (.cells cs 63)) w.heap.size n F from ⟨cs, heap_alloc_new _ _, hc⟩).below (below_alloc1 _ _) (by simp)).below hb1 (by omega)).below hb2 (by omega))
  have mb : MagAt w2 (w.heap.size + 1) m G := ((show MagAt ((w.alloc (.cells cs 63)).alloc (.cells cs' 63)) (w.heap.size + 1) m G from ⟨cs', by rw [show w.heap.size + 1 = (w.alloc (.cells cs 63)).heap.size from by simp]; exact heap_alloc_new _ _, hc'⟩).below hb1 (by omega)).below hb2 (by omega)
  have mr : MagAt w2 (w.heap.size + 1 + 1) 0 (fun _ => 0) := hm1.below hb2 (by omega)
  have bel2 : Below w.heap.size w w2 := ((below_alloc2 w _ _).trans (hb1.mono (by omega))).trans (hb2.mono (by omega))
  have e1 := ma.count
  clear hb1 hb2 hm1 hc hc'
  go_wp2_with fail
  go_loopw [11] (fun s11 wr => ∃ i : Nat, i ≤ n ∧ s11 = .int .i64 i ∧ MagAt wr w.heap.size n F ∧ MagAt wr (w.heap.size + 1) m G ∧ MagAt wr (w.heap.size + 1 + 1) 0 (fun _ => 0) ∧ MagAt wr (w.heap.size + 1 + 1 + 1) 0 (mulP F G m i) ∧ Below w.heap.size w wr) (fun s11 _ => n - (intOf s11).toNat)
  case atStart => exact ⟨0, Nat.zero_le _, rfl, ma, mb, mr, hm2, bel2⟩
  case round =>
    obtain ⟨i, hi, rfl, ma', mb', mr', ms', bel'⟩ := hrel
    clear ma mb mr hm2 bel2 e1
    by_cases hlt : i < n
    · have e2 := mb'.count
      have hP := mulP_lt HF.out HG.out m i
      go_wp2_with fail
      go_loopw [7, 16] (fun s7 s16 wy => ∃ k : Nat, k ≤ m ∧ s16 = .int .i64 k ∧ s7 = .int .u64 (mulC F G i (mulP F G m i) k) ∧ MagAt wy w.heap.size n F ∧ MagAt wy (w.heap.size + 1) m G ∧ MagAt wy (w.heap.size + 1 + 1) 0 (fun _ => 0) ∧ MagAt wy (w.heap.size + 1 + 1 + 1) 0 (mulIn F G i (mulP F G m i) k) ∧ Below w.heap.size w wy) (fun _ s16 _ => m - (intOf s16).toNat)
      case atStart => exact ⟨0, Nat.zero_le _, rfl, rfl, ma', mb', mr', by rw [mulIn_zero]; exact ms', bel'⟩
      case round =>
        obtain ⟨k, hk, rfl, rfl, ma2, mb2, mr2, ms2, bel2⟩ := hrel
        clear ma' mb' mr' ms' bel' e2
        have bC := mulC_lt HF.out HG.out i hP k
        have bP := hP (i + k)
        have bM := mul_bound (HF.out i) (HG.out k)
        have bF := HF.out i
        have bG := HG.out k
        clear hP
        by_cases hlk : k < m
        · have g1 := ms2.limb (i + k) (by omega)
          rw [mulIn_at] at g1
          have g2 := ma2.limb i (by omega)
          have g3 := mb2.limb k (by omega)
          have g4 := ms2.frozen (i + k)
          have ec : Hid (mulC F G i (mulP F G m i) (k + 1) = (mulC F G i (mulP F G m i) k + (mulP F G m i (i + k) + F i * G k)) / 4294967296) := rfl
          have ed : Hid (mulD F G i (mulP F G m i) k = (mulC F G i (mulP F G m i) k + (mulP F G m i (i + k) + F i * G k)) % 4294967296) := rfl
          go_wp2_with fail
          go_quiet (fail)
          go_wp2_with fail
          go_roundw
          case rel =>
            refine ⟨k + 1, by omega, by go_num, by rw [ec.out]; go_num, ma2.only (onlyd wr ⟨w.heap.size + 1 + 1 + 1, i + k, none⟩ _ _) (by show _ ≠ w.heap.size + 1 + 1 + 1; omega), mb2.only (onlyd wr ⟨w.heap.size + 1 + 1 + 1, i + k, none⟩ _ _) (by show _ ≠ w.heap.size + 1 + 1 + 1; omega), mr2.only (onlyd wr ⟨w.heap.size + 1 + 1 + 1, i + k, none⟩ _ _) (by show _ ≠ w.heap.size + 1 + 1 + 1; omega), ?_, (bel2.trans ((onlyd wr ⟨w.heap.size + 1 + 1 + 1, i + k, none⟩ _ _).below (by show _ ≤ w.heap.size + 1 + 1 + 1; omega)))⟩
            have := ms2.setLimb (i + k) (mulD F G i (mulP F G m i) k) (by omega)
            rw [mulIn_upd, ed.out] at this
            exact this
          case measure => simp [intOf]; omega
        · obtain rfl : m = k := by omega
          have e2 := mb2.count
          have g3 := ms2.limb (i + m) (by omega)
          have g4 := ms2.frozen (i + m)
          have hms := ms2.setLimb (i + m) (mulC F G i (mulP F G m i) m) (by omega)
          have hox : Only (w.heap.size + 1 + 1 + 1) wr (wr.setCell ⟨w.heap.size + 1 + 1 + 1, i + m, none⟩ (.int .u32 (mulC F G i (mulP F G m i) m : Nat))) := Only.setCell wr ⟨w.heap.size + 1 + 1 + 1, i + m, none⟩ _
          have ma3 := ma2.only hox (by omega)
          have mb3 := mb2.only hox (by omega)
          have mr3 := mr2.only hox (by omega)
          have bel3 := bel2.trans (hox.below (by omega))
          clear ma2 mb2 mr2 ms2 bel2 hox
          go_wp2_with fail
          go_roundw
          case rel => exact ⟨i + 1, by omega, by go_num, ma3, mb3, mr3, hms, bel3⟩
          case measure => simp [intOf]; omega
    · obtain rfl : n = i := by omega
      have e1 := ma'.count
      have e2 := mb'.count
      go_wp2_with fail
      refine (setCount_at (w.heap.size + 1 + 1 + 1) (n + m) _ _ _ ms' (by omega)).mono ?_
      rintro e w5 ⟨rfl, hm5, ho5⟩
      have mr5 := mr'.only ho5 (by omega)
      have bel5 := bel'.trans (ho5.below (by omega))
      clear ho5 ma' mb' mr' ms'
      go_wp2_with (first
        | ((with_reducible refine wpList_load63 (.tmp 5) (w.heap.size + 1 + 1 + 1) _ _ hm5 ?_ ?_ ?_ ?_); rfl; rfl; rfl; intro rs hrs)
        | ((with_reducible refine wpList_store63 (.tmp 4) (.tmp 65) (w.heap.size + 1 + 1) _ 0 _ (fun _ => 0) rs hrs mr5 ?_ ?_ ?_ ?_ ?_); rfl; rfl; rfl; rfl; intro w6 hm6 ho6))
      obtain ⟨rs', r1, r2⟩ := hm6
      refine bodyPost_ret (v := .agg rs') (results63 rfl _ _ (w.heap.size + 1 + 1) _ _ rs' (by simp [Act.put]) r1 r2) rfl ⟨rs', rfl, r2, bel5.trans (ho6.below (by omega))⟩

end Go.Proofs.Ytpcnmolncoaddaa
