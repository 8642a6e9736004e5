import Derived.Test.YtpcnmolncoaddaaRead2
namespace Go.Proofs.Ytpcnmolncoaddaa
open Go.RowKit Go.Joins

/-- The limbs f, n of them, are the trimmed form of N. -/
structure Norm (f : Nat → Nat) (n N : Nat) : Prop where
  lt : ∀ i, f i < 4294967296
  zero : ∀ i, n ≤ i → f i = 0
  top : 0 < n → f (n - 1) ≠ 0
  val : val f n = N
theorem Norm.nil : Norm (fun _ => 0) 0 0 := ⟨fun _ => by omega, fun _ _ => rfl, fun h => by omega, rfl⟩
theorem Norm.count {f : Nat → Nat} {n N k : Nat} (h : Norm f n N) (hN : N < 4294967296 ^ k) : n ≤ k := by
  apply Decidable.byContradiction
  intro hn
  obtain ⟨j, rfl⟩ : ∃ j, n = j + 1 := ⟨n - 1, by omega⟩
  have h1 := val_top (h.top (by omega))
  rw [show j + 1 - 1 = j from rfl, h.val] at h1
  have h2 : 4294967296 ^ k ≤ 4294967296 ^ j := Nat.pow_le_pow_right (by decide) (by omega)
  omega
theorem Norm.scale {f : Nat → Nat} {n N d m : Nat} (h : Norm f n N) (hd : d < 4294967296) (hm : m < 4294967296) : Norm (scF f d m n) (trimN (scF f d m n) (n + 1)) (N * d + m) where
  lt := scF_lt h.lt hd hm n
  zero := fun i hi => by
    by_cases hx : i < n + 1
    · exact trimN_zero _ _ i hi hx
    · exact scF_zero h.zero i (by omega)
  top := trimN_top _ _
  val := by rw [val_trim, val_scF, h.val]
theorem big42 : (10 : Nat) ^ 400 ≤ 4294967296 ^ 42 := by decide +kernel

theorem dig_extract {u : ByteArray} (h : Dig u) (a b : Nat) (hb : b ≤ u.size) : Dig (u.extract a b) := by
  intro i hi
  rw [ByteArray.size_extract] at hi
  rw [bt_extract u a b i hb (by omega)]
  exact h _ (by omega)

set_option maxHeartbeats 4000000 in
set_option maxRecDepth 100000 in
theorem magDig_any (s : ByteArray) (w : World) (hs : s.size ≤ 400) (hd : Dig s) :
    Calls Try.prog 69 #[.string s] w fun e w' => ∃ cs n f, e = .returned (.agg cs) ∧ MagC cs n f ∧ Norm f n (dv (bt s) s.size) ∧ Below w.heap.size w w' := by
  have HD : Hid (Dig s) := hd
  clear hd
  go_enter Try.func69, Try.ntmps69
  go_upto_region 2 with (first
    | ((with_reducible refine wpList_alloc63 2 ?_ ?_ ?_ ?_); rfl; rfl; rfl; intro w1 hz1 hm1 hb1)
    | ((with_reducible refine wpList_alloc63 3 ?_ ?_ ?_ ?_); rfl; rfl; rfl; intro w2 hz2 hm2 hb2; rw [hz1] at hz2 hm2 hb2))
  have mr : MagAt w2 w.heap.size 0 (fun _ => 0) := hm1.below hb2 (by omega)
  have bel2 : Below w.heap.size w w2 := hb1.trans (hb2.mono (by omega))
  clear hb1 hb2 hm1
  go_wp2_with fail
  change Code.wp Try.prog _ _ { tmps := #[Value.string s, undef, .pointer (some ⟨w.heap.size, 0, none⟩), .pointer (some ⟨w1.heap.size, 0, none⟩), undef, undef, undef, undef, undef, undef, undef, undef, undef, undef, undef, undef, undef, undef, undef, undef, undef, undef], defers := [] } w2
  rw [hz1]
  go_loopw [0] (fun s0 wr => ∃ (u : ByteArray) (k n : Nat) (f : Nat → Nat), s0 = .string u ∧ Hid (k + u.size = s.size ∧ (∀ i, i < u.size → bt u i = bt s (k + i)) ∧ (k = 0 ∨ u.size % 9 = 0) ∧ Norm f n (dv (bt s) k)) ∧ MagAt wr (w.heap.size + 1) n f ∧ MagAt wr w.heap.size 0 (fun _ => 0) ∧ Below w.heap.size w wr) (fun s0 _ => strLen s0)
  case atStart => exact ⟨s, 0, 0, _, rfl, ⟨by omega, fun i hi => by rw [Nat.zero_add], Or.inl rfl, Norm.nil⟩, hm2, mr, bel2⟩
  case round =>
    obtain ⟨u, k, n, f, rfl, hk, hm', mr', bel'⟩ := hrel
    clear hm2 mr bel2
    by_cases hp : 0 < u.size
    · have hu : u.size ≤ 400 := by have := hk.out.1; omega
      go_wp2_with fail
      have hdu : Dig u := fun i hi => by rw [hk.out.2.1 i hi]; exact HD.out _ (by have := hk.out.1; omega)
      have ht : (u.size - 1) % 9 + 1 ≤ u.size := by omega
      refine (chunk_any _ _ (by rw [ByteArray.size_extract]; omega) (dig_extract hdu 0 _ ht)).mono ?_
      rintro e w5 ⟨rfl, rfl⟩
      have hsz : (u.extract 0 ((u.size - 1) % 9 + 1)).size = (u.size - 1) % 9 + 1 := by rw [ByteArray.size_extract]; omega
      have hcv : Hid (dv (bt (u.extract 0 ((u.size - 1) % 9 + 1))) (u.extract 0 ((u.size - 1) % 9 + 1)).size = dv (fun i => bt s (k + i)) ((u.size - 1) % 9 + 1)) := by
        unfold Hid
        rw [hsz]
        exact dv_congr (fun i hi => by rw [bt_extract u 0 _ i ht (by omega), Nat.zero_add, hk.out.2.1 i (by omega)])
      have hcl : dv (fun i => bt s (k + i)) ((u.size - 1) % 9 + 1) < 1000000000 := by
        have h1 : dv (fun i => bt s (k + i)) ((u.size - 1) % 9 + 1) < 10 ^ ((u.size - 1) % 9 + 1) := dv_lt (fun i hi => (HD.out (k + i) (by have := hk.out.1; omega)).2)
        have h2 : 10 ^ ((u.size - 1) % 9 + 1) ≤ 10 ^ 9 := Nat.pow_le_pow_right (by omega) (by omega)
        exact Nat.lt_of_lt_of_le h1 h2
      rw [hcv.out]
      have hn : n ≤ 42 := hk.out.2.2.2.count (Nat.lt_of_lt_of_le (Nat.lt_of_lt_of_le (dv_lt (fun i hi => (HD.out i (by have := hk.out.1; omega)).2)) (Nat.pow_le_pow_right (by omega) (show k ≤ 400 by have := hk.out.1; omega))) big42)
      have hN := hk.out.2.2.2.scale (d := 1000000000) (m := dv (fun i => bt s (k + i)) ((u.size - 1) % 9 + 1)) (by omega) (by omega)
      have hk2 : Hid (k + ((u.size - 1) % 9 + 1) + (u.extract ((u.size - 1) % 9 + 1) u.size).size = s.size ∧ (∀ i, i < (u.extract ((u.size - 1) % 9 + 1) u.size).size → bt (u.extract ((u.size - 1) % 9 + 1) u.size) i = bt s (k + ((u.size - 1) % 9 + 1) + i)) ∧ (k + ((u.size - 1) % 9 + 1) = 0 ∨ (u.extract ((u.size - 1) % 9 + 1) u.size).size % 9 = 0) ∧ Norm (scF f 1000000000 (dv (fun i => bt s (k + i)) ((u.size - 1) % 9 + 1)) n) (trimN (scF f 1000000000 (dv (fun i => bt s (k + i)) ((u.size - 1) % 9 + 1)) n) (n + 1)) (dv (bt s) (k + ((u.size - 1) % 9 + 1)))) := by
        obtain ⟨q1, q2, q3, q4⟩ := hk.out
        unfold Hid
        rw [ByteArray.size_extract]
        refine ⟨by omega, ?_, by omega, ?_⟩
        · intro i hi
          rw [bt_extract u _ _ i (Nat.le_refl _) (by omega), q2 _ (by omega)]
          congr 1
          omega
        · have e : dv (bt s) (k + ((u.size - 1) % 9 + 1)) = dv (bt s) k * 1000000000 + dv (fun i => bt s (k + i)) ((u.size - 1) % 9 + 1) := by
            rw [dv_add]
            congr 1
            rcases q3 with rfl | h9
            · simp [dv]
            · rw [show (u.size - 1) % 9 + 1 = 9 from by omega]
          rw [e]
          exact hN
      have hl2 : (u.extract ((u.size - 1) % 9 + 1) u.size).size < u.size := by rw [ByteArray.size_extract]; omega
      have hlt := hk.out.2.2.2.lt
      have HLT : Hid (∀ i, f i < 4294967296) := hlt
      clear hlt hN hcv hsz hdu hk
      generalize dv (fun i => bt s (k + i)) ((u.size - 1) % 9 + 1) = C at *
      go_wp2_with fail
      refine (scale_any (w.heap.size + 1) n 1000000000 C f _ hm' (by omega) (by omega) (by omega) HLT.out).mono ?_
      rintro e w6 ⟨rfl, hm6, ho6⟩
      have mr6 := mr'.only ho6 (by omega)
      have bel6 := bel'.trans (ho6.below (by omega))
      clear hm' mr' bel' ho6 HLT hcl
      go_wp2_with fail
      go_roundw
      case rel => exact ⟨_, _, _, _, rfl, hk2, hm6, mr6, bel6⟩
      case measure => exact hl2
    · have hkk : Hid (Norm f n (dv (bt s) s.size)) := by
        obtain ⟨q1, q2, q3, q4⟩ := hk.out
        unfold Hid
        rw [show s.size = k from by omega]; exact q4
      clear hk
      go_wp2_with (first
        | ((with_reducible refine wpList_load63 (.tmp 3) (w.heap.size + 1) _ _ hm' ?_ ?_ ?_ ?_); rfl; rfl; rfl; intro rs hrs)
        | ((with_reducible refine wpList_store63 (.tmp 2) (.tmp 21) (w.heap.size) _ 0 _ (fun _ => 0) rs hrs mr' ?_ ?_ ?_ ?_ ?_); rfl; rfl; rfl; rfl; intro w6 hm6 ho6))
      obtain ⟨rs', r1, r2⟩ := hm6
      refine bodyPost_ret (v := .agg rs') (results63 rfl _ _ (w.heap.size) _ _ rs' (by simp [Act.put]) r1 r2) rfl ⟨rs', _, _, rfl, r2, hkk.out, bel'.trans (ho6.below (by omega))⟩

end Go.Proofs.Ytpcnmolncoaddaa
