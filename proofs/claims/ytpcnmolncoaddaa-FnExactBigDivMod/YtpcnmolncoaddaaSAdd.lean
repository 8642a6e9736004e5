import Derived.Test.YtpcnmolncoaddaaDiff
import Derived.Test.YtpcnmolncoaddaaSCmp
namespace Go.Proofs.Ytpcnmolncoaddaa
open Go.RowKit Go.Joins

theorem Row.alloc {B w v n f} (h : Row B w v n f) (o : Obj) : Row B (w.alloc o) v n f := World.ownsRow.alloc h o
theorem Row.less {B B' w v n f} (h : Row B w v n f) (hb : B' ≤ B) : Row B' w v n f := ownsRow_le h hb
theorem lim_one (W : World) (x : Nat) (p : Int) (b : Nat) (hb : b = W.heap.size) (hx : x < 4294967296) (hp : p = (x : Int)) : Lim (W.alloc (.cells #[.int .u32 p] 60)) (.slice (some ⟨b, 0, none⟩) 1 1) 1 (fun _ => x) := by
  subst hb hp
  refine ⟨_, 1, rfl, Nat.le_refl _, by unfold maxLen; omega, fun i _ => hx, fun _ => ⟨_, 0, rfl, fun i hi => ?_⟩⟩
  match i, hi with
  | 0, _ => simp
theorem ext_ge (n : Nat) (f : Nat → Nat) (i : Nat) (h : n ≤ i) : ext n f i = 0 := by simp [ext]; omega
theorem extLt {w v n f} (h : Lim w v n f) (i : Nat) : ext n f i < 4294967296 := by
  obtain ⟨_, _, _, _, _, h3, _⟩ := h
  unfold ext; split
  · exact h3 i (by assumption)
  · omega

set_option maxHeartbeats 2000000 in
set_option maxRecDepth 100000 in
theorem sAdd_any (v1 v2 : Value) (n m : Nat) (f g : Nat → Nat) (w : World) (hL : Lim w v1 n f) (hL' : Lim w v2 m g) (hn : n ≤ 1048576) (hm : m ≤ 1048576) :
    Calls Try.prog 81 #[v1, v2] w fun e w' => ∃ v', e = .returned v' ∧ Row w.heap.size w' v' (trimN (addD (ext n f) (ext m g)) (max n m + 1)) (addD (ext n f) (ext m g)) ∧ Below w.heap.size w w' := by
  have hF := fun i => extLt hL i
  have hG := fun i => extLt hL' i
  have HN : Hid (addC (ext n f) (ext m g) (max n m + 1) = 0) := by
    unfold Hid addC
    rw [ext_ge _ _ _ (Nat.le_max_left n m), ext_ge _ _ _ (Nat.le_max_right n m)]
    have := addC_le hF hG (max n m)
    omega
  obtain ⟨a, c, rfl, -⟩ := id hL
  obtain ⟨a', c', rfl, -⟩ := id hL'
  go_enter Try.func81, Try.ntmps81
  go_wp2_with fail
  go_loopw [5, 6, 7] (fun s5 s6 s7 wr => ∃ k : Nat, k ≤ max n m + 1 ∧ s7 = .int .i64 k ∧ s6 = .int .u64 (addC (ext n f) (ext m g) k) ∧ Row w.heap.size wr s5 k (addD (ext n f) (ext m g)) ∧ Below w.heap.size w wr) (fun _ _ s7 _ => max n m + 1 - (intOf s7).toNat)
  case atStart => exact ⟨0, Nat.zero_le _, rfl, rfl, Row.empty w _, below_alloc1 _ _⟩
  case round =>
    obtain ⟨k, hk, rfl, rfl, hrow, bel'⟩ := hrel
    have hC := addC_le hF hG k
    have bF := hF k
    have bG := hG k
    have hz := bel'.size
    have ec : Hid (addC (ext n f) (ext m g) (k + 1) = (addC (ext n f) (ext m g) k + (ext n f k + ext m g k)) / 4294967296) := rfl
    have ed : Hid (addD (ext n f) (ext m g) k = (addC (ext n f) (ext m g) k + (ext n f k + ext m g k)) % 4294967296) := rfl
    clear hF hG
    by_cases hkn : k < n
    · have hkN : k < max n m := by omega
      go_wp2_with fail
      refine (limb_any _ n f k _ (hL.below bel') hn).mono ?_
      rintro e w' ⟨rfl, rfl⟩
      go_wp2_with fail
      refine (limb_any _ m g k _ (hL'.below bel') hm).mono ?_
      rintro e w' ⟨rfl, rfl⟩
      go_wp2_with (at_builtin; (with_reducible refine wpList_appendU (.tmp 35) (.tmp 38) w.heap.size _ _ k 1 (addD (ext n f) (ext m g)) (fun _ => addD (ext n f) (ext m g) k) (Row.alloc hrow _) (lim_one wr (addD (ext n f) (ext m g) k) _ _ rfl (addD_lt _ _ _) ?_) (nilOk_some _ _ _) ?_ ?_ ?_ ?_ ?_ ?_ ?_); (rw [ed.out]; omega); omega; (simp; omega); rfl; rfl; rfl; rfl; intro v' w' hr hb)
      have bel2 : Below w.heap.size w w' := (bel'.alloc hz _).trans hb
      have hr2 := hr.eq (f' := addD (ext n f) (ext m g)) rfl (fun i hi => by split; rfl; congr; omega)
      clear hr hb bel' hrow
      go_wp2_with fail
      go_roundw
      case rel => exact ⟨k + 1, by omega, by go_num, by rw [ec.out]; go_num, hr2, bel2⟩
      case measure => simp [intOf]; omega
    have d1 : decide ((k : Int) < (n : Int)) = false := by simp; omega
    by_cases hkm : k < m
    · have hkN : k < max n m := by omega
      go_wp2_with fail
      refine (limb_any _ n f k _ (hL.below bel') hn).mono ?_
      rintro e w' ⟨rfl, rfl⟩
      go_wp2_with fail
      refine (limb_any _ m g k _ (hL'.below bel') hm).mono ?_
      rintro e w' ⟨rfl, rfl⟩
      go_wp2_with (at_builtin; (with_reducible refine wpList_appendU (.tmp 35) (.tmp 38) w.heap.size _ _ k 1 (addD (ext n f) (ext m g)) (fun _ => addD (ext n f) (ext m g) k) (Row.alloc hrow _) (lim_one wr (addD (ext n f) (ext m g) k) _ _ rfl (addD_lt _ _ _) ?_) (nilOk_some _ _ _) ?_ ?_ ?_ ?_ ?_ ?_ ?_); (rw [ed.out]; omega); omega; (simp; omega); rfl; rfl; rfl; rfl; intro v' w' hr hb)
      have bel2 : Below w.heap.size w w' := (bel'.alloc hz _).trans hb
      have hr2 := hr.eq (f' := addD (ext n f) (ext m g)) rfl (fun i hi => by split; rfl; congr; omega)
      clear hr hb bel' hrow
      go_wp2_with fail
      go_roundw
      case rel => exact ⟨k + 1, by omega, by go_num, by rw [ec.out]; go_num, hr2, bel2⟩
      case measure => simp [intOf]; omega
    have d2 : decide ((k : Int) < (m : Int)) = false := by simp; omega
    by_cases hc0 : 0 < addC (ext n f) (ext m g) k
    · have hkN : k < max n m + 1 := by
        rcases Nat.lt_or_ge k (max n m + 1) with h | h
        · exact h
        · exfalso; have : k = max n m + 1 := by omega
          rw [this, HN.out] at hc0; omega
      go_wp2_with fail
      refine (limb_any _ n f k _ (hL.below bel') hn).mono ?_
      rintro e w' ⟨rfl, rfl⟩
      go_wp2_with fail
      refine (limb_any _ m g k _ (hL'.below bel') hm).mono ?_
      rintro e w' ⟨rfl, rfl⟩
      go_wp2_with (at_builtin; (with_reducible refine wpList_appendU (.tmp 35) (.tmp 38) w.heap.size _ _ k 1 (addD (ext n f) (ext m g)) (fun _ => addD (ext n f) (ext m g) k) (Row.alloc hrow _) (lim_one wr (addD (ext n f) (ext m g) k) _ _ rfl (addD_lt _ _ _) ?_) (nilOk_some _ _ _) ?_ ?_ ?_ ?_ ?_ ?_ ?_); (rw [ed.out]; omega); omega; (simp; omega); rfl; rfl; rfl; rfl; intro v' w' hr hb)
      have bel2 : Below w.heap.size w w' := (bel'.alloc hz _).trans hb
      have hr2 := hr.eq (f' := addD (ext n f) (ext m g)) rfl (fun i hi => by split; rfl; congr; omega)
      clear hr hb bel' hrow
      go_wp2_with fail
      go_roundw
      case rel => exact ⟨k + 1, by omega, by go_num, by rw [ec.out]; go_num, hr2, bel2⟩
      case measure => simp [intOf]; omega
    have d3 : decide (0 < (addC (ext n f) (ext m g) k : Int)) = false := by simp; omega
    have HT : Hid (trimN (addD (ext n f) (ext m g)) (max n m + 1) = trimN (addD (ext n f) (ext m g)) k) := by
      rcases Nat.lt_or_ge k (max n m + 1) with h | h
      · obtain rfl : max n m = k := by omega
        have h0 : addD (ext n f) (ext m g) (max n m) = 0 := by
          unfold addD
          rw [ext_ge _ _ _ (Nat.le_max_left n m), ext_ge _ _ _ (Nat.le_max_right n m)]
          omega
        show (if addD (ext n f) (ext m g) (max n m) = 0 then _ else _) = _
        rw [if_pos h0]
      · obtain rfl : max n m + 1 = k := by omega
        rfl
    have ho := hrow.own (fun i _ => addD_lt _ _ _)
    go_wp2_with fail
    refine (trim_any ho.lim ho.nil (by omega)).mono ?_
    rintro e w2 ⟨v2, rfl, hr2, hb2⟩
    go_wp2_with fail
    go_ret
    exact ⟨v2, rfl, by rw [HT.out]; exact hr2.less hz, bel'.trans (hb2.mono hz)⟩

end Go.Proofs.Ytpcnmolncoaddaa
