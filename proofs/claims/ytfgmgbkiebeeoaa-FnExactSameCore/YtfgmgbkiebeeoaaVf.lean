import Derived.Test.YtfgmgbkiebeeoaaVb
import Derived.Test.YtfgmgbkiebeeoaaShelf
import Derived.Laws.CopyOwn
namespace Go.Proofs.Ytfgmgbkiebeeoaa
open Go.RowKit Go.Joins

theorem Try.info2 : (Try.prog.info? 2).map (fun i => (i.zero, i.size, i.bytes)) = some (some (.int .i64 0), 1, 8) := by kernel_rfl
theorem Try.size2 : (Try.prog.info? 2).map (·.size) = some 1 := by kernel_rfl

/-- A row of n cells of which the first k are told. -/
def RR (w : World) (g n k : Nat) : Prop := ∃ cur : List Value, w.heap[g]? = some (.cells cur.toArray 2 (0, 0)) ∧ cur.length = n ∧ ∀ i, i < k → cur[i]? = some (.int .i64 (-1))

theorem splice_get {cur : List Value} {k c : Nat} {v : Value} (hl : k + c ≤ cur.length) (h : ∀ i, i < k → cur[i]? = some v) : ∀ i, i < k + c → (splice cur k (List.replicate c v))[i]? = some v := fun i hi => by
  unfold splice
  by_cases h1 : i < k
  · rw [List.getElem?_append_left (by rw [List.length_take]; omega), List.getElem?_take, if_pos h1]
    exact h i h1
  · rw [List.getElem?_append_right (by rw [List.length_take]; omega), List.length_take, Nat.min_eq_left (by omega), List.getElem?_append_left (by rw [List.length_replicate]; omega), List.getElem?_replicate, if_pos (by omega)]

theorem mul_one_n (n : Nat) (hn : n ≤ 10000000) (w : World) : Calls Try.prog 62 #[.int .u64 1, .int .u64 n] w fun e w' => e = .returned (.tuple #[.int .u64 0, .int .u64 n]) ∧ w' = w := by
  have h := Try.bits_Mul 1 n (by omega) (by omega) w
  have e1 : 1 * n / 18446744073709551616 = 0 := by omega
  have e2 : 1 * n % 18446744073709551616 = n := by omega
  rw [e1, e2] at h
  exact h

set_option maxHeartbeats 1000000 in
set_option maxRecDepth 100000 in
theorem i_repeat (n xb : Nat) (h1 : 1 ≤ n) (hn : n ≤ 10000000) (W : World) (hx : W.cell? ⟨xb, 0, none⟩ = some (.int .i64 (-1))) :
    Calls Try.prog 42 #[.slice (some ⟨xb, 0, none⟩) 1 1, .int .i64 n] W fun e W' => ∃ g, e = .returned (.slice (some ⟨g, 0, none⟩) n n) ∧ W.heap.size ≤ g ∧ RR W' g n n ∧ Below W.heap.size W W' := by
  have hmk := run_make_row' (P := Try.prog) 53 2 (.int .i64 0) 8 Try.underlying53 Try.info2 rfl .i64 .i64 n (by omega) (by omega) W
  have HMU := hide (mul_one_n n hn W)
  obtain ⟨V1, hV1⟩ : ∃ V1, W.alloc (.cells (madeCells #[Value.int .i64 0] n) 2) = V1 := ⟨_, rfl⟩
  rw [hV1] at hmk
  have HR1 : Hid (RR V1 W.heap.size n 0) := ⟨(madeCells #[Value.int .i64 0] n).toList, by rw [← hV1]; simpa using heap_new W (.cells (madeCells #[Value.int .i64 0] n) 2), by rw [Array.length_toList]; exact size_madeCells _ _, fun i hi => by omega⟩
  have HB1 : Hid (Below W.heap.size W V1) := by unfold Hid; rw [← hV1]; exact below_alloc1 _ _
  have HX1 : Hid (V1.cell? ⟨xb, 0, none⟩ = some (.int .i64 (-1))) := (HB1.out.cell (block_lt_of_cell hx)).trans hx
  have hwu : IntKind.u64.wrap (n : Int) = (n : Int) := by rw [IntKind.wrap_u64]; omega
  have hwi : IntKind.i64.wrap (n : Int) = (n : Int) := by rw [IntKind.wrap_i64]; omega
  clear hV1
  go_enter Try.func42, Try.ntmps42
  go_wp2_with fail
  refine HMU.out.mono ?_
  rintro e w ⟨rfl, rfl⟩
  go_upto_region 7 with fail
  obtain ⟨cur, hg1, hl1, -⟩ := HR1.out
  have HG1 := hide hg1
  have HL1 := hide hl1
  clear hg1 hl1 HR1 hmk HMU hx
  have HZ : Hid (w.heap.size ≤ w.heap.size) := Nat.le_refl _
  have HSRC : Hid (∀ j v, [Value.int .i64 (-1)][j]? = some v → V1.cell? ((⟨xb, 0, none⟩ : Addr).add j) = some v) := fun j v hv => by
    cases j with
    | zero =>
      have e : v = .int .i64 (-1) := by simpa using hv.symm
      rw [e]
      simpa [Addr.add] using HX1.out
    | succ j => simp at hv
  have HCB : Hid (∀ w2 : World, Hid (w2.heap[w.heap.size]? = some (.cells (splice cur 0 [.int .i64 (-1)]).toArray 2 (0, 0))) → RR w2 w.heap.size n 1) := fun w2 h => ⟨_, h.out, by rw [length_splice _ _ _ (by rw [HL1.out]; simpa using h1)]; exact HL1.out, fun i hi => splice_get (k := 0) (c := 1) (by rw [HL1.out]; omega) (fun i hi => by omega) i (by omega)⟩
  have HN1 : Hid ([Value.int .i64 (-1)].length = Nat.min 1 n) := by
    have e : Nat.min 1 n = min 1 n := rfl
    unfold Hid
    rw [e]
    show 1 = _
    omega
  have HF1 : Hid (0 + [Value.int .i64 (-1)].length ≤ cur.length) := by unfold Hid; rw [HL1.out]; exact h1
  have HO1 : Hid (∀ v ∈ [Value.int .i64 (-1)], v.oneCell' = true) := fun v hv => by simp at hv; rw [hv]; rfl
  go_wp2_with (refine wpList_copy_splice rfl _ _ 53 53 rfl 2 Try.underlying53 Try.size2 _ _ n n 1 1 rfl rfl w.heap.size 0 cur 2 HG1.out [.int .i64 (-1)] HN1.out (fun _ => ⟨rfl, ⟨xb, 0, none⟩, rfl, HSRC.out⟩) HF1.out HO1.out w.heap.size w HB1.out HZ.out ?_; intro w2 hG2 hB2; have HR2 := hide (HCB.out w2 hG2); have HB2 := hide hB2; clear hG2 hB2)
  clear HSRC HCB HG1 HL1 HX1 HB1 HN1 HF1 HO1
  go_loopw [8] (fun s8 wr => ∃ k : Nat, s8 = .int .i64 (k : Int) ∧ 1 ≤ k ∧ k ≤ n ∧ RR wr w.heap.size n k ∧ Below w.heap.size w wr) (fun s8 wr => n - (intOf s8).toNat)
  case atStart => exact ⟨1, rfl, Nat.le_refl _, h1, HR2.out, HB2.out⟩
  case round =>
    clear HR2 HB2
    obtain ⟨k, rfl, hk1, hkn, hR, hB⟩ := hrel
    have HR := hide hR
    have HB := hide hB
    clear hR hB
    by_cases hlt : (k : Int) < (n : Int)
    · obtain ⟨c, hc⟩ : ∃ c, Nat.min k (n - k) = c := ⟨_, rfl⟩
      have hc1 : 1 ≤ c ∧ k + c ≤ n := by
        have e : Nat.min k (n - k) = min k (n - k) := rfl
        rw [e] at hc
        omega
      obtain ⟨cur, hg, hl, hv⟩ := HR.out
      have HG := hide hg
      have HL := hide hl
      have HV := hide hv
      have HC := hide hc
      clear hg hl hv hc
      have HN : Hid ((List.replicate c (Value.int .i64 (-1))).length = Nat.min k (n - k)) := by unfold Hid; rw [List.length_replicate]; exact HC.out.symm
      have HSRC : Hid (∀ j v, (List.replicate c (Value.int .i64 (-1)))[j]? = some v → wr.drew.cell? ((⟨w.heap.size, 0, none⟩ : Addr).add j) = some v) := fun j v hv => by
        rw [List.getElem?_replicate] at hv
        split at hv
        · cases hv
          refine World.news_of_block (w := wr.drew) (t := 2) (fr := (0, 0)) HG.out j _ ?_
          simpa using HV.out j (by have h3 := HC.out; have e : Nat.min k (n - k) = min k (n - k) := rfl; rw [e] at h3; omega)
        · cases hv
      have HFIT : Hid (k + (List.replicate c (Value.int .i64 (-1))).length ≤ cur.length) := by unfold Hid; rw [List.length_replicate, HL.out]; exact hc1.2
      have HONE : Hid (∀ v ∈ List.replicate c (Value.int .i64 (-1)), v.oneCell' = true) := fun v hv => by rw [(List.mem_replicate.1 hv).2]; rfl
      have HCB : Hid (∀ w2 : World, Hid (w2.heap[w.heap.size]? = some (.cells (splice cur k (List.replicate c (.int .i64 (-1)))).toArray 2 (0, 0))) → RR w2 w.heap.size n (k + c)) := fun w2 h => ⟨_, h.out, by rw [length_splice _ _ _ HFIT.out]; exact HL.out, splice_get (by rw [HL.out]; exact hc1.2) HV.out⟩
      have HBD : Hid (Below w.heap.size w wr.drew) := HB.out.drew
      have hwk : IntKind.i64.wrap (k : Int) = (k : Int) := by rw [IntKind.wrap_i64]; omega
      have hne : ¬ n = k := by omega
      obtain ⟨d, hd⟩ : ∃ d, n - k = d := ⟨_, rfl⟩
      have HND := HN.out
      rw [hd] at HND
      replace HN : Hid ((List.replicate c (Value.int .i64 (-1))).length = Nat.min k d) := HND
      clear HND
      go_upto_region 9 with fail
      go_region_law (refine step_copy_splice rfl _ _ 53 53 rfl 2 Try.underlying53 Try.size2 (some ⟨w.heap.size, k, none⟩) (some ⟨w.heap.size, 0, none⟩) d d k n (by kernel_rfl) (by kernel_rfl) w.heap.size k cur 2 HG.out (List.replicate c (.int .i64 (-1))) HN.out (fun _ => ⟨rfl, ⟨w.heap.size, 0, none⟩, rfl, HSRC.out⟩) HFIT.out HONE.out w.heap.size w HBD.out HZ.out ?_; intro w2 hG2 hB2; have HR2 := hide (HCB.out w2 hG2); have HB2 := hide hB2; clear hG2 hB2)
      all_goals
        go_wp2_with fail
        have hwkc : IntKind.i64.wrap ((k : Int) + (c : Int)) = ((k + c : Nat) : Int) := by rw [IntKind.wrap_i64]; omega
        go_simp
        go_roundw
        case rel => exact ⟨k + c, by first | rfl | rw [hwkc] | simp, by omega, by omega, HR2.out, HB2.out⟩
        case measure =>
          simp only [intOf]
          omega
    · have hkn' : k = n := by omega
      subst hkn'
      go_wp2_with fail
      go_ret
      exact ⟨_, rfl, Nat.le_refl _, HR.out, HB.out⟩
end Go.Proofs.Ytfgmgbkiebeeoaa
