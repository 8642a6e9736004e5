import Derived.Test.YtpgbaidkhjaocaaSb
import Derived.Test.YtpgbaidkhjaocaaKb
import Derived.Test.YtpgbaidkhjaocaaKToOutcome
import Derived.Deep.RegionHeld3
namespace Go.Proofs.Ytpgbaidkhjaocaa
open Go.RowKit Go.Joins

/-- An outcome as cells. -/
def oF (e : Int) (o r : ByteArray) (s : Int) : Fo := .v (.int .i64 e) (.v (.string o) (.v (.string r) (.v (.int .i64 s) .nil)))

theorem sz_flat {e : Int} {o r : ByteArray} {s : Int} (hf : Fit E (oF e o r s) [.i, .t, .t, .i]) (left : Int) (h0 : 0 ≤ left) (h1 : left ≤ 1048576) (V : World) :
    Calls Try.prog 8 #[.agg #[.int .i64 e, .string o, .string r, .int .i64 s], .int .i64 left] V fun x V' => x = .returned (.int .i64 (szV left (oF e o r s).wt)) ∧ Below V.heap.size V V' :=
  sz_C_Outcome _ (oF e o r s) 0 left V (Nat.le_refl _) hf (Nat.zero_le _) h0 h1 trivial

theorem to_flat {e : Int} {o r : ByteArray} {s : Int} (hf : Fit E (oF e o r s) [.i, .t, .t, .i]) (hw : (oF e o r s).wt ≤ 1048576) (V : World) :
    Calls Try.prog 9 #[.agg #[.int .i64 e, .string o, .string r, .int .i64 s]] V fun x V' => x = .returned (.agg #[.int .i64 e, .string o, .string r, .int .i64 s]) ∧ Below V.heap.size V V' := by
  refine (to_C_Outcome _ (oF e o r s) 0 V (Nat.le_refl _) hf (Nat.zero_le _) hw trivial).mono ?_
  rintro x V' ⟨G, rfl, g1, g2, -⟩
  obtain ⟨u0, rfl, s1⟩ := Fo.sim_v g1
  obtain ⟨u1, rfl, s2⟩ := Fo.sim_v s1
  obtain ⟨u2, rfl, s3⟩ := Fo.sim_v s2
  obtain ⟨u3, rfl, s4⟩ := Fo.sim_v s3
  obtain rfl := Fo.sim_nil s4
  exact ⟨rfl, g2⟩

set_option maxHeartbeats 16000000 in
set_option maxRecDepth 100000 in
theorem lawStands (F0 F1 : Fo) (W : World) (hf0 : Fit E F0 [.i, .t, .t, .i]) (hf1 : Fit E F1 [.i, .t, .t, .i]) (_hs0 : F0.Subs W (fun b => b < W.heap.size)) (_hs1 : F1.Subs W (fun b => b < W.heap.size)) :
    Calls Try.prog 4 #[.agg F0.vals.toArray, .agg F1.vals.toArray] W fun e W' => e = .returned (.bool true) ∧ Below W.heap.size W W' := by

  have hf0' := hf0
  have hf1' := hf1
  obtain ⟨e, G, rfl, -, hf0⟩ := fit_i hf0
  obtain ⟨o, G, rfl, -, hf0⟩ := fit_t hf0
  obtain ⟨r, G, rfl, -, hf0⟩ := fit_t hf0
  obtain ⟨s, G, rfl, -, hf0⟩ := fit_i hf0
  obtain rfl := fit_nil hf0
  obtain ⟨e', G, rfl, -, hf1⟩ := fit_i hf1
  obtain ⟨o', G, rfl, -, hf1⟩ := fit_t hf1
  obtain ⟨r', G, rfl, -, hf1⟩ := fit_t hf1
  obtain ⟨s', G, rfl, -, hf1⟩ := fit_i hf1
  obtain rfl := fit_nil hf1
  have HF0 : Hid (Fit E (oF e o r s) [.i, .t, .t, .i]) := hf0'
  have HF1 : Hid (Fit E (oF e' o' r' s') [.i, .t, .t, .i]) := hf1'
  clear hf0 hf1 hf0' hf1'
  simp only [Fo.vals]
  obtain ⟨A, hA⟩ : ∃ A, (W.alloc (.cells #[.int .i64 e, .string o, .string r, .int .i64 s] 29)).alloc (.cells #[.int .i64 e', .string o', .string r', .int .i64 s'] 29) = A := ⟨_, rfl⟩
  have hb : Below W.heap.size W A := by rw [← hA]; exact (below_alloc1 _ _).trans ((below_alloc1 _ _).mono (by simp))
  have hz : A.heap.size = W.heap.size + 1 + 1 := by rw [← hA]; simp
  have hc : ∀ V, Below A.heap.size A V → V.cell? ⟨W.heap.size, 0, none⟩ = some (.int .i64 e) ∧ V.cell? ⟨W.heap.size, 1, none⟩ = some (.string o) ∧ V.cell? ⟨W.heap.size, 2, none⟩ = some (.string r) ∧ V.cell? ⟨W.heap.size, 3, none⟩ = some (.int .i64 s) ∧ V.cell? ⟨W.heap.size + 1, 0, none⟩ = some (.int .i64 e') ∧ V.cell? ⟨W.heap.size + 1, 1, none⟩ = some (.string o') ∧ V.cell? ⟨W.heap.size + 1, 2, none⟩ = some (.string r') ∧ V.cell? ⟨W.heap.size + 1, 3, none⟩ = some (.int .i64 s') := by
    intro V h
    have c : ∀ b i, b < A.heap.size → V.cell? ⟨b, i, none⟩ = A.cell? ⟨b, i, none⟩ := fun b i hb => h.cell (p := ⟨b, i, none⟩) hb
    refine ⟨?_, ?_, ?_, ?_, ?_, ?_, ?_, ?_⟩ <;> (rw [c _ _ (by omega), ← hA]; simp)
  have HB := hide hb
  have HC := hide hc
  have HA := hide hA
  clear hb hc hz hA
  obtain ⟨w0, hw0⟩ : ∃ n, (oF e o r s).wt = n := ⟨_, rfl⟩
  obtain ⟨w1, hw1⟩ : ∃ n, (oF e' o' r' s').wt = n := ⟨_, rfl⟩
  have HS0 : Hid (∀ (left : Int) V, 0 ≤ left → left ≤ 1048576 → Calls Try.prog 8 #[.agg #[.int .i64 e, .string o, .string r, .int .i64 s], .int .i64 left] V fun x V' => x = .returned (.int .i64 (szV left w0)) ∧ Below V.heap.size V V') := fun left V h0 h1 => by
    have := sz_flat HF0.out left h0 h1 V
    rwa [hw0] at this
  have HS1 : Hid (∀ (left : Int) V, 0 ≤ left → left ≤ 1048576 → Calls Try.prog 8 #[.agg #[.int .i64 e', .string o', .string r', .int .i64 s'], .int .i64 left] V fun x V' => x = .returned (.int .i64 (szV left w1)) ∧ Below V.heap.size V V') := fun left V h0 h1 => by
    have := sz_flat HF1.out left h0 h1 V
    rwa [hw1] at this
  have cA := HC.out A (Below.refl _ _)
  by_cases g0 : (1048576 : Int) < ((w0 : Nat) : Int)
  · have hend := szV_lt g0
    go_enter Try.func4, Try.ntmps4
    go_wp2_with fail
    rw [HA.out]
    refine (HS0.out 1048576 A (by omega) (by omega)).mono ?_
    rintro x w ⟨rfl, b1⟩
    rw [hend]
    go_wp2_with fail
    go_ret
    exact ⟨rfl, HB.out.trans (b1.mono HB.out.size)⟩
  obtain ⟨l0, hl0⟩ : ∃ l0 : Int, l0 = 1048576 - w0 := ⟨_, rfl⟩
  have he0 : szV 1048576 w0 = l0 := by rw [szV_ge g0, hl0]
  have hge0 : ¬ l0 < 0 := by omega
  have HLF0 : Hid (0 ≤ l0 ∧ l0 ≤ 1048576 ∧ w0 ≤ 1048576) := ⟨by omega, by omega, by omega⟩
  clear hl0 g0
  by_cases g1 : (l0 : Int) < ((w1 : Nat) : Int)
  · have hend := szV_lt g1
    go_enter Try.func4, Try.ntmps4
    go_wp2_with fail
    rw [HA.out]
    refine (HS0.out 1048576 A (by omega) (by omega)).mono ?_
    rintro x w ⟨rfl, b1⟩
    rw [he0]
    have c1 := HC.out w b1
    go_wp2_with fail
    refine (HS1.out l0 w HLF0.out.1 HLF0.out.2.1).mono ?_
    rintro x w2 ⟨rfl, b2⟩
    rw [hend]
    go_wp2_with fail
    go_ret
    exact ⟨rfl, HB.out.trans ((b1.trans (b2.mono b1.size)).mono HB.out.size)⟩
  obtain ⟨l1, hl1⟩ : ∃ l1 : Int, l1 = l0 - w1 := ⟨_, rfl⟩
  have he1 : szV l0 w1 = l1 := by rw [szV_ge g1, hl1]
  have hge1 : ¬ l1 < 0 := by omega
  have HLF1 : Hid (w1 ≤ 1048576) := by have := HLF0.out; show w1 ≤ 1048576; omega
  clear hl1 g1
  obtain ⟨q, hq⟩ : ∃ q, stF e o e' o' = q := ⟨_, rfl⟩
  have HT0 : Hid (∀ V, Hid (Below A.heap.size A V) → Calls Try.prog 9 #[.agg #[.int .i64 e, .string o, .string r, .int .i64 s]] V fun x V' => x = .returned (.agg #[.int .i64 e, .string o, .string r, .int .i64 s]) ∧ Hid (Below A.heap.size A V')) := fun V hb => (to_flat HF0.out (by rw [hw0]; exact HLF0.out.2.2) V).mono (by rintro x V' ⟨rfl, b⟩; exact ⟨rfl, hb.out.trans (b.mono hb.out.size)⟩)
  have HT1 : Hid (∀ V, Hid (Below A.heap.size A V) → Calls Try.prog 9 #[.agg #[.int .i64 e', .string o', .string r', .int .i64 s']] V fun x V' => x = .returned (.agg #[.int .i64 e', .string o', .string r', .int .i64 s']) ∧ Hid (Below A.heap.size A V')) := fun V hb => (to_flat HF1.out (by rw [hw1]; exact HLF1.out) V).mono (by rintro x V' ⟨rfl, b⟩; exact ⟨rfl, hb.out.trans (b.mono hb.out.size)⟩)
  have HM : Hid (∀ V, Hid (Below A.heap.size A V) → Calls Try.prog 7 #[.agg #[.int .i64 e, .string o, .string r, .int .i64 s], .agg #[.int .i64 e', .string o', .string r', .int .i64 s']] V fun x V' => x = .returned (.bool q) ∧ Hid (Below A.heap.size A V')) := fun V hb => (m_Stands e o r s e' o' r' s' V).mono (by rintro x V' ⟨rfl, b⟩; exact ⟨by rw [hq], hb.out.trans (b.mono hb.out.size)⟩)
  have HI : Hid (∀ V, Hid (Below A.heap.size A V) → Calls Try.prog 6 #[.agg #[.int .i64 e, .string o, .string r, .int .i64 s], .agg #[.int .i64 e', .string o', .string r', .int .i64 s']] V fun x V' => x = .returned (.bool q) ∧ Hid (Below A.heap.size A V')) := fun V hb => (i_Stands e o r s e' o' r' s' V).mono (by rintro x V' ⟨rfl, b⟩; exact ⟨by rw [hq], hb.out.trans (b.mono hb.out.size)⟩)
  clear hq hw0 hw1
  go_enter Try.func4, Try.ntmps4
  go_wp2_with fail
  rw [HA.out]
  refine (HS0.out 1048576 A (by omega) (by omega)).mono ?_
  rintro x v1 ⟨rfl, b1⟩
  rw [he0]
  have c1 := HC.out v1 b1
  have B1 := hide b1
  clear b1 he0
  go_wp2_with fail
  refine (HS1.out l0 v1 HLF0.out.1 HLF0.out.2.1).mono ?_
  rintro x v2 ⟨rfl, b2⟩
  rw [he1]
  have B2 := hide (B1.out.trans (b2.mono B1.out.size))
  clear b2 he1 c1 cA B1
  go_upto_region 8 with fail
  have HDR : Hid (Below A.heap.size A v2.drew) := B2.out.drew
  have k0' := HC.out v2.drew HDR.out
  have k0 := HC.out v2 B2.out
  go_cut [6] (fun t wx => t = .bool q ∧ Below A.heap.size A wx)
  case first =>
    go_region_held3 (fun V => V.cell? ⟨W.heap.size, 0, none⟩ = some (.int .i64 e) ∧ V.cell? ⟨W.heap.size, 1, none⟩ = some (.string o) ∧ V.cell? ⟨W.heap.size, 2, none⟩ = some (.string r) ∧ V.cell? ⟨W.heap.size, 3, none⟩ = some (.int .i64 s) ∧ V.cell? ⟨W.heap.size + 1, 0, none⟩ = some (.int .i64 e') ∧ V.cell? ⟨W.heap.size + 1, 1, none⟩ = some (.string o') ∧ V.cell? ⟨W.heap.size + 1, 2, none⟩ = some (.string r') ∧ V.cell? ⟨W.heap.size + 1, 3, none⟩ = some (.int .i64 s'))
      (first | with_reducible exact km9' | with_reducible exact km1' | with_reducible exact km0' | with_reducible exact k0')
      (first
        | (go_at_call_of 9 (Value.string o); with_reducible refine (HT0.out _ HDR).mono ?_; rintro x wm0 ⟨rfl, bm0⟩; have km0' := HC.out wm0 bm0.out)
        | (go_at_call_of 9 (Value.string o'); with_reducible refine (HT1.out _ bm0).mono ?_; rintro x wm1 ⟨rfl, bm1⟩; have km1' := HC.out wm1 bm1.out)
        | (go_at_call 7; with_reducible refine (HM.out _ bm1).mono ?_; rintro x wm9 ⟨rfl, bm9⟩; have km9' := HC.out wm9 bm9.out))
    all_goals
      go_wp2_with fail
      go_meet
      case rel => exact ⟨rfl, bm9.out⟩
  case rest =>
  obtain ⟨rfl, hcb⟩ := hcut
  rename World => v3
  have B3 := hide hcb
  clear hcb HDR k0 k0' B2
  go_upto_region 9 with fail
  have HDR : Hid (Below A.heap.size A v3.drew) := B3.out.drew
  have k0' := HC.out v3.drew HDR.out
  have k0 := HC.out v3 B3.out
  go_cut [7] (fun t wx => t = .bool q ∧ Below A.heap.size A wx)
  case first =>
    go_region_held3 (fun V => V.cell? ⟨W.heap.size, 0, none⟩ = some (.int .i64 e) ∧ V.cell? ⟨W.heap.size, 1, none⟩ = some (.string o) ∧ V.cell? ⟨W.heap.size, 2, none⟩ = some (.string r) ∧ V.cell? ⟨W.heap.size, 3, none⟩ = some (.int .i64 s) ∧ V.cell? ⟨W.heap.size + 1, 0, none⟩ = some (.int .i64 e') ∧ V.cell? ⟨W.heap.size + 1, 1, none⟩ = some (.string o') ∧ V.cell? ⟨W.heap.size + 1, 2, none⟩ = some (.string r') ∧ V.cell? ⟨W.heap.size + 1, 3, none⟩ = some (.int .i64 s'))
      (first | with_reducible exact km9' | with_reducible exact km1' | with_reducible exact km0' | with_reducible exact k0')
      (first
        | (go_at_call_of 9 (Value.string o); with_reducible refine (HT0.out _ HDR).mono ?_; rintro x wm0 ⟨rfl, bm0⟩; have km0' := HC.out wm0 bm0.out)
        | (go_at_call_of 9 (Value.string o'); with_reducible refine (HT1.out _ bm0).mono ?_; rintro x wm1 ⟨rfl, bm1⟩; have km1' := HC.out wm1 bm1.out)
        | (go_at_call 6; with_reducible refine (HI.out _ bm1).mono ?_; rintro x wm9 ⟨rfl, bm9⟩; have km9' := HC.out wm9 bm9.out))
    all_goals
      go_wp2_with fail
      go_meet
      case rel => exact ⟨rfl, bm9.out⟩
  case rest =>
  obtain ⟨rfl, hcb⟩ := hcut
  rename World => v4
  have B4 := hide hcb
  clear hcb HDR k0 k0' B3
  go_wp2_with fail
  go_ret
  exact ⟨rfl, HB.out.trans (B4.out.mono HB.out.size)⟩
end Go.Proofs.Ytpgbaidkhjaocaa
