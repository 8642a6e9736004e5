import Derived.Test.YtcnbnhoeobdbnaaPr
import Derived.Test.YtcnbnhoeobdbnaaLg
namespace Go.Proofs.Ytcnbnhoeobdbnaa
open Go.RowKit Go.Joins

theorem Room.kept {A B : World} {S : Nat → Prop} {g m : Nat} (h : Room A g m) (k : Kept S A B) (hg : S g) (hl : g < A.heap.size) : Room B g m := fun j hj => by
  obtain ⟨⟨v, hv⟩, hf⟩ := h j hj
  exact ⟨⟨v, (k.cell (p := ⟨g, j, none⟩) hl hg).trans hv⟩, (k.frozen (p := ⟨g, j, none⟩) hl hg).trans hf⟩

set_option maxHeartbeats 2000000 in
set_option maxRecDepth 100000 in
/-- A row of preds is marked. -/
theorem mark_preds (g n K : Nat) (W : World) (hR : Room W g (n * 2)) (hg : g < W.heap.size) (hn : n ≤ 1048576) (hK : K + 2 * n ≤ 4294967296) (hK0 : 0 < K) :
    Calls Try.prog 36 #[.slice (some ⟨g, 0, none⟩) n n, .int .i64 (K : Int)] W fun e W' => e = .returned (.int .i64 ((K + 2 * n : Nat) : Int)) ∧ Kept (fun c => c ≠ g) W W' := by
  have HR0 := hide hR
  obtain ⟨Z, hZ⟩ : ∃ Z, K + 2 * n = Z := ⟨_, rfl⟩
  rw [hZ]
  have HZ := hide hZ
  have hZb : Z ≤ 4294967296 := by omega
  clear hR hZ hK
  go_enter Try.func36, Try.ntmps36
  go_wp2_with fail
  go_loopw [1, 5] (fun s1 s5 wr => ∃ (i q : Nat), s1 = .int .i64 (q : Int) ∧ s5 = .int .i64 i ∧ i ≤ n ∧ Hid (q = K + 2 * i) ∧ Hid (Room wr g (n * 2)) ∧ Hid (Kept (fun c => c ≠ g) W wr)) (fun _ s5 _ => n - (intOf s5).toNat)
  case atStart => exact ⟨0, K, rfl, rfl, Nat.zero_le _, by unfold Hid; omega, HR0.out, Kept.refl _ _⟩
  case round =>
    obtain ⟨i, q, rfl, rfl, hi, HQ, HR, HK⟩ := hrel
    by_cases hl : i < n
    · have hl' : (i : Int) < n := by omega
      have hqb : q + 2 ≤ 4294967296 := by have := HQ.out; have := HZ.out; omega
      have hq0 : 0 < q := by have := HQ.out; omega
      have HM := hide (markText q wr hq0 (by omega))
      have hzr := HK.out.size
      go_wp2_with fail
      refine HM.out.mono ?_
      rintro e w1 ⟨rfl, b1⟩
      have hR1 := HR.out.below b1 (by omega)
      obtain ⟨⟨v0, a0⟩, f0⟩ := hR1 (i * 2) (by omega)
      obtain ⟨⟨v1, a1⟩, f1⟩ := hR1 (i * 2 + 1) (by omega)
      have HR1 := hide hR1
      have HB1 := hide b1
      clear hR1 b1
      go_wp2_with fail
      go_roundw
      case rel =>
        refine ⟨i + 1, q + 2, by go_num, by go_num, by omega, by have := HQ.out; unfold Hid; omega, (HR1.out.set _ _).set _ _, ?_⟩
        exact ((HK.out.trans (Kept.of_below HB1.out (fun c hc _ => hc))).trans (Kept.setCell _ _ _ _ (by simp))).trans (Kept.setCell _ _ _ _ (by simp))
      case measure => simp [intOf]; omega
    · have hl' : ¬ (i : Int) < n := by omega
      have hqZ : q = Z := by have := HQ.out; have := HZ.out; omega
      have HQZ := hide hqZ
      clear hqZ
      go_wp2_with fail
      go_ret
      exact ⟨by rw [HQZ.out]; rfl, HK.out⟩

/-- A scheme's value. -/
def schV (c : Int) (pa : Option Addr) (pn pc : Nat) (k ix : Int) (nm : ByteArray) (a : Option Addr) (len cap : Nat) : Value := .agg #[.int .i64 c, .slice pa pn pc, .int .i64 k, .int .i64 ix, .string nm, .slice a len cap]

/-- A scheme's variable: six cells. -/
structure Box6 (W : World) (b : Nat) (u p x i y z : Value) : Prop where
  lt : b < W.heap.size
  cu : W.cell? ⟨b, 0, none⟩ = some u
  cp : W.cell? ⟨b, 1, none⟩ = some p
  c0 : W.cell? ⟨b, 2, none⟩ = some x
  ci : W.cell? ⟨b, 3, none⟩ = some i
  c1 : W.cell? ⟨b, 4, none⟩ = some y
  c2 : W.cell? ⟨b, 5, none⟩ = some z
  fu : W.frozen? ⟨b, 0, none⟩ = false
  fp : W.frozen? ⟨b, 1, none⟩ = false
  f0 : W.frozen? ⟨b, 2, none⟩ = false
  fi : W.frozen? ⟨b, 3, none⟩ = false
  f1 : W.frozen? ⟨b, 4, none⟩ = false
  f2 : W.frozen? ⟨b, 5, none⟩ = false

theorem Box6.new (W : World) (u p x i y z : Value) (t : TypeId) : Box6 (W.alloc (.cells #[u, p, x, i, y, z] t)) W.heap.size u p x i y z :=
  ⟨by simp, by simp, by simp, by simp, by simp, by simp, by simp, by simp, by simp, by simp, by simp, by simp, by simp⟩

theorem Box6.kept {A B : World} {b : Nat} {u p x i y z : Value} {S : Nat → Prop} (h : Box6 A b u p x i y z) (k : Kept S A B) (hb : S b) : Box6 B b u p x i y z :=
  ⟨Nat.lt_of_lt_of_le h.lt k.size, (k.cell (p := ⟨b, 0, none⟩) h.lt hb).trans h.cu, (k.cell (p := ⟨b, 1, none⟩) h.lt hb).trans h.cp, (k.cell (p := ⟨b, 2, none⟩) h.lt hb).trans h.c0, (k.cell (p := ⟨b, 3, none⟩) h.lt hb).trans h.ci, (k.cell (p := ⟨b, 4, none⟩) h.lt hb).trans h.c1, (k.cell (p := ⟨b, 5, none⟩) h.lt hb).trans h.c2,
    (k.frozen (p := ⟨b, 0, none⟩) h.lt hb).trans h.fu, (k.frozen (p := ⟨b, 1, none⟩) h.lt hb).trans h.fp, (k.frozen (p := ⟨b, 2, none⟩) h.lt hb).trans h.f0, (k.frozen (p := ⟨b, 3, none⟩) h.lt hb).trans h.fi, (k.frozen (p := ⟨b, 4, none⟩) h.lt hb).trans h.f1, (k.frozen (p := ⟨b, 5, none⟩) h.lt hb).trans h.f2⟩

theorem Box6.below {A B : World} {b : Nat} {u p x i y z : Value} (h : Box6 A b u p x i y z) (k : Below A.heap.size A B) : Box6 B b u p x i y z := h.kept (kt k) trivial

set_option maxHeartbeats 1000000 in
set_option maxRecDepth 100000 in
theorem sz_scheme (c : Int) (P : List Pd) (pa : Option Addr) (pc : Nat) (k ix : Int) (nm : ByteArray) (a : Option Addr) (cap : Nat) (ks : Fo) (left : Int) (W : World) (h0 : 0 ≤ left) (h1 : left ≤ 1048576) (hnm : nm.size ≤ maxLen) (hp : PSl W W.heap.size pa pc P) (hs : ks.Sl W (fun b => b < W.heap.size) a cap) :
    Calls Try.prog 39 #[schV c pa P.length pc k ix nm a ks.len cap, .int .i64 left] W fun e W' => e = .returned (.int .i64 (szV left (pft P + (nm.size + ks.tot)))) ∧ Below W.heap.size W W' := by
  unfold schV
  have b0 := below_alloc1 W (.cells #[.int .i64 c, .slice pa P.length pc, .int .i64 k, .int .i64 ix, .string nm, .slice a ks.len cap] 61)
  have q0 := Box6.new W (.int .i64 c) (.slice pa P.length pc) (.int .i64 k) (.int .i64 ix) (.string nm) (.slice a ks.len cap) 61
  have z0 : (W.alloc (.cells #[.int .i64 c, .slice pa P.length pc, .int .i64 k, .int .i64 ix, .string nm, .slice a ks.len cap] 61)).heap.size = W.heap.size + 1 := by simp
  have HP := hide (sz_preds P left (W.alloc (.cells #[.int .i64 c, .slice pa P.length pc, .int .i64 k, .int .i64 ix, .string nm, .slice a ks.len cap] 61)) pa pc h0 h1 ((hp.below b0 (Nat.le_refl _)).mono (by omega)))
  have HS := hide (hs.below b0 (fun _ x => x))
  have HB := hide b0
  have HQ := hide q0
  have HZ := hide z0
  clear b0 q0 z0 hp hs
  by_cases h : left < (pft P : Nat)
  · have e1 : szV left (pft P) = -1 := szV_lt h
    rw [e1] at HP
    have e2 : szV left (pft P + (nm.size + ks.tot)) = -1 := szV_lt (by omega)
    rw [e2]
    clear e1 e2
    go_enter Try.func39, Try.ntmps39
    go_wp2_with fail
    refine HP.out.mono ?_
    rintro e w1 ⟨rfl, b1⟩
    go_wp2_with fail
    go_ret
    exact ⟨rfl, HB.out.trans (b1.mono (by rw [HZ.out]; omega))⟩
  · have e1 : szV left (pft P) = left - pft P := szV_ge h
    rw [e1] at HP
    obtain ⟨L1, hL1⟩ : ∃ L1, left - (pft P : Nat) = L1 := ⟨_, rfl⟩
    rw [hL1] at HP
    have hL0 : 0 ≤ L1 := by omega
    have hLm : L1 ≤ 1048576 := by omega
    have hnn : ¬ L1 < 0 := by omega
    have e2 : szV left (pft P + (nm.size + ks.tot)) = szV L1 (nm.size + ks.tot) := by
      unfold szV
      split <;> split <;> omega
    rw [e2]
    clear e1 e2 hL1
    have hst : ∀ M, szV L1 (nm.size + ks.tot) = M → True := fun _ _ => trivial
    clear hst
    by_cases h2 : L1 < ((nm.size + ks.tot : Nat) : Int)
    · have e3 : szV L1 (nm.size + ks.tot) = -1 := szV_lt h2
      go_enter Try.func39, Try.ntmps39
      go_wp2_with fail
      refine HP.out.mono ?_
      rintro e w1 ⟨rfl, b1⟩
      have hz := HZ.out
      have q1 := HQ.out.below b1
      obtain ⟨-, xu, xp, x0, xi, x1, x2, -, -, -, -, -, -⟩ := id q1
      have HC := hide (sz_node (sz_row _ ks (Nat.le_refl _)) k ix nm W.heap.size L1 w1 a cap (by have := b1.size; omega) hL0 hLm hnm (HS.out.below b1 (fun b x => by omega)))
      unfold nodeV at HC
      rw [e3] at HC
      have HB1 := hide (HB.out.trans (b1.mono (by omega)))
      have HZ1 := hide b1.size
      clear q1 b1 hz
      go_wp2_with fail
      refine HC.out.mono ?_
      rintro e w2 ⟨rfl, b2⟩
      go_wp2_with fail
      go_ret
      exact ⟨by rw [e3]; rfl, HB1.out.trans (b2.mono HB1.out.size)⟩
    · have e3 : szV L1 (nm.size + ks.tot) = L1 - (nm.size + ks.tot : Nat) := szV_ge h2
      have hn3 : ¬ szV L1 (nm.size + ks.tot) < 0 := by rw [e3]; omega
      go_enter Try.func39, Try.ntmps39
      go_wp2_with fail
      refine HP.out.mono ?_
      rintro e w1 ⟨rfl, b1⟩
      have hz := HZ.out
      have q1 := HQ.out.below b1
      obtain ⟨-, xu, xp, x0, xi, x1, x2, -, -, -, -, -, -⟩ := id q1
      have HC := hide (sz_node (sz_row _ ks (Nat.le_refl _)) k ix nm W.heap.size L1 w1 a cap (by have := b1.size; omega) hL0 hLm hnm (HS.out.below b1 (fun b x => by omega)))
      unfold nodeV at HC
      have HB1 := hide (HB.out.trans (b1.mono (by omega)))
      clear q1 b1 hz e3
      obtain ⟨M, hM⟩ : ∃ M, szV L1 (nm.size + ks.tot) = M := ⟨_, rfl⟩
      rw [hM] at HC hn3
      have HMM := hide hM
      clear hM
      go_wp2_with fail
      refine HC.out.mono ?_
      rintro e w2 ⟨rfl, b2⟩
      go_wp2_with fail
      go_ret
      exact ⟨by rw [HMM.out]; rfl, HB1.out.trans (b2.mono HB1.out.size)⟩

end Go.Proofs.Ytcnbnhoeobdbnaa
