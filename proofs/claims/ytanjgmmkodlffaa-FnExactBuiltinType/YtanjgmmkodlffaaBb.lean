import Derived.Test.YtanjgmmkodlffaaBa
import Derived.Deep.RegionLaw
namespace Go.Proofs.Ytanjgmmkodlffaa.U
open Go.RowKit Go.Joins

set_option maxHeartbeats 1000000 in
set_option maxRecDepth 100000 in
theorem i_fun0 (k ix : Int) (nm : ByteArray) (a : Option Addr) (n c : Nat) (a' : Option Addr) (c' : Nat) (V : World) :
    Calls Try.prog 26 #[.agg #[.int .i64 k, .int .i64 ix, .string nm, .slice a n c], .slice a' 0 c'] V fun e V' => e = .returned (.agg #[.int .i64 k, .int .i64 ix, .string nm, .slice a n c]) ∧ Below V.heap.size V V' := by
  have HB := hide (below_alloc2 V (.cells #[.int .i64 k, .int .i64 ix, .string nm, .slice a n c] 25) (.cells #[.int .i64 k, .int .i64 ix, .string nm, .slice a n c] 25))
  go_enter Try.func26, Try.ntmps26
  go_wp2_with fail
  refine bodyPost_ret (v := .agg #[.int .i64 k, .int .i64 ix, .string nm, .slice a n c]) (by simp [results, Try.results26, go_sem]) rfl ⟨rfl, HB.out⟩

set_option maxHeartbeats 2000000 in
set_option maxRecDepth 100000 in
theorem i_fun1 (k ix : Int) (nm : ByteArray) (a : Option Addr) (n c : Nat) (k' ix' : Int) (nm' : ByteArray) (a' : Option Addr) (n' c' : Nat) (b o : Nat) (V : World) (hb : b < V.heap.size) (hc : Cel V [.int .i64 k', .int .i64 ix', .string nm', .slice a' n' c'] b o) :
    Calls Try.prog 26 #[.agg #[.int .i64 k, .int .i64 ix, .string nm, .slice a n c],   .slice (some ⟨b, o, none⟩) 1 1] V fun e V' => ∃ g, e = .returned (.agg #[.int .i64 3, .int .i64 0, .string sArrow, .slice (some ⟨g, 0, none⟩) 2 2]) ∧ Below V.heap.size V V' ∧ V.heap.size ≤ g ∧ Bx V' g [.int .i64 k, .int .i64 ix, .string nm, .slice a n c, .int .i64 k', .int .i64 ix', .string nm', .slice a' n' c'] := by
  obtain ⟨V2, hV2⟩ : ∃ W, (V.alloc (.cells #[.int .i64 k, .int .i64 ix, .string nm, .slice a n c] 25)).alloc (.cells #[.int .i64 0, .int .i64 0, .string ⟨#[]⟩, .slice none 0 0] 25) = W := ⟨_, rfl⟩
  have kp : Kept (fun _ => True) V V2 := by rw [← hV2]; exact (Kept.alloc _ _ _).trans (Kept.alloc _ _ _)
  have HZ : Hid (V2.heap.size = V.heap.size + 1 + 1) := by unfold Hid; rw [← hV2]; simp
  have q1 : Bx V2 V.heap.size [.int .i64 k, .int .i64 ix, .string nm, .slice a n c] := by
    rw [← hV2]
    exact (Bx.new V [.int .i64 k, .int .i64 ix, .string nm, .slice a n c] 25).kept (Kept.alloc (fun _ => True) _ _) trivial
  have q2 : Bx V2 (V.heap.size + 1) [.int .i64 0, .int .i64 0, .string ⟨#[]⟩, .slice none 0 0] := by
    rw [← hV2]
    have := Bx.new (V.alloc (.cells #[.int .i64 k, .int .i64 ix, .string nm, .slice a n c] 25)) [.int .i64 0, .int .i64 0, .string ⟨#[]⟩, .slice none 0 0] 25
    rwa [World.size_alloc] at this
  have hc2 : Cel V2 [.int .i64 k', .int .i64 ix', .string nm', .slice a' n' c'] b o := fun i v hv => (kp.cell (p := ⟨b, o + i, none⟩) hb trivial).trans (hc i v hv)
  have d0 := hc2 0 _ rfl
  have d1 := hc2 1 _ rfl
  have d2 := hc2 2 _ rfl
  have d3 := hc2 3 _ rfl
  rw [Nat.add_zero] at d0
  have u0 := q1.cel 0 _ rfl
  have u1 := q1.cel 1 _ rfl
  have u2 := q1.cel 2 _ rfl
  have u3 := q1.cel 3 _ rfl
  have HQ1 := hide q1
  have HQ2 := hide q2
  have HKP := hide kp
  have HV := hide hV2
  have HC0 : Hid (∀ W, Kept (fun _ => True) V2 W → Calls Try.prog 26 #[.agg #[.int .i64 k', .int .i64 ix', .string nm', .slice a' n' c'], .slice (some ⟨b, o, none⟩) 0 0] W fun e w' => ∃ v, e = .returned v ∧ (v = .agg #[.int .i64 k', .int .i64 ix', .string nm', .slice a' n' c'] ∧ Kept (fun _ => True) V2 w')) := fun W kW => (i_fun0 k' ix' nm' a' n' c' _ _ W).mono (fun e w' h => ⟨_, h.1, rfl, kW.trans (kt h.2)⟩)
  have HC1 : Hid (∀ (g : Nat) W, Kept (fun _ => True) V2 W → Calls Try.prog 25 #[.string sArrow, .slice (some ⟨g, 0, none⟩) 2 2] W fun e w' => ∃ v, e = .returned v ∧ (v = .agg #[.int .i64 3, .int .i64 0, .string sArrow, .slice (some ⟨g, 0, none⟩) 2 2] ∧ Kept (fun _ => True) W w')) := fun g W kW => (i_named sArrow (some ⟨g, 0, none⟩) 2 2 W).mono (fun e w' h => ⟨_, h.1, rfl, kt h.2⟩)
  have HF : Hid (∀ w1 w2 W, Kept (fun _ => True) V2 w1 → Kept (fun _ => True) (w1.alloc (.cells #[.int .i64 k, .int .i64 ix, .string nm, .slice a n c, .int .i64 k', .int .i64 ix', .string nm', .slice a' n' c'] 25)) w2 → Kept (fun c => c ≠ V.heap.size + 1) w2 W → Below V.heap.size V W ∧ V.heap.size ≤ w1.heap.size ∧ Bx W w1.heap.size [.int .i64 k, .int .i64 ix, .string nm, .slice a n c, .int .i64 k', .int .i64 ix', .string nm', .slice a' n' c']) := fun w1 w2 W k1 k2 k3 => by
    have hz := HZ.out
    have z1 := k1.size
    have kk : Kept (fun _ => True) V w2 := ((HKP.out.trans k1).trans (Kept.alloc _ _ _)).trans k2
    exact ⟨Below.kept (kk.below (fun _ _ => trivial) (Nat.le_refl _)) k3 (fun c hc => by omega) (Nat.le_refl _), by omega, ((Bx.new w1 [.int .i64 k, .int .i64 ix, .string nm, .slice a n c, .int .i64 k', .int .i64 ix', .string nm', .slice a' n' c'] 25).kept k2 trivial).kept k3 (by omega)⟩
  clear hV2 kp q1 q2 hc2 hc
  go_enter Try.func26, Try.ntmps26
  go_upto_region 3 with fail
  rw [HV.out]
  clear HV
  go_region_law (first
    | (refine step_call (by rfl) 26 #[.agg #[.int .i64 k', .int .i64 ix', .string nm', .slice a' n' c'], .slice (some ⟨b, o, none⟩) 0 0] (by simp [go_sem]) _ (HC0.out _ (Kept.drew _ _)) ?_; rintro v w1 ⟨rfl, k1⟩; have HK1 := hide k1; obtain ⟨-, y, -⟩ := HQ1.out.kept k1 trivial; have u0' := y 0 _ rfl; have u1' := y 1 _ rfl; have u2' := y 2 _ rfl; have u3' := y 3 _ rfl; clear k1 y)
    | (refine step_call (by rfl) 25 #[.string sArrow, .slice (some ⟨w1.heap.size, 0, none⟩) 2 2] (by simp [go_sem, sArrow]) _ (HC1.out _ _ (HK1.out.trans (Kept.alloc _ _ _))) ?_; rintro v w2 ⟨rfl, k2⟩; have HK2 := hide k2; obtain ⟨-, y, yf⟩ := HQ2.out.kept ((HK1.out.trans (Kept.alloc _ _ _)).trans k2) trivial; have m0 := y 0 _ rfl; have m1 := y 1 _ rfl; have m2 := y 2 _ rfl; have m3 := y 3 _ rfl; have l0 := yf 0; have l1 := yf 1; have l2 := yf 2; have l3 := yf 3; clear k2 y yf))
  all_goals
    go_wp2_with fail
    refine bodyPost_ret (v := .agg #[.int .i64 3, .int .i64 0, .string sArrow, .slice (some ⟨w1.heap.size, 0, none⟩) 2 2]) (by simp [results, Try.results26, go_sem, sArrow, m0, m1, m2, m3]) rfl ⟨w1.heap.size, rfl, HF.out w1 w2 _ HK1.out HK2.out ?_⟩
    repeat first | (with_reducible refine Kept.set ?_ (by simp)) | with_reducible exact Kept.refl _ _

set_option maxHeartbeats 2000000 in
set_option maxRecDepth 100000 in
theorem i_fun2 (k ix : Int) (nm : ByteArray) (a : Option Addr) (n c : Nat) (k' ix' : Int) (nm' : ByteArray) (a' : Option Addr) (n' c' : Nat) (k2 ix2 : Int) (nm2 : ByteArray) (a2 : Option Addr) (n2 c2 : Nat) (b o : Nat) (V : World) (hb : b < V.heap.size) (hc : Cel V [.int .i64 k', .int .i64 ix', .string nm', .slice a' n' c', .int .i64 k2, .int .i64 ix2, .string nm2, .slice a2 n2 c2] b o) :
    Calls Try.prog 26 #[.agg #[.int .i64 k, .int .i64 ix, .string nm, .slice a n c],  .slice (some ⟨b, o, none⟩) 2 2] V fun e V' => ∃ g, e = .returned (.agg #[.int .i64 3, .int .i64 0, .string sArrow, .slice (some ⟨g, 0, none⟩) 2 2]) ∧ Below V.heap.size V V' ∧ ∃ g', V.heap.size ≤ g' ∧ g' < g ∧ Bx V' g [.int .i64 k, .int .i64 ix, .string nm, .slice a n c, .int .i64 3, .int .i64 0, .string sArrow, .slice (some ⟨g', 0, none⟩) 2 2] ∧ Bx V' g' [.int .i64 k', .int .i64 ix', .string nm', .slice a' n' c', .int .i64 k2, .int .i64 ix2, .string nm2, .slice a2 n2 c2] := by
  obtain ⟨V2, hV2⟩ : ∃ W, (V.alloc (.cells #[.int .i64 k, .int .i64 ix, .string nm, .slice a n c] 25)).alloc (.cells #[.int .i64 0, .int .i64 0, .string ⟨#[]⟩, .slice none 0 0] 25) = W := ⟨_, rfl⟩
  have kp : Kept (fun _ => True) V V2 := by rw [← hV2]; exact (Kept.alloc _ _ _).trans (Kept.alloc _ _ _)
  have HZ : Hid (V2.heap.size = V.heap.size + 1 + 1) := by unfold Hid; rw [← hV2]; simp
  have q1 : Bx V2 V.heap.size [.int .i64 k, .int .i64 ix, .string nm, .slice a n c] := by
    rw [← hV2]
    exact (Bx.new V [.int .i64 k, .int .i64 ix, .string nm, .slice a n c] 25).kept (Kept.alloc (fun _ => True) _ _) trivial
  have q2 : Bx V2 (V.heap.size + 1) [.int .i64 0, .int .i64 0, .string ⟨#[]⟩, .slice none 0 0] := by
    rw [← hV2]
    have := Bx.new (V.alloc (.cells #[.int .i64 k, .int .i64 ix, .string nm, .slice a n c] 25)) [.int .i64 0, .int .i64 0, .string ⟨#[]⟩, .slice none 0 0] 25
    rwa [World.size_alloc] at this
  have hc2 : Cel V2 [.int .i64 k', .int .i64 ix', .string nm', .slice a' n' c', .int .i64 k2, .int .i64 ix2, .string nm2, .slice a2 n2 c2] b o := fun i v hv => (kp.cell (p := ⟨b, o + i, none⟩) hb trivial).trans (hc i v hv)
  have d0 := hc2 0 _ rfl
  have d1 := hc2 1 _ rfl
  have d2 := hc2 2 _ rfl
  have d3 := hc2 3 _ rfl
  rw [Nat.add_zero] at d0
  have u0 := q1.cel 0 _ rfl
  have u1 := q1.cel 1 _ rfl
  have u2 := q1.cel 2 _ rfl
  have u3 := q1.cel 3 _ rfl
  have HC2 := hide hc2
  have HQ1 := hide q1
  have HQ2 := hide q2
  have HKP := hide kp
  have HV := hide hV2
  have HC0 : Hid (∀ W, Kept (fun _ => True) V2 W → Calls Try.prog 26 #[.agg #[.int .i64 k', .int .i64 ix', .string nm', .slice a' n' c'], .slice (some ⟨b, o + 4, none⟩) 1 1] W fun e w' => ∃ v, e = .returned v ∧ (∃ g', v = .agg #[.int .i64 3, .int .i64 0, .string sArrow, .slice (some ⟨g', 0, none⟩) 2 2] ∧ Kept (fun _ => True) V2 w' ∧ V2.heap.size ≤ g' ∧ Bx w' g' [.int .i64 k', .int .i64 ix', .string nm', .slice a' n' c', .int .i64 k2, .int .i64 ix2, .string nm2, .slice a2 n2 c2])) := fun W kW => (i_fun1 k' ix' nm' a' n' c' k2 ix2 nm2 a2 n2 c2 b (o + 4) W (by have := HKP.out.size; have := kW.size; omega) (fun i v hv => (kW.cell (p := ⟨b, o + 4 + i, none⟩) (by show b < _; have := HKP.out.size; omega) trivial).trans (by have h := HC2.out (i + 4) v hv; rwa [← Nat.add_assoc, Nat.add_right_comm] at h))).mono (fun e w' h => by
    obtain ⟨g', h1, h2, h3, h4⟩ := h
    exact ⟨_, h1, g', rfl, kW.trans (kt h2), by have := kW.size; omega, h4⟩)
  have HC1 : Hid (∀ (g : Nat) W, Kept (fun _ => True) V2 W → Calls Try.prog 25 #[.string sArrow, .slice (some ⟨g, 0, none⟩) 2 2] W fun e w' => ∃ v, e = .returned v ∧ (v = .agg #[.int .i64 3, .int .i64 0, .string sArrow, .slice (some ⟨g, 0, none⟩) 2 2] ∧ Kept (fun _ => True) W w')) := fun g W kW => (i_named sArrow (some ⟨g, 0, none⟩) 2 2 W).mono (fun e w' h => ⟨_, h.1, rfl, kt h.2⟩)
  have HF : Hid (∀ w1 w2 W (g' : Nat), Kept (fun _ => True) V2 w1 → V2.heap.size ≤ g' → Bx w1 g' [.int .i64 k', .int .i64 ix', .string nm', .slice a' n' c', .int .i64 k2, .int .i64 ix2, .string nm2, .slice a2 n2 c2] → Kept (fun _ => True) (w1.alloc (.cells #[.int .i64 k, .int .i64 ix, .string nm, .slice a n c, .int .i64 3, .int .i64 0, .string sArrow, .slice (some ⟨g', 0, none⟩) 2 2] 25)) w2 → Kept (fun c => c ≠ V.heap.size + 1) w2 W → Below V.heap.size V W ∧ ∃ g', V.heap.size ≤ g' ∧ g' < w1.heap.size ∧ Bx W w1.heap.size [.int .i64 k, .int .i64 ix, .string nm, .slice a n c, .int .i64 3, .int .i64 0, .string sArrow, .slice (some ⟨g', 0, none⟩) 2 2] ∧ Bx W g' [.int .i64 k', .int .i64 ix', .string nm', .slice a' n' c', .int .i64 k2, .int .i64 ix2, .string nm2, .slice a2 n2 c2]) := fun w1 w2 W g' k1 hg hx k2 k3 => by
    have hz := HZ.out
    have z1 := k1.size
    have kk : Kept (fun _ => True) V w2 := ((HKP.out.trans k1).trans (Kept.alloc _ _ _)).trans k2
    exact ⟨Below.kept (kk.below (fun _ _ => trivial) (Nat.le_refl _)) k3 (fun c hc => by omega) (Nat.le_refl _), g', by omega, hx.lt, ((Bx.new w1 [.int .i64 k, .int .i64 ix, .string nm, .slice a n c, .int .i64 3, .int .i64 0, .string sArrow, .slice (some ⟨g', 0, none⟩) 2 2] 25).kept k2 trivial).kept k3 (by omega), ((hx.kept (Kept.alloc (fun _ => True) _ _) trivial).kept k2 trivial).kept k3 (by omega)⟩
  clear hV2 kp q1 q2 hc2 hc
  go_enter Try.func26, Try.ntmps26
  go_upto_region 3 with fail
  rw [HV.out]
  clear HV
  go_region_law (first
    | (refine step_call (by rfl) 26 #[.agg #[.int .i64 k', .int .i64 ix', .string nm', .slice a' n' c'], .slice (some ⟨b, o + 4, none⟩) 1 1] (by simp [go_sem]) _ (HC0.out _ (Kept.drew _ _)) ?_; rintro v w1 ⟨g', rfl, k1, hg', hx'⟩; have HK1 := hide k1; have HG' := hide hg'; have HX' := hide hx'; clear hg' hx'; obtain ⟨-, y, -⟩ := HQ1.out.kept k1 trivial; have u0' := y 0 _ rfl; have u1' := y 1 _ rfl; have u2' := y 2 _ rfl; have u3' := y 3 _ rfl; clear k1 y)
    | (refine step_call (by rfl) 25 #[.string sArrow, .slice (some ⟨w1.heap.size, 0, none⟩) 2 2] (by simp [go_sem, sArrow]) _ (HC1.out _ _ (HK1.out.trans (Kept.alloc _ _ _))) ?_; rintro v w2 ⟨rfl, k2⟩; have HK2 := hide k2; obtain ⟨-, y, yf⟩ := HQ2.out.kept ((HK1.out.trans (Kept.alloc _ _ _)).trans k2) trivial; have m0 := y 0 _ rfl; have m1 := y 1 _ rfl; have m2 := y 2 _ rfl; have m3 := y 3 _ rfl; have l0 := yf 0; have l1 := yf 1; have l2 := yf 2; have l3 := yf 3; clear k2 y yf))
  all_goals
    go_wp2_with fail
    refine bodyPost_ret (v := .agg #[.int .i64 3, .int .i64 0, .string sArrow, .slice (some ⟨w1.heap.size, 0, none⟩) 2 2]) (by simp [results, Try.results26, go_sem, sArrow, m0, m1, m2, m3]) rfl ⟨w1.heap.size, rfl, HF.out w1 w2 _ _ HK1.out HG'.out HX'.out HK2.out ?_⟩
    repeat first | (with_reducible refine Kept.set ?_ (by simp)) | with_reducible exact Kept.refl _ _

end Go.Proofs.Ytanjgmmkodlffaa.U
