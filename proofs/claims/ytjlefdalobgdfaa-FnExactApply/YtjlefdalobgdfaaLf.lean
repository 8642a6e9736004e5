import Derived.Test.YtjlefdalobgdfaaIp
import Derived.Test.YtjlefdalobgdfaaLawC
namespace Go.Proofs.Ytjlefdalobgdfaa
open Go.RowKit Go.Joins

theorem IR.empty (B : Nat) (w : World) (hB : B ≤ w.heap.size) : IR B (w.alloc (.cells #[] 2)) (.slice (some ⟨w.heap.size, 0, none⟩) 0 0) [] :=
  ⟨rfl, .inr ⟨w.heap.size, 0, #[], rfl, hB, heap_new w _, Nat.le_refl _, by unfold maxLen; omega, rfl, rfl⟩⟩

theorem idsOf_len (k ix : Int) (nm : ByteArray) (ks : Fo) : (idsOf k ix nm ks).length ≤ 20000 := by
  unfold idsOf
  split
  · simp
  · next h =>
    have hT : TG k ix nm ks := Classical.byContradiction fun h2 => h (by simp [fltB, h2])
    have h1 := (Fo.cons k ix nm none 0 ks .nil).fre_len []
    have h2 := hT.2
    simp only [Fo.size, List.length_nil] at h1
    omega

theorem idsOf_sim {k ix : Int} {nm : ByteArray} {F G : Fo} (h : F.sim G) : idsOf k ix nm F = idsOf k ix nm G := by
  have key : ∀ {F G : Fo}, F.sim G → ∀ L, F.fre L = G.fre L := by
    intro F
    induction F with
    | nil =>
      intro G h L
      cases G with
      | nil => rfl
      | cons _ _ _ _ _ _ _ => exact h.elim
    | cons k ix nm a cap ks r ih1 ih2 =>
      intro G h L
      cases G with
      | nil => exact h.elim
      | cons k' ix' nm' a' cap' ks' r' =>
        obtain ⟨rfl, rfl, rfl, h1, h2⟩ := h
        simp only [Fo.fre, ih1 h1 L, ih2 h2]
  unfold idsOf
  rw [fltB_sim h]
  simp only [Fo.fre, key h []]

set_option maxRecDepth 100000 in
set_option maxHeartbeats 1000000 in
/-- The model's FreeIds. -/
theorem sfree (k ix : Int) (nm : ByteArray) (a : Option Addr) (cap : Nat) (ks : Fo) (w : World) (hs : ks.Sl w (fun b => b < w.heap.size) a cap) :
    Calls Try.prog 16 #[nodeV k ix nm a ks.len cap] w fun e W' => ∃ v, e = .returned v ∧ IR w.heap.size W' v (idsOf k ix nm ks) ∧ Below w.heap.size w W' := by
  have q0 := Box4.new w (.int .i64 k) (.int .i64 ix) (.string nm) (.slice a ks.len cap) 29
  have b0 := below_alloc1 w (.cells #[.int .i64 k, .int .i64 ix, .string nm, .slice a ks.len cap] 29)
  have hz0 : (w.alloc (.cells #[.int .i64 k, .int .i64 ix, .string nm, .slice a ks.len cap] 29)).heap.size = w.heap.size + 1 := by simp
  have HF := hide (sfault k ix nm a cap ks (w.alloc (.cells #[.int .i64 k, .int .i64 ix, .string nm, .slice a ks.len cap] 29)) ((hs.below b0 (fun _ x => x)).mono (fun b x => by simp; omega)))
  unfold nodeV at HF ⊢
  have HQ := hide q0
  have HB := hide b0
  have HZ := hide hz0
  clear q0 b0 hz0
  by_cases hT : fltB k ix nm ks = true
  · rw [hT] at HF
    have hids : idsOf k ix nm ks = [] := by unfold idsOf; rw [hT]; simp
    rw [hids]
    clear hids hT
    go_enter Try.func16, Try.ntmps16
    go_wp2_with fail
    refine HF.out.mono ?_
    rintro e w1 ⟨rfl, b1⟩
    have B1 : Below w.heap.size w w1 := HB.out.trans (b1.mono (by rw [HZ.out]; omega))
    go_wp2_with fail
    go_ret
    exact ⟨_, rfl, IR.empty _ _ B1.size, B1.trans ((below_alloc1 _ _).mono B1.size)⟩
  · have hf : fltB k ix nm ks = false := by simpa using hT
    have hsz : 1 + ks.size ≤ 20000 := by
      have : TG k ix nm ks := Classical.byContradiction fun h => by simp [fltB, h] at hf
      exact this.2
    rw [hf] at HF
    have hids : idsOf k ix nm ks = (Fo.cons k ix nm a cap ks .nil).fre [] := by unfold idsOf; rw [hf]; rfl
    rw [hids]
    clear hids hT hf
    go_enter Try.func16, Try.ntmps16
    go_wp2_with fail
    refine HF.out.mono ?_
    rintro e w1 ⟨rfl, b1⟩
    have B1 : Below w.heap.size w w1 := HB.out.trans (b1.mono (by rw [HZ.out]; omega))
    have q1 := HQ.out.below b1 (by rw [HZ.out]; omega)
    obtain ⟨-, d0, di, d1, d2, -, -, -, -⟩ := id q1
    have ba := below_alloc1 w1 (.cells #[] 2)
    have hz1 := B1.size
    have HC := hide (free_node _ ks (Nat.lt_succ_self _) k ix nm w.heap.size w.heap.size (w1.alloc (.cells #[] 2)) a cap (.slice (some ⟨w1.heap.size, 0, none⟩) 0 0) [] (Nat.le_refl _) (by simp; omega) (by simp; omega) ((hs.below B1 (fun _ x => x)).below ba (fun b x => by omega)) (IR.empty _ _ hz1))
    unfold nodeV at HC
    have HBA := hide ba
    clear ba
    go_wp2_with fail
    refine HC.out.mono ?_
    rintro e w2 ⟨v', rfl, r2, k2, -⟩
    have HR := hide r2
    have HK : Hid (Below w.heap.size w w2) := (B1.trans (HBA.out.mono hz1)).trans (k2.below (fun b hb h => by have : w1.heap.size = b := Option.some.inj h; omega) (by simp; omega))
    clear r2 k2
    go_wp2_with fail
    go_ret
    exact ⟨v', rfl, HR.out, HK.out⟩

end Go.Proofs.Ytjlefdalobgdfaa
