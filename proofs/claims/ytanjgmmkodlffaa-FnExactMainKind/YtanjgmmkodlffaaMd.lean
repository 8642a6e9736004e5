import Derived.Test.YtanjgmmkodlffaaMc
namespace Go.Proofs.Ytanjgmmkodlffaa.U
open Go.RowKit Go.Joins

set_option maxHeartbeats 1000000 in
set_option maxRecDepth 100000 in
theorem m_str (V : World) : Calls Try.prog 35 #[] V fun e V' => ∃ a1 c1, e = .returned (.agg #[.int .i64 3, .int .i64 0, .string sList, .slice a1 1 c1]) ∧ Below V.heap.size V V' ∧ ∃ a2 c2, (ty4 3 0 sList a1 1 c1 (ty4 3 0 sChar a2 0 c2 .nil)).Subs V' (fun c => V.heap.size ≤ c ∧ c < V'.heap.size) := by
  obtain ⟨V1, hV1⟩ : ∃ W, V.alloc (.cells #[.int .i64 0, .int .i64 0, .string ⟨#[]⟩, .slice none 0 0] 25) = W := ⟨_, rfl⟩
  have HB1 : Hid (Below V.heap.size V V1) := by unfold Hid; rw [← hV1]; exact below_alloc1 _ _
  have HQ1 : Hid (Bx V1 V.heap.size [.int .i64 0, .int .i64 0, .string ⟨#[]⟩, .slice none 0 0]) := by unfold Hid; rw [← hV1]; exact Bx.new _ _ _
  have HZ1 : Hid (V1.heap.size = V.heap.size + 1) := by unfold Hid; rw [← hV1]; simp
  have HC1 := hide (m_l8con sChar none 0 0 .nil V1 (fun _ => False) (fun _ h => h.elim) (by omega) rfl (fun u hu => by simp [Fo.vals] at hu) ⟨⟨Nat.le_refl _, Nat.zero_le _, fun h => by simp [Fo.len] at h⟩, trivial⟩)
  have HV1 := hide hV1
  clear hV1
  go_enter Try.func35, Try.ntmps35
  go_upto_region 1 with fail
  rw [HV1.out]
  clear HV1
  go_wp2_with fail
  refine HC1.out.mono ?_
  rintro e w1 ⟨a2, c2, rfl, b1, s1⟩
  have HB2 := hide b1
  have hz1 := HZ1.out
  have hzb := b1.size
  have HC2 := hide (m_list 3 0 sChar a2 0 c2 .nil w1 (fun c => V1.heap.size < c ∧ c < w1.heap.size) (fun c h => h.2) (s1.mono (fun c h => by rcases h with h | h; exact h.elim; exact h)))
  clear b1 s1 HC1 hz1 hzb
  go_wp2_with fail
  refine HC2.out.mono ?_
  rintro e w2 ⟨a1, c1, rfl, b2, s2⟩
  have q := (HQ1.out.below HB2.out).below b2
  have m0 := q.cel 0 _ rfl
  have m1 := q.cel 1 _ rfl
  have m2 := q.cel 2 _ rfl
  have m3 := q.cel 3 _ rfl
  have l0 := q.live 0
  have l1 := q.live 1
  have l2 := q.live 2
  have l3 := q.live 3
  have HF : Hid (∀ W, Kept (fun c => c ≠ V.heap.size) w2 W → Below V.heap.size V W ∧ ∃ a2 c2, (ty4 3 0 sList a1 1 c1 (ty4 3 0 sChar a2 0 c2 .nil)).Subs W (fun c => V.heap.size ≤ c ∧ c < W.heap.size)) := fun W kW => by
    have hz1 := HZ1.out
    have z1 := HB2.out.size
    have z2 := b2.size
    have zW := kW.size
    refine ⟨Below.kept (HB1.out.trans ((HB2.out.trans (b2.mono HB2.out.size)).mono HB1.out.size)) kW (fun c hc => by omega) (Nat.le_refl _), a2, c2, ?_⟩
    have s3 : (ty4 3 0 sList a1 1 c1 (ty4 3 0 sChar a2 0 c2 .nil)).Subs w2 (fun c => V1.heap.size ≤ c ∧ c < w2.heap.size) := s2.mono (fun c h => by rcases h with h | h <;> omega)
    exact (s3.kept kW (fun c hc => ⟨by omega, hc.2⟩)).mono (fun c hc => ⟨by omega, by omega⟩)
  clear b2 s2 HC2 q
  go_wp2_with fail
  refine bodyPost_ret (v := .agg #[.int .i64 3, .int .i64 0, .string sList, .slice a1 1 c1]) (by simp [results, Try.results35, go_sem, m0, m1, m2, m3]) rfl ⟨a1, c1, rfl, HF.out _ ?_⟩
  repeat first | (with_reducible refine Kept.set ?_ (by simp)) | with_reducible exact Kept.refl _ _

theorem txt_fit (a1 : Option Addr) (c1 : Nat) (a2 : Option Addr) (c2 : Nat) : Fit E (ty4 3 0 sList a1 1 c1 (ty4 3 0 sChar a2 0 c2 .nil)) (E 1) := ⟨by decide, by decide, by decide, ⟨by decide, by decide, by decide, trivial, trivial⟩, trivial⟩
theorem txt_wt (a1 : Option Addr) (c1 : Nat) (a2 : Option Addr) (c2 : Nat) : (ty4 3 0 sList a1 1 c1 (ty4 3 0 sChar a2 0 c2 .nil)).wt = 7 := by simp [ty4, Fo.wt, textSize, sList, sChar]; decide

end Go.Proofs.Ytanjgmmkodlffaa.U
