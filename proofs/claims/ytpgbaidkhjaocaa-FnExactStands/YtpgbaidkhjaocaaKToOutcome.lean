import Derived.Test.YtpgbaidkhjaocaaKa
namespace Go.Proofs.Ytpgbaidkhjaocaa
open Go.RowKit Go.Joins

set_option maxHeartbeats 2000000 in
set_option maxRecDepth 100000 in
theorem to_C_Outcome (m : Nat) : ToC Try.prog E 9 [.i, .t, .t, .i] m := by
  intro F nb W hm hf hn h1 hs
  obtain ⟨x0, F0, rfl, hx0, hf⟩ := fit_i hf
  obtain ⟨x1, F1, rfl, hx1, hf⟩ := fit_t hf
  obtain ⟨x2, F2, rfl, hx2, hf⟩ := fit_t hf
  obtain ⟨x3, F3, rfl, hx3, hf⟩ := fit_i hf
  obtain rfl := fit_nil hf
  clear hs
  simp only [Fo.size] at hm
  simp only [Fo.wt, textSize] at h1
  simp only [Fo.vals]
  obtain ⟨V0, hV0⟩ : ∃ V0, ((W.alloc (.cells #[.int .i64 x0, .string x1, .string x2, .int .i64 x3] 29)).alloc (.cells #[.int .i64 0, .string ⟨#[]⟩, .string ⟨#[]⟩, .int .i64 0] 24)).alloc (.cells #[.int .i64 x0, .string x1, .string x2, .int .i64 x3] 24) = V0 := ⟨_, rfl⟩
  have b0 : Below W.heap.size W V0 := by rw [← hV0]; exact below_alloc3 _ _ _ _
  have z0 : V0.heap.size = W.heap.size + 1 + 1 + 1 := by rw [← hV0]; simp
  have q1 : Bx V0 W.heap.size [.int .i64 x0, .string x1, .string x2, .int .i64 x3] := by
    rw [← hV0]
    exact (Bx.new _ _ _).kept ((Kept.alloc (fun _ => True) _ _).trans (Kept.alloc _ _ _)) trivial
  have q2 : Bx V0 (W.heap.size + 1) [.int .i64 0, .string ⟨#[]⟩, .string ⟨#[]⟩, .int .i64 0] := by
    rw [← hV0]
    have := (Bx.new (W.alloc (.cells #[.int .i64 x0, .string x1, .string x2, .int .i64 x3] 29)) [.int .i64 0, .string ⟨#[]⟩, .string ⟨#[]⟩, .int .i64 0] 24).kept (Kept.alloc (fun _ => True) _ (.cells #[.int .i64 x0, .string x1, .string x2, .int .i64 x3] 24)) trivial
    rwa [World.size_alloc] at this
  have q3 : Bx V0 (W.heap.size + 1 + 1) [.int .i64 x0, .string x1, .string x2, .int .i64 x3] := by
    rw [← hV0]
    have := Bx.new ((W.alloc (.cells #[.int .i64 x0, .string x1, .string x2, .int .i64 x3] 29)).alloc (.cells #[.int .i64 0, .string ⟨#[]⟩, .string ⟨#[]⟩, .int .i64 0] 24)) [.int .i64 x0, .string x1, .string x2, .int .i64 x3] 24
    rwa [World.size_alloc, World.size_alloc] at this
  have HV0 := hide hV0
  clear hV0
  have HB0 := hide b0
  have HZ0 := hide z0
  have HQ10 := hide q1
  have HQ20 := hide q2
  have HQ30 := hide q3
  clear b0 z0 q1 q2 q3
  go_enter Try.func9, Try.ntmps9
  clear HV0 HQ10 HQ20 HQ30 HB0 HZ0
  go_wp2_with fail
  refine bodyPost_ret (v := .agg #[.int .i64 x0, .string x1, .string x2, .int .i64 x3]) (by simp [results, Try.results9, go_sem]) rfl ⟨(.v (.int .i64 x0) (.v (.string x1) (.v (.string x2) (.v (.int .i64 x3) .nil)))), rfl, Fo.sim.refl _, ?_, ⟨trivial, List.nodup_nil, fun _ hc => by simp [Fo.inn] at hc⟩⟩
  refine (fun (V : World) (kV : Kept (fun c => c < W.heap.size) W V) => (kV.below (fun _ hc => hc) (Nat.le_refl _) : Below W.heap.size W V)) _ ?_
  repeat first | (with_reducible refine Kept.set ?_ (by simp; try omega)) | (with_reducible refine Kept.trans ?_ (Kept.alloc _ _ _)) | with_reducible exact Kept.refl _ _

end Go.Proofs.Ytpgbaidkhjaocaa
