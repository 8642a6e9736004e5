import Derived.Test.YtacaihhlcaoheaaVb
namespace Go.Proofs.Ytacaihhlcaoheaa
open Go.RowKit Go.Joins

theorem Try.info133 : (Try.prog.info? 133).map (fun i => (i.zero, i.size, i.bytes)) = some (some (.agg #[.int .i64 0, .int .i64 0, .int .i64 0]), 3, 24) := by kernel_rfl

set_option maxHeartbeats 2000000 in
theorem i_capped (a b : Nat) (ha : a ≤ 1000000000) (hb : b ≤ 1000000000) (W : World) : Calls Try.prog 64 #[.int .i64 a, .int .i64 b] W fun e W' => e = .returned (.int .i64 ((a + b : Nat) : Int)) ∧ W' = W := by
  have h1 : ((b : Nat) : Int) ≤ 9223372036854775807 - (a : Int) := by omega
  go_enter Try.func64, Try.ntmps64
  go_wp2_with fail
  go_ret
  exact ⟨by simp, rfl⟩

set_option maxHeartbeats 2000000 in
set_option maxRecDepth 100000 in
theorem i_begin {g : Gr} {W0 : World} {lo G nb lsb B tb lb ct cl cn cm : Nat} {V : World} {T L : Nat → Int} {st : List (Nat × Nat)} {sv : Value} (c : MC g W0 lo G nb lsb B tb lb ct cl cn cm) (h : MS g W0 lo G B tb lb ct cl V T L st sv) (p : Nat) (hp : p < g.nl) (hs : st.length ≤ 10000000) :
    Calls Try.prog 43 #[.pointer (some ⟨B, 0, none⟩), .int .i64 p] V fun e V' => e = .returned (.tuple #[]) ∧ ∃ b cap, MS g W0 lo G B tb lb ct cl V' T (upd L p 9223372036854775807) ((p, 0) :: st) (.slice (some ⟨b, 0, none⟩) (st.length + 1) cap) := by
  obtain ⟨V1, hV1⟩ : ∃ V1, V.setCell ⟨lb, p, none⟩ (.int .i64 9223372036854775807) = V1 := ⟨_, rfl⟩
  have h1 : MS g W0 lo G B tb lb ct cl V1 T (upd L p 9223372036854775807) st sv := by rw [← hV1]; exact h.setL c hp _
  obtain ⟨V2, hV2⟩ : ∃ V2, V1.alloc (.cells #[.int .i64 p, .int .i64 0, .int .i64 0] 133) = V2 := ⟨_, rfl⟩
  have k2 : Kept (fun _ => True) V1 V2 := by rw [← hV2]; exact Kept.alloc _ _ _
  have h2 := h1.kept c k2
  have c0 := h.bx.cel 3 _ rfl
  have c1 := h.lr p hp
  have c2 := h.lf p
  have hpc : p < cl := by have := c.nc; omega
  have d0 := h1.bx.cel 4 _ rfl
  have HN : Hid (V2.heap[V1.heap.size]? = some (.cells #[.int .i64 p, .int .i64 0, .int .i64 0] 133)) := by unfold Hid; rw [← hV2]; exact heap_new _ _
  have HFIN : Hid (∀ b cap W', W'.ownsRow lo 133 3 (.slice (some ⟨b, 0, none⟩) (st.length + 1) cap) (st.length + 1) (g.stk st ++ [.int .i64 p, .int .i64 0, .int .i64 0]) → V2.grownBy W' sv.ownBlock → MS g W0 lo G B tb lb ct cl (W'.setCell ⟨B, 4, none⟩ (.slice (some ⟨b, 0, none⟩) (st.length + 1) cap)) T (upd L p 9223372036854775807) ((p, 0) :: st) (.slice (some ⟨b, 0, none⟩) (st.length + 1) cap) ∧ W'.cell? ⟨B, 4, none⟩ = some sv ∧ W'.frozen? ⟨B, 4, none⟩ = false) := fun b cap W' o1 o2 => by
    have k5 : Kept (fun d => d < lo) V2 W' := Kept.grown o2 (fun d e hd => by have := ownsRow_blk h2.ow d e; omega)
    have e1 : g.stk ((p, 0) :: st) = g.stk st ++ [.int .i64 p, .int .i64 0, .int .i64 0] := by rw [g.stk_cons]; rfl
    have b5 := h2.bx.kept k5 c.hB.2
    exact ⟨h2.open c k5 (st' := (p, 0) :: st) (by rw [e1]; exact o1), b5.cel 4 _ rfl, b5.live 4⟩
  have HOW := hide h2.ow
  have HZ := hide h2.hv
  have h63 : Hid (st.length + 1 ≤ maxLen ∧ (st.length + 1) * 24 ≤ 140737488355328) := ⟨by unfold maxLen; omega, by omega⟩
  have HV1 := hide hV1
  have HV2 := hide hV2
  clear hV1 hV2 h h1 h2 k2 hs
  go_enter Try.func43, Try.ntmps43
  go_upto_region 1 with fail
  rw [HV1.out]
  clear HV1 c0 c1 c2
  go_wp2_with (at_builtin; rw [HV2.out]; refine ur_stepL rfl _ _ 103 133 rfl Try.info133 Try.underlying103 rfl (by decide) lo V2 sv st.length (g.stk st) [.int .i64 p, .int .i64 0, .int .i64 0] _ _ rfl rfl HZ.out HOW.out HN.out rfl (by simp [Value.oneCell']) h63.out.1 h63.out.2 ?_; intro g7 c7 w3 hO7 hG7 _; have HA7 := hide (HFIN.out g7 c7 w3 hO7 hG7); have x1 := HA7.out.2.1; have x2 := HA7.out.2.2; clear hO7 hG7)
  exact bodyPost_end (results_none rfl _ _ _) rfl ⟨rfl, g7, c7, HA7.out.1⟩
end Go.Proofs.Ytacaihhlcaoheaa
