import Derived.Test.YtcmelghjoapglaaFE
import Derived.Test.YtcmelghjoapglaaNT
namespace Go.Proofs.Ytcmelghjoapglaa
open Go.RowKit Go.Shelf Go.Joins

attribute [local go_sem] Oper.semAt_some

set_option maxRecDepth 100000 in
set_option maxHeartbeats 2000000 in
theorem back_seq (F : Fence) (n : Nat) (h18 : F.fn 17) (hro : F.round = none) (hn : 1 ≤ n) (rb : Nat) (S : Nat → Prop) (hrb : S rb) (vs : List Value) (b o cap : Nat) (hb : S b) (w : World) (hS : ∀ b, S b → b < w.heap.size)
    (hc : vs.length ≤ 1048576) (hbox : w.cell? ⟨rb, 0, none⟩ = some (.slice (some ⟨b, o, none⟩) vs.length cap)) (hrow : ∀ i v, vs[i]? = some v → w.cell? ⟨b, o + i, none⟩ = some v) :
    SeqS (P := Try.prog) F n 17 #[.pointer (some ⟨rb, 0, none⟩)] (fun k => #[.int .i64 ((vs.length - 1 - k : Nat) : Int), vs.getD (vs.length - 1 - k) undef]) vs.length S w := by
  intro l J Jx W hW hJ hJx hY h0
  have hboxW := (hW.cell (p := ⟨rb, 0, none⟩) (hS _ hrb)).trans hbox
  have hrowW : ∀ i v, vs[i]? = some v → W.cell? ⟨b, o + i, none⟩ = some v := fun i v h => (hW.cell (p := ⟨b, o + i, none⟩) (hS _ hb)).trans (hrow i v h)
  have hzW := hW.size
  have hSW : ∀ b, S b → b < W.heap.size := fun b h => Nat.lt_of_lt_of_le (hS b h) hzW
  refine callsIn_of_wp Try.func17 rfl h18 ?_ hro
  simp only [Try.ntmps17, List.size_toArray, List.length_cons, List.length_nil, Nat.reduceAdd, Nat.reduceSub, Array.replicate_succ, Array.replicate_zero, List.push_toArray, List.append_toArray, List.nil_append, List.cons_append]
  gi_wp2_with fail
  clear hbox hrow
  gi_loopw [3] (fun v wr => ∃ j : Nat, v = .int .i64 ((j : Int) - 1) ∧ j ≤ vs.length ∧ J (vs.length - j) (fun _ => False) wr ∧ Kept S W wr) (fun v _ => (intOf v + 1).toNat)
  case atStart => exact ⟨vs.length, rfl, Nat.le_refl _, by rw [Nat.sub_self]; exact h0, Kept.refl _ _⟩
  case round =>
    obtain ⟨j, rfl, hj, hJj, hk⟩ := hrel
    cases j with
    | zero =>
      gi_wp2_with fail
      go_end0
      exact ⟨⟨_, rfl⟩, .inl ⟨_, by simpa using hJj⟩⟩
    | succ j =>
      have e : (((j + 1 : Nat) : Int) - 1) = (j : Int) := by omega
      rw [e]
      obtain ⟨v, hv⟩ : ∃ v, vs[j]? = some v := ⟨vs[j], by simp⟩
      have hcell := (hk.cell (p := ⟨b, o + j, none⟩) (hSW _ hb) hb).trans (hrowW j v hv)
      have hbx := (hk.cell (p := ⟨rb, 0, none⟩) (hSW _ hrb) hrb).trans hboxW
      have hjl : (j : Int) < vs.length := by omega
      have hsub : vs.length - 1 - (vs.length - (j + 1)) = j := by omega
      obtain ⟨fn, tmps, assign, body, hy, hR⟩ := hY (vs.length - (j + 1)) (fun _ => False) wr (by omega) (fun _ h => h.elim) hJj
      have hget : vs.getD j undef = v := by rw [List.getD_eq_getElem?_getD, hv]; rfl
      simp only [hsub, hget] at hy
      have hnx : vs.length - (j + 1) + 1 = vs.length - j := by omega
      clear hJj
      gi_wp2_with fail
      refine hR.mono ?_
      rintro e W3 ⟨k3, (⟨rfl, hj3⟩ | ⟨rfl, hj3⟩)⟩
      · gi_wp2_with fail
        go_roundw
        case rel => exact ⟨j, by go_num, by omega, by rw [← hnx]; exact hj3, hk.trans (k3.mono (fun _ _ h => .inr h))⟩
        case measure => simp [intOf]
      · gi_wp2_with fail
        refine bodyPost_ret (results_none rfl _ _ _) rfl ?_
        exact ⟨⟨_, rfl⟩, .inr ⟨_, _, by omega, hj3⟩⟩

set_option maxHeartbeats 1000000 in
theorem back_in (F : Fence) (n : Nat) (h16 : F.fn 15) (hro : F.round = none) (v : Value) (hv : ∃ a l c, v = .slice a l c) (w : World) :
    CallsIn F n Try.prog 15 #[v] w fun e w' => e = .returned (.func (.func 17) #[] #[.pointer (some ⟨w.heap.size, 0, none⟩)]) ∧ w' = w.alloc (.cells #[v] 38) := by
  obtain ⟨a, l, c, rfl⟩ := hv
  refine callsIn_of_wp Try.func15 rfl h16 ?_ hro
  simp only [Try.ntmps15, List.size_toArray, List.length_cons, List.length_nil, Nat.reduceAdd, Nat.reduceSub, Array.replicate_succ, Array.replicate_zero, List.push_toArray, List.append_toArray, List.nil_append, List.cons_append]
  gi_wp2_with fail
  exact bodyPost_ret (results_tmp rfl _ _ _) rfl ⟨rfl, rfl⟩

end Go.Proofs.Ytcmelghjoapglaa
