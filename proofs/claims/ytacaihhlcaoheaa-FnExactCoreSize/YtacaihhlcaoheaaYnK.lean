import Derived.Test.YtacaihhlcaoheaaJA
namespace Go.Proofs.Ytacaihhlcaoheaa.K
open Go.RowKit Go.Joins
variable {O : Nat → Nat}

set_option maxHeartbeats 4000000 in
set_option maxRecDepth 100000 in
/-- The number of a thing. -/
theorem i_number {lo G : Nat} {V : World} {K : List (Nat × Nat)} {mv sv : Value} {fs : Nat → Int} (h : GS O lo G V K K mv sv fs) (hn : (K.map Prod.fst).Nodup) {i j : Nat} {e : Nat × Nat} (he : K[i]? = some e) (hj : j < e.2) (hl : K.length ≤ 10000000) (hf : 0 ≤ fs i ∧ fs i ≤ 10000000) (he2 : e.2 ≤ 10000000) :
    Calls Try.prog 46 #[.pointer (some ⟨G, 0, none⟩), .pointer (some ⟨e.1, O e.1 + j * 7, none⟩)] V fun r V' => r = .returned (.int .i64 (fs i + j)) ∧ Kept (fun _ => True) V V' := by
  have hi : i < K.length := (List.getElem?_eq_some_iff.1 he).1
  obtain ⟨M, rfl, hM⟩ : ∃ M, mv = .map (some M) ∧ MP V M (ents O 0 K) := by
    rcases h.mp with ⟨h1, -⟩ | ⟨M, h1, h2, -⟩
    · rw [h1] at hi; simp at hi
    · exact ⟨M, h1, h2⟩
  have rl : (Instr.lookup 63 (.map (some M)) (.pointer (some ⟨e.1, O e.1 + j * 7, none⟩)) false).run Try.prog V = .ok (.agg #[.int .i64 i, .int .i64 j]) V := MP.hitK hM (fun p hp => by
    obtain ⟨k, e', e1, e2, -⟩ := ents_mem 0 _ p hp
    rw [e2]
    exact (h.lv e' (List.mem_of_getElem? e1)).1) (e.1, O e.1 + j * 7) (h.lv e (List.mem_of_getElem? he)).1 (ents_get hn he hj) false
  have c0 := h.gm
  have HW := hide (i_whole h i j hi hl)
  obtain ⟨b, cap, rfl, -, -, hcap⟩ := h.slice (by omega)
  have hic : i < cap := by omega
  have HFA : Hid (∀ V', Kept (fun _ => True) V V' → V'.cell? ⟨G, 1, none⟩ = some (.slice (some ⟨b, 0, none⟩) K.length cap) ∧ (V'.cell? ⟨b, i * 5, none⟩ = some (.int .i64 i) ∧ V'.cell? ⟨b, i * 5 + 1, none⟩ = some (.int .i64 0) ∧ V'.cell? ⟨b, i * 5 + 2, none⟩ = some (.int .i64 0) ∧ V'.cell? ⟨b, i * 5 + 3, none⟩ = some (.int .i64 e.2) ∧ V'.cell? ⟨b, i * 5 + 4, none⟩ = some (.int .i64 (fs i)))) := fun V' k => by
    have h' := h.kept k
    exact ⟨h'.gs, ownsRow_cell h'.ow (i * 5) _ (strs_get fs he (j := 0) rfl), ownsRow_cell h'.ow (i * 5 + 1) _ (strs_get fs he (j := 1) rfl), ownsRow_cell h'.ow (i * 5 + 2) _ (strs_get fs he (j := 2) rfl), ownsRow_cell h'.ow (i * 5 + 3) _ (strs_get fs he (j := 3) rfl), ownsRow_cell h'.ow (i * 5 + 4) _ (strs_get fs he (j := 4) rfl)⟩
  obtain ⟨n, hnn⟩ : ∃ n, K.length = n := ⟨_, rfl⟩
  rw [hnn] at HFA hi hcap
  obtain ⟨f, hff⟩ : ∃ f, fs i = f := ⟨_, rfl⟩
  rw [hff] at HFA hf ⊢
  obtain ⟨e1, e2⟩ := e
  dsimp only at rl hj he2 HFA ⊢
  have hf1 := hf.1
  have hf2 := hf.2
  have hij : (i : Int) < (n : Int) := by omega
  clear h hn he hl hM hf hff hnn
  go_enter Try.func46, Try.ntmps46
  go_upto_region 2 with (go_at_call 55; refine HW.out.mono ?_; rintro r v1 ⟨rfl, k1⟩; have K1 := hide k1; clear k1)
  obtain ⟨v2, hv2⟩ : ∃ v2, v1.alloc (.cells #[.int .i64 i, .int .i64 j] 116) = v2 := ⟨_, rfl⟩
  have K2 : Hid (Kept (fun _ => True) V v2) := by unfold Hid; rw [← hv2]; exact K1.out.trans (Kept.alloc _ _ _)
  have B2 : Hid (Bx v2 v1.heap.size [.int .i64 i, .int .i64 j]) := by unfold Hid; rw [← hv2]; exact Bx.new _ _ _
  obtain ⟨x, hx⟩ : ∃ x, v1.heap.size = x := ⟨_, rfl⟩
  rw [hv2]
  rw [hx] at B2 ⊢
  clear hv2 hx K1 c0 rl HW
  have k0 := HFA.out v2 K2.out
  have k1 := HFA.out v2.drew (K2.out.trans (Kept.drew _ _))
  have k2 := HFA.out (v2.alloc (.cells #[.int .i64 0, .int .i64 0, .int .i64 0, .int .i64 0, .int .i64 0] 122)) (K2.out.trans (Kept.alloc _ _ _))
  have k3 := HFA.out (v2.alloc (.cells #[.int .i64 0, .int .i64 0, .int .i64 0, .int .i64 0, .int .i64 0] 122)).drew ((K2.out.trans (Kept.alloc _ _ _)).trans (Kept.drew _ _))
  have x0 := B2.out.cel 0 _ rfl
  have x1 := (B2.out.kept (Kept.drew (fun _ => True) _) trivial).cel 0 _ rfl
  have x2 := (B2.out.kept (Kept.alloc (fun _ => True) v2 (.cells #[.int .i64 0, .int .i64 0, .int .i64 0, .int .i64 0, .int .i64 0] 122)) trivial).cel 0 _ rfl
  have x3 := ((B2.out.kept (Kept.alloc (fun _ => True) v2 (.cells #[.int .i64 0, .int .i64 0, .int .i64 0, .int .i64 0, .int .i64 0] 122)) trivial).kept (Kept.drew (fun _ => True) _) trivial).cel 0 _ rfl
  go_cut [6] (fun s wx => ∃ y, s = .pointer (some ⟨y, 0, none⟩) ∧ Bx wx y [.int .i64 i, .int .i64 0, .int .i64 0, .int .i64 e2, .int .i64 f] ∧ Kept (fun _ => True) v2 wx)
  case first =>
    go_region
    all_goals
      go_wp2_with fail
      go_meet
      case rel => exact ⟨_, rfl, (Bx.new _ _ _).kept (Kept.drew (fun _ => True) _) trivial, (Kept.alloc _ _ _).trans (Kept.drew _ _)⟩
  case rest =>
  obtain ⟨y, rfl, hy, hk⟩ := hcut
  rename World => v3
  have y4 := hy.cel 4 _ rfl
  have y2 := hy.cel 2 _ rfl
  have z1 := (B2.out.kept hk trivial).cel 1 _ rfl
  have HKF := hide (K2.out.trans hk)
  clear k0 k1 k2 k3 x0 x1 x2 x3 hk hy
  go_wp2_with fail
  go_ret
  exact ⟨by simp, HKF.out⟩

end Go.Proofs.Ytacaihhlcaoheaa.K
