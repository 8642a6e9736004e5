import Derived.Test.YtcnbnhoeobdbnaaPt
namespace Go.Proofs.Ytcnbnhoeobdbnaa
open Go.RowKit Go.Joins

set_option maxHeartbeats 2000000 in
set_option maxRecDepth 100000 in
theorem eq_scheme (c : Int) (P : List Pd) (pa qa : Option Addr) (pc qc : Nat) (k ix : Int) (nm : ByteArray) (a b : Option Addr) (cap dap : Nat) (ks gs : Fo) (W : World) (hsim : ks.sim gs) (hp : PSl W W.heap.size pa pc P) (hq : PSl W W.heap.size qa qc P) (hs : ks.Sl W (fun b => b < W.heap.size) a cap) (ht : gs.Sl W (fun b => b < W.heap.size) b dap) :
    Calls Try.prog 34 #[schV c pa P.length pc k ix nm a ks.len cap, schV c qa P.length qc k ix nm b gs.len dap] W fun e W' => e = .returned (.bool true) ∧ Below W.heap.size W W' := by
  unfold schV
  obtain ⟨W2, hW2⟩ : ∃ W2, (W.alloc (.cells #[.int .i64 c, .slice pa P.length pc, .int .i64 k, .int .i64 ix, .string nm, .slice a ks.len cap] 51)).alloc (.cells #[.int .i64 c, .slice qa P.length qc, .int .i64 k, .int .i64 ix, .string nm, .slice b gs.len dap] 51) = W2 := ⟨_, rfl⟩
  have b2 : Below W.heap.size W W2 := by rw [← hW2]; exact below_alloc2 _ _ _
  have z2 : W2.heap.size = W.heap.size + 1 + 1 := by rw [← hW2]; simp
  have q1 : Box6 W2 W.heap.size (.int .i64 c) (.slice pa P.length pc) (.int .i64 k) (.int .i64 ix) (.string nm) (.slice a ks.len cap) := by
    rw [← hW2]
    exact (Box6.new _ _ _ _ _ _ _ _).kept (Kept.alloc (fun _ => True) _ _) trivial
  have q2 : Box6 W2 (W.heap.size + 1) (.int .i64 c) (.slice qa P.length qc) (.int .i64 k) (.int .i64 ix) (.string nm) (.slice b gs.len dap) := by
    rw [← hW2]
    have := Box6.new (W.alloc (.cells #[.int .i64 c, .slice pa P.length pc, .int .i64 k, .int .i64 ix, .string nm, .slice a ks.len cap] 51)) (.int .i64 c) (.slice qa P.length qc) (.int .i64 k) (.int .i64 ix) (.string nm) (.slice b gs.len dap) 51
    rwa [World.size_alloc] at this
  have HP := hide (eq_preds P W2 pa qa pc qc ((hp.below b2 (Nat.le_refl _)).mono (by omega)) ((hq.below b2 (Nat.le_refl _)).mono (by omega)))
  have HB := hide b2
  have HZ := hide z2
  have HQ1 := hide q1
  have HQ2 := hide q2
  have HS := hide (hs.below b2 (fun _ x => x))
  have HT := hide (ht.below b2 (fun _ x => x))
  clear b2 z2 q1 q2 hp hq hs ht
  go_enter Try.func34, Try.ntmps34
  go_upto_region 1 with fail
  clear hW2
  obtain ⟨-, xu, xp, x0, xi, x1, x2, -, -, -, -, -, -⟩ := HQ1.out
  obtain ⟨-, yu, yp, y0, yi, y1, y2, -, -, -, -, -, -⟩ := HQ2.out
  go_wp2_with fail
  refine HP.out.mono ?_
  rintro e w1 ⟨rfl, b1⟩
  have q1 := HQ1.out.below b1
  have q2 := HQ2.out.below b1
  have hz := HZ.out
  have z1 := b1.size
  have HE := eq_node (eq_row _ ks (Nat.lt_succ_self _)) k ix nm gs w1.heap.size w1 a b cap dap (Nat.le_refl _) hsim ((HS.out.below b1 (fun c x => by omega)).mono (fun c x => by omega)) ((HT.out.below b1 (fun c x => by omega)).mono (fun c x => by omega))
  unfold nodeV at HE
  have HE' := hide HE
  have HB1 := hide (HB.out.trans (b1.mono (by omega)))
  clear xu xp x0 xi x1 x2 yu yp y0 yi y1 y2 HE b1 hz z1
  obtain ⟨-, xu, xp, x0, xi, x1, x2, -, -, -, -, -, -⟩ := q1
  obtain ⟨-, yu, yp, y0, yi, y1, y2, -, -, -, -, -, -⟩ := q2
  go_wp2_with fail
  refine HE'.out.mono ?_
  rintro e w2 ⟨rfl, b2⟩
  have HB2 := hide (HB1.out.trans (b2.mono HB1.out.size))
  clear b2
  go_wp2_with fail
  go_ret
  exact ⟨rfl, HB2.out⟩

set_option maxHeartbeats 2000000 in
set_option maxRecDepth 100000 in
theorem mark_scheme (c : Int) (pn g K : Nat) (k ix : Int) (nm : ByteArray) (b : Nat) (G : Fo) (W : World) (hR : Room W g (pn * 2)) (hg : g < W.heap.size) (hpn : pn ≤ 1048576) (hK0 : 0 < K) (hK : K + 2 * pn + 3 * G.size ≤ 4294967296) (hs : G.Sl W (fun c => c < W.heap.size) (some ⟨b, 0, none⟩) G.len)
    (hnd : (blk (some ⟨b, 0, none⟩) G.len ++ G.inn).Nodup) (hl : Live W (blk (some ⟨b, 0, none⟩) G.len ++ G.inn)) (hne : g ∉ blk (some ⟨b, 0, none⟩) G.len ++ G.inn) :
    Calls Try.prog 37 #[schV c (some ⟨g, 0, none⟩) pn pn k ix nm (some ⟨b, 0, none⟩) G.len G.len, .int .i64 (K : Int)] W fun e W' => e = .returned (.int .i64 ((K + 2 * pn + 3 * G.size : Nat) : Int)) ∧ Kept (fun c => c ≠ g ∧ c ∉ blk (some ⟨b, 0, none⟩) G.len ++ G.inn) W W' := by
  unfold schV
  obtain ⟨W1, hW1⟩ : ∃ W1, W.alloc (.cells #[.int .i64 c, .slice (some ⟨g, 0, none⟩) pn pn, .int .i64 k, .int .i64 ix, .string nm, .slice (some ⟨b, 0, none⟩) G.len G.len] 51) = W1 := ⟨_, rfl⟩
  have kA : Kept (fun _ => True) W W1 := by rw [← hW1]; exact Kept.alloc _ _ _
  have z1 : W1.heap.size = W.heap.size + 1 := by rw [← hW1]; simp
  have q1 : Box6 W1 W.heap.size (.int .i64 c) (.slice (some ⟨g, 0, none⟩) pn pn) (.int .i64 k) (.int .i64 ix) (.string nm) (.slice (some ⟨b, 0, none⟩) G.len G.len) := by rw [← hW1]; exact Box6.new _ _ _ _ _ _ _ _
  have hall := hs.all_of
  have HM := hide (mark_preds g pn K W1 (hR.kept kA trivial hg) (by omega) hpn (by omega) hK0)
  have hne2 : ∀ x, x ∈ blk (some ⟨b, 0, none⟩) G.len ++ G.inn → x ≠ g := fun x hx e => hne (e ▸ hx)
  have HMT : Hid (∀ w2, Kept (fun c => c ≠ g) W1 w2 → Calls Try.prog 19 #[.agg #[.int .i64 k, .int .i64 ix, .string nm, .slice (some ⟨b, 0, none⟩) G.len G.len], .int .i64 ((K + 2 * pn : Nat) : Int)] w2 fun e W' => e = .returned (.int .i64 ((K + 2 * pn + 3 * G.size : Nat) : Int)) ∧ Kept (fun c => c ∉ blk (some ⟨b, 0, none⟩) G.len ++ G.inn) w2 W') := fun w2 k2 => by
    have z2 := k2.size
    have h1 := mark_type k ix nm (some ⟨b, 0, none⟩) G.len (K + 2 * pn) G w2 (by omega) ((hs.own.kept kA (fun c hc => ⟨trivial, hall c hc⟩)).keep (fun c hc => by have := hall c hc; omega) (fun p hp v hv => (k2.cell (p := p) (by have := hall _ hp; omega) (hne2 _ hp)).trans hv)) hnd ((hl.kept kA (fun c hc => ⟨trivial, hall c hc⟩)).kept k2 (fun c hc => ⟨hne2 c hc, by have := hall c hc; omega⟩))
    unfold nodeV at h1
    exact h1
  obtain ⟨K1, hK1⟩ : ∃ K1 : Nat, K + 2 * pn = K1 := ⟨_, rfl⟩
  obtain ⟨K2, hK2⟩ : ∃ K2 : Nat, K + 2 * pn + 3 * G.size = K2 := ⟨_, rfl⟩
  rw [hK2] at HMT ⊢
  rw [hK1] at HM HMT
  have HKA := hide kA
  have HQ1 := hide q1
  have HZ := hide z1
  clear kA q1 z1 hall hR hs hnd hl hne hne2 hK1 hK2 hK
  go_enter Try.func37, Try.ntmps37
  go_upto_region 1 with fail
  clear hW1
  obtain ⟨-, xu, xp, x0, xi, x1, x2, -, -, -, -, -, -⟩ := HQ1.out
  go_wp2_with fail
  refine HM.out.mono ?_
  rintro e w2 ⟨rfl, k2⟩
  have q2 := HQ1.out.kept k2 (by omega)
  have HC := hide (HMT.out w2 k2)
  have HK2 := hide k2
  clear k2 xu xp x0 xi x1 x2
  obtain ⟨-, xu, xp, x0, xi, x1, x2, -, -, -, -, -, -⟩ := q2
  go_wp2_with fail
  refine HC.out.mono ?_
  rintro e w3 ⟨rfl, k3⟩
  have HK3 := hide k3
  clear k3
  go_wp2_with fail
  go_ret
  exact ⟨rfl, ((HKA.out.mono (fun _ _ _ => trivial)).trans (HK2.out.mono (fun c _ h => h.1))).trans (HK3.out.mono (fun c _ h => h.2))⟩

end Go.Proofs.Ytcnbnhoeobdbnaa
