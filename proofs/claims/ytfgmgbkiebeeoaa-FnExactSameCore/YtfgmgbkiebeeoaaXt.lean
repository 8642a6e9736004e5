import Derived.Test.YtfgmgbkiebeeoaaJJ
namespace Go.Proofs.Ytfgmgbkiebeeoaa
open Go.RowKit Go.Joins

theorem MG.below {g : Gr} {W V : World} {G nb lsb cn cm : Nat} (h : MG g W G nb lsb cn cm) (k : Below W.heap.size W V) : MG g V G nb lsb cn cm :=
  ⟨h.ok, h.pos, h.nc, (k.cell (block_lt_of_cell h.n8)).trans h.n8, (k.cell (block_lt_of_cell h.n9)).trans h.n9,
    fun i hi => ⟨(k.cell (block_lt_of_cell (h.nd i hi).1)).trans (h.nd i hi).1, (k.cell (block_lt_of_cell (h.nd i hi).2)).trans (h.nd i hi).2⟩,
    fun i hi => ⟨(k.cell (block_lt_of_cell (h.ls i hi).1)).trans (h.ls i hi).1, (k.cell (block_lt_of_cell (h.ls i hi).2)).trans (h.ls i hi).2⟩, h.lim⟩

/-- The list of one root. -/
theorem RT.make {W V : World} {lo rb : Nat} {F : Fo} (ho : Own lo W F) (hf : Fit E F (E 3)) (hw : F.wt ≤ 1048576) (hb : Below W.heap.size W V) (bx : Bx V rb F.vals) (hr : W.heap.size ≤ rb) : RT V rb F := by
  have hl : 0 < F.len := by have := Fit.len hf; rw [this]; decide
  have hin : ∀ c ∈ F.inn, c < W.heap.size := fun c hc => (ho.subs.inn_of c hc).2
  have hf1 : Fit E F (rep (E 3) 1) := hf
  have htc := (tc_wt _ F 1 (Nat.le_refl _)).1 hf1
  have hsz := hb.size
  refine ⟨hf1, ⟨⟨Nat.le_refl _, by decide, fun _ => ⟨rb, 0, rfl, bx.lt, fun i v hv => ?_, ?_⟩⟩, trivial⟩, ?_, ?_, by omega⟩
  · rw [Nat.zero_add]; exact bx.cel i v hv
  · exact (ho.subs.below hb (fun _ x => x.2)).mono (fun _ x => by have := x.2; omega)
  · simp only [Fo.inn, List.append_nil]
    rw [blk_pos hl]
    refine List.nodup_append.2 ⟨by simp, ho.nodup, fun a ha b hb2 e => ?_⟩
    have e1 : a = rb := by simpa using ha
    have := hin b hb2
    omega
  · simp only [Fo.inn, List.append_nil]
    rw [blk_pos hl]
    intro c hc j
    rcases List.mem_append.1 hc with e | e
    · have e1 : c = rb := by simpa using e
      rw [e1]; exact bx.live j
    · exact (hb.frozen (p := ⟨c, j, none⟩) (hin c e)).trans (ho.live c e j)

set_option maxHeartbeats 4000000 in
set_option maxRecDepth 100000 in
theorem i_size {F : Fo} {lo : Nat} (W : World) (hf : Fit E F (E 3)) (hw : F.wt ≤ 1048576) (ho : Own lo W F) : Calls Try.prog 8 #[.agg F.vals.toArray] W fun e W' => e = .returned (.int .i64 (tcK F : Int)) ∧ Below W.heap.size W W' := by
  have htc : tcK F ≤ 4000000 := by
    have := (tc_wt _ F 1 (Nat.le_refl _)).1 hf
    omega
  have HMK := fun V rb (hb : Below W.heap.size W V) bx hr => RT.make (rb := rb) (V := V) ho hf hw hb bx hr
  obtain ⟨T, hT⟩ : ∃ T, tcK F = T := ⟨_, rfl⟩
  obtain ⟨k, nm, mn, la, ln, lc, lk, na, nn, nc, nk, ka, kn, kc, kk, aa, an, ac, ak, e, -⟩ := core_open hf
  have hv : F.vals = [.int .i64 k, .string nm, .bool mn, .slice la ln lc, .slice na nn nc, .slice ka kn kc, .slice aa an ac] := by rw [e]; rfl
  rw [hv]
  obtain ⟨A2, hA2⟩ : ∃ A2, (W.alloc (.cells #[.int .i64 k, .string nm, .bool mn, .slice la ln lc, .slice na nn nc, .slice ka kn kc, .slice aa an ac] 36)).alloc (.cells #[.int .i64 k, .string nm, .bool mn, .slice la ln lc, .slice na nn nc, .slice ka kn kc, .slice aa an ac] 36) = A2 := ⟨_, rfl⟩
  have z2 : A2.heap.size = W.heap.size + 2 := by rw [← hA2]; simp
  have b2 : Below W.heap.size W A2 := by
    rw [← hA2]
    exact (below_alloc1 _ _).trans ((below_alloc1 _ _).mono (by simp))
  have x2 : Bx A2 (W.heap.size + 1) F.vals := by
    rw [hv, ← hA2]
    have := Bx.new (W.alloc (.cells #[.int .i64 k, .string nm, .bool mn, .slice la ln lc, .slice na nn nc, .slice ka kn kc, .slice aa an ac] 36)) [.int .i64 k, .string nm, .bool mn, .slice la ln lc, .slice na nn nc, .slice ka kn kc, .slice aa an ac] 36
    simpa using this
  obtain ⟨A3, hA3⟩ : ∃ A3, A2.alloc (.cells #[.slice (some ⟨W.heap.size + 1, 0, none⟩) 1 1] 33) = A3 := ⟨_, rfl⟩
  have k3 : Kept (fun _ => True) A2 A3 := by rw [← hA3]; exact Kept.alloc _ _ _
  have x3 : Bx A3 (W.heap.size + 2) [.slice (some ⟨W.heap.size + 1, 0, none⟩) 1 1] := by rw [← hA3, ← z2]; exact Bx.new _ _ _
  have b3 : Below W.heap.size W A3 := Below.kept b2 k3 (fun _ _ => trivial) (Nat.le_refl _)
  have HG : Hid (Calls Try.prog 20 #[.slice (some ⟨W.heap.size + 2, 0, none⟩) 1 1] A3 fun e W' => ∃ G, e = .returned (.pointer (some ⟨G, 0, none⟩)) ∧ Hid (GE A3 W' (W.heap.size + 1) F G)) := i_ground (HMK A3 _ b3 (x2.kept k3 trivial) (by omega)) (x3.cel 0 _ rfl)
  have HB3 := hide b3
  have HA2 := hide hA2
  have HA3 := hide hA3
  have HZ2 := hide z2
  have HTC := hide htc
  have HT := hide hT
  rw [hT]
  clear HMK hf hw ho htc hv e x2 x3 b2 b3 k3 hA2 hA3 z2 hT
  go_enter Try.func8, Try.ntmps8
  go_upto_region 2 with fail
  rw [HA2.out]
  go_upto_region 3 with (go_at_call 20; rw [HZ2.out, HA3.out]; refine HG.out.mono ?_; rintro e Wg ⟨G, rfl, hge⟩)
  obtain ⟨g, nb, lsb, cn, cm, mg, hfin⟩ := hge.out.size HTC.out
  obtain ⟨rb, hrb⟩ : ∃ rb, W.heap.size + 1 = rb := ⟨_, rfl⟩
  obtain ⟨nl, hnl⟩ : ∃ nl, g.nl = nl := ⟨_, rfl⟩
  rw [hrb] at hfin
  have HM : Hid (∀ V, Below Wg.heap.size Wg V → Calls Try.prog 21 #[.pointer (some ⟨G, 0, none⟩), .func (.func 22) #[] #[]] V fun e V' => ∃ lb, e = .returned (.slice (some ⟨lb, 0, none⟩) nl nl) ∧ Hid (Wg.heap.size ≤ lb ∧ (∀ l, l < nl → V'.cell? ⟨lb, l, none⟩ = some (.int .i64 (g.sL l))) ∧ Below Wg.heap.size Wg V')) := fun V hV => by
    refine (i_measure (mg.below hV)).mono ?_
    rintro e V' ⟨lb, rfl, h1, h2, h3⟩
    have := hV.size
    rw [hnl] at h2 ⊢
    exact ⟨lb, rfl, by omega, h2, hV.trans (h3.mono hV.size)⟩
  have HK : Hid (∀ V lb, Hid (Wg.heap.size ≤ lb ∧ (∀ l, l < nl → V.cell? ⟨lb, l, none⟩ = some (.int .i64 (g.sL l))) ∧ Below Wg.heap.size Wg V) → Calls Try.prog 23 #[.pointer (some ⟨G, 0, none⟩), .slice (some ⟨rb, 0, none⟩) 1 1] V fun e V' => ∃ i : Nat, e = .returned (.int .i64 (i : Int)) ∧ i < nl ∧ V'.cell? ⟨lb, i, none⟩ = some (.int .i64 (T : Int)) ∧ Hid (Below W.heap.size W V')) := fun V lb h => by
    refine (hfin V lb h.out.2.2 h.out.1 (by rw [hnl]; exact h.out.2.1)).mono ?_
    rintro e V' ⟨i, rfl, h1, h2, h3⟩
    have := HB3.out.size
    rw [HT.out] at h2
    exact ⟨i, rfl, by omega, h2, HB3.out.trans (h3.mono this)⟩
  have HLm : nl ≤ 10000000 := by rw [← hnl]; exact mg.ok.lim.1
  rw [hrb]
  clear mg hfin hge HG HB3 HA2 HA3 HZ2 HTC HT hnl
  go_wp2_with fail
  refine (HM.out _ (Below.refl _ _)).mono ?_
  rintro e W5 ⟨lb, rfl, G5⟩
  go_wp2_with fail
  refine (HK.out _ lb G5).mono ?_
  rintro e W6 ⟨i, rfl, hi, hc, G6⟩
  clear G5 HK HM
  go_wp2_with fail
  go_ret
  exact ⟨rfl, G6.out⟩
end Go.Proofs.Ytfgmgbkiebeeoaa
