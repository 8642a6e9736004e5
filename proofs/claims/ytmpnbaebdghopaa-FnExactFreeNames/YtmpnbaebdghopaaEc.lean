import Derived.Test.YtmpnbaebdghopaaEb
namespace Go.Proofs.Ytmpnbaebdghopaa
open Go.RowKit Go.Joins

/-- What FreeNames begins with. -/
theorem FS.start (w : World) (B0 : Nat) (hB : B0 ≤ w.heap.size) : FS B0 (w.heap.size + 2) w.heap.size (w.heap.size + 1) (fun _ => 0) [] 0 none (((w.alloc (.map #[] 0)).alloc (.map #[] 0)).alloc (.cells #[.map (some w.heap.size), .map (some (w.heap.size + 1)), .slice none 0 0] 78)) := by
  obtain ⟨w1, h1⟩ : ∃ V, w.alloc (.map #[] 0) = V := ⟨_, rfl⟩
  have z1 : w1.heap.size = w.heap.size + 1 := by rw [← h1]; simp
  have m1 := HM.start w
  rw [h1] at m1
  obtain ⟨w2, h2⟩ : ∃ V, w1.alloc (.map #[] 0) = V := ⟨_, rfl⟩
  have z2 : w2.heap.size = w.heap.size + 2 := by rw [← h2]; simp [z1]
  have m2 := NM.start w1
  have b2 : Below w1.heap.size w1 w2 := by rw [← h2]; exact below_alloc1 _ _
  rw [h2, z1] at m2
  rw [h1, h2]
  have b3 : Below w2.heap.size w2 (w2.alloc (.cells #[.map (some w.heap.size), .map (some (w.heap.size + 1)), .slice none 0 0] 78)) := below_alloc1 _ _
  have q3 : Bx (w2.alloc (.cells #[.map (some w.heap.size), .map (some (w.heap.size + 1)), .slice none 0 0] 78)) w2.heap.size [.map (some w.heap.size), .map (some (w.heap.size + 1)), .slice none 0 0] := Bx.new _ _ _
  rw [z2] at q3
  refine ⟨q3.cel 0 _ rfl, q3.cel 1 _ rfl, ⟨none, 0, q3.cel 2 _ rfl, ⟨rfl, .inl ⟨rfl, rfl⟩⟩, rfl⟩, q3.live 2, (m1.below b2 (by omega)).below b3 (by omega), m2.below b3 (by omega), ⟨by omega, by omega, by omega, by simp, by simp, by simp⟩, by omega, by omega, by omega⟩

set_option maxHeartbeats 4000000 in
set_option maxRecDepth 100000 in
theorem i_free (F : Fo) (W : World) (hf : Fit E F (E 3)) (hwt : F.wt ≤ 1048576) (hs : F.Subs W (fun c => c < W.heap.size)) :
    Calls Try.prog 15 #[.agg F.vals.toArray] W (FnP (rdK F) W) := by
  have hsz := (Fit.bounds E_len F (E 3) hf).2.2
  have hfl : F.len = 7 := Fit.len hf
  have hmm := @run_makeMap Try.prog
  obtain ⟨V0, hV0⟩ : ∃ V, W.alloc (.cells F.vals.toArray 36) = V := ⟨_, rfl⟩
  have b0 : Below W.heap.size W V0 := by rw [← hV0]; exact below_alloc1 _ _
  have z0 : V0.heap.size = W.heap.size + 1 := by rw [← hV0]; simp
  have q0 : Bx V0 W.heap.size F.vals := by rw [← hV0]; exact Bx.new _ _ _
  have hlt : ∀ c, c < W.heap.size → c < V0.heap.size := fun c hc => Nat.lt_of_lt_of_le hc b0.size
  have HC1 := hide (callsIn_wide.1 (fault_in 5 (Nat.le_refl _) F V0 hf ((hs.below b0 (fun c hc => hc)).mono hlt) (by omega)))
  -- the finder, behind a term without fault
  have HC2 : Hid (∀ w1, Below V0.heap.size V0 w1 → okC (rdK F) → Calls Try.prog 43 #[.pointer (some ⟨w1.heap.size + 1 + 1, 0, none⟩), .pointer (some ⟨W.heap.size, 0, none⟩)] (((w1.alloc (.map #[] 0)).alloc (.map #[] 0)).alloc (.cells #[.map (some w1.heap.size), .map (some (w1.heap.size + 1)), .slice none 0 0] 78)) fun e W' => (∃ v, e = .returned v) ∧ ∃ a c, W'.cell? ⟨w1.heap.size + 1 + 1, 2, none⟩ = some (.slice a (freeN (rdK F)).length c) ∧ FnP (rdK F) W (.returned (.slice a (freeN (rdK F)).length c)) W') := fun w1 b1 hok => by
    have hfs := FS.start w1 w1.heap.size (Nat.le_refl _)
    obtain ⟨V3, hV3⟩ : ∃ V, ((w1.alloc (.map #[] 0)).alloc (.map #[] 0)).alloc (.cells #[.map (some w1.heap.size), .map (some (w1.heap.size + 1)), .slice none 0 0] 78) = V := ⟨_, rfl⟩
    have b3 : Below w1.heap.size w1 V3 := by
      rw [← hV3]
      exact (below_alloc2 w1 _ _).trans ((below_alloc1 _ _).mono (by simp; omega))
    rw [hV3] at hfs ⊢
    have z1 := b1.size
    have q3 := (q0.below b1).below b3
    have hok3 : Nd.Ok V3 (fun b => b < w1.heap.size) ⟨W.heap.size, 0, F⟩ := by
      refine ⟨hf, fun i v hv => by simpa using q3.cel i v hv, ?_, by show W.heap.size < _; omega⟩
      exact (((hs.below b0 (fun c hc => hc)).below b1 hlt).below b3 (fun c hc => by omega)).mono (fun c hc => by show c < _; omega)
    have hC := lk_all F.size w1.heap.size (w1.heap.size + 2) w1.heap.size (w1.heap.size + 1) (fun _ => 0) [] [] 0 0 none ⟨W.heap.size, 0, F⟩ V3 ⟨Nat.le_refl _, hwt⟩ (by simp only [List.length_nil]; omega) (by show 0 + F.size ≤ _; omega) (by show 0 + 4 * F.size ≤ _; omega) hok3 hok.2 hfs (fun t => ⟨Int.le_refl _, Int.le_refl _⟩) (fun t _ => by simp)
    refine hC.mono ?_
    rintro e W' ⟨hv, ⟨n1, o1, -, -, hs1⟩, hk⟩
    have e1 : freeN (rdK F) = adds [] ((rdK F).occ [] []).flatten := by
      unfold freeN
      rw [if_pos hok]
    obtain ⟨a, c, g1, g2, -⟩ := hs1.c2
    refine ⟨hv, a, c, by rw [e1]; exact g1, ?_⟩
    unfold FnP
    rw [e1]
    refine ⟨a, c, rfl, own_up g2 (fun g hg => ?_), ?_⟩
    · have := (World.ownsRow.lt g2 g hg).1
      omega
    · have bw : Below W.heap.size W V3 := (b0.trans (b1.mono b0.size)).trans (b3.mono (by omega))
      exact Below.kept bw hk (fun c hc => hfs.off (by omega)) (Nat.le_refl _)
  have HNO : Hid (∀ w1, Below V0.heap.size V0 w1 → ¬ okC (rdK F) → FnP (rdK F) W (.returned (.slice none 0 0)) w1) := fun w1 b1 hno => by
    have e1 : freeN (rdK F) = [] := by
      unfold freeN
      rw [if_neg hno]
    unfold FnP
    rw [e1]
    exact ⟨none, 0, rfl, ⟨rfl, .inl ⟨rfl, rfl⟩⟩, b0.trans (b1.mono b0.size)⟩
  obtain ⟨k, nm, mn, la, ln, lc, lk, na, nn, nc, nk, ka, kn, kc, kk, aa, an, ac, ak, hxe, -⟩ := core_open hf
  obtain ⟨T, hT⟩ : ∃ T, rdK F = T := ⟨_, rfl⟩
  rw [hT] at HC1 HC2 HNO ⊢
  rw [hxe] at hV0 q0 HC1 ⊢
  simp only [Fo.vals] at hV0 q0 HC1 ⊢
  have c0 := q0.cel 0 _ rfl
  have c1 := q0.cel 1 _ rfl
  have c2 := q0.cel 2 _ rfl
  have c3 := q0.cel 3 _ rfl
  have c4 := q0.cel 4 _ rfl
  have c5 := q0.cel 5 _ rfl
  have c6 := q0.cel 6 _ rfl
  have HV0 := hide hV0
  clear hV0 b0 q0 hf hwt hs hxe hT hlt z0 hsz hfl
  go_enter Try.func15, Try.ntmps15
  go_upto_region 1 with fail
  rw [HV0.out]
  clear HV0
  go_wp2_with fail
  refine HC1.out.mono ?_
  clear HC1 c0 c1 c2 c3 c4 c5 c6
  rintro e w1 ⟨cd, rfl, hcd, b1⟩
  have HB1 := hide b1
  by_cases h0 : cd = 0
  · have HOK : Hid (okC T) := hcd.1 h0
    subst h0
    have HC3 := hide (HC2.out w1 b1 HOK.out)
    clear hcd b1 HC2 HNO
    go_wp2_with fail
    refine HC3.out.mono ?_
    clear HC3
    rintro e w2 ⟨⟨v, rfl⟩, a, c, hce, hfn⟩
    have HFR := hide hfn
    obtain ⟨l, hl⟩ : ∃ l, (freeN T).length = l := ⟨_, rfl⟩
    rw [hl] at hce HFR
    clear hfn hl
    go_wp2_with fail
    go_ret
    exact HFR.out
  · have h0' : (cd != 0) = true := by rw [bne_iff_ne]; exact h0
    have HFR := hide (HNO.out w1 b1 (fun h => h0 (hcd.2 h)))
    clear hcd b1 HC2 HNO
    go_wp2_with fail
    go_ret
    exact HFR.out

end Go.Proofs.Ytmpnbaebdghopaa
