import Derived.Test.YtcflciblcdabpaaFq
namespace Go.Proofs.Ytcflciblcdabpaa
open Go.RowKit Go.Joins

set_option maxHeartbeats 2000000 in
set_option maxRecDepth 100000 in
/-- A row of types that lies in blocks of its own is copied into new memory. -/
theorem i_copies (a : Option Addr) (n c : Nat) (R : Fo) (W : World) (hf : Fit E R (rep (E 2) n)) (hs : R.Sub W (fun d => d < W.heap.size) a n c) (hd : (blk a R.len ++ R.inn).Nodup) (hl : Live W (blk a R.len ++ R.inn)) (hwt : n + R.wt ≤ 1048576) :
    Calls Try.prog 27 #[.slice a n c] W fun e W' => ∃ a' c' R', e = .returned (.slice a' n c') ∧ R'.sim R ∧ Own W.heap.size W' (.s a' n c' R' .nil) ∧ Below W.heap.size W W' := by
  obtain ⟨hlen, htc⟩ := ty_len _ _ hf
  have htin := ty_wt R n hf
  have hsub : (Fo.s a n c R .nil).Subs W (fun d => d < W.heap.size) := ⟨hs, trivial⟩
  obtain ⟨O, L, hat⟩ := at_ex (Fo.s a n c R .nil) hsub (by simpa [Fo.inn] using hd)
  have hlv : ∀ d ∈ blk a R.len ++ R.inn, LiveB W d := fun d hd' => live_of (Fo.s a n c R .nil) hsub (by simpa [Fo.inn] using hl) d (by simpa [Fo.inn] using hd')
  have hblt : ∀ d ∈ blk a R.len ++ R.inn, d < W.heap.size := fun d hd' => hsub.inn_of d (by simpa [Fo.inn] using hd')
  have hm1 := run_makeMap115 W
  obtain ⟨V1, hV1⟩ : ∃ V, W.alloc (.map #[] 0) = V := ⟨_, rfl⟩
  have mk1 : MK O L V1 W.heap.size [] := by rw [← hV1]; exact MK.start O L W
  have k1 : Kept (fun _ => True) W V1 := by rw [← hV1]; exact Kept.alloc _ _ _
  rw [hV1] at hm1
  obtain ⟨V2, hpt, mk2, hg2⟩ := mk1.put5 (fun p hp => absurd hp List.not_mem_nil) none trivial (.int .i64 0)
  have k2 : Kept (fun d => d ≠ W.heap.size) V1 V2 := Kept.grown hg2 (fun b e h => h (Option.some.inj e).symm)
  have hm2 := run_makeMap116 V2
  obtain ⟨V3, hV3⟩ : ∃ V, V2.alloc (.map #[] 0) = V := ⟨_, rfl⟩
  have mk3 : MK O L V3 V2.heap.size [] := by rw [← hV3]; exact MK.start O L V2
  have k3 : Kept (fun _ => True) V2 V3 := by rw [← hV3]; exact Kept.alloc _ _ _
  rw [hV3] at hm2
  obtain ⟨V4, hV4⟩ : ∃ V, V3.alloc (.cells #[.map (some W.heap.size), .map (some V2.heap.size), .int .i64 0] 118) = V := ⟨_, rfl⟩
  have k4 : Kept (fun _ => True) V3 V4 := by rw [← hV4]; exact Kept.alloc _ _ _
  have bx4 : Bx V4 V3.heap.size [.map (some W.heap.size), .map (some V2.heap.size), .int .i64 0] := by rw [← hV4]; exact Bx.new _ _ _
  have z1 := mk1.lt
  have z2 := k2.size
  have z3 := mk3.lt
  have z4 := bx4.lt
  have zz1 := k1.size
  have kW4 : Kept (fun d => d < W.heap.size) W V4 := (k1.mono (fun _ _ _ => trivial)).trans ((k2.mono (fun d _ hd => by omega)).trans ((k3.mono (fun _ _ _ => trivial)).trans (k4.mono (fun _ _ _ => trivial))))
  have mk4 : MK O L V4 W.heap.size [(none, .int .i64 0)] := (mk2.kept k3 trivial).kept k4 trivial
  have mk24 := mk3.kept k4 trivial
  have hS4 : R.Sub V4 (SM V4 V3.heap.size W.heap.size) a n c := (hs.kept kW4 (fun d hd => ⟨hd, hd⟩)).mono (fun d hd => ⟨by omega, by omega, by omega⟩)
  have hlv4 : ∀ d ∈ blk a R.len ++ R.inn, LiveB V4 d := fun d hd' => (hlv d hd').kept kW4 (hblt d hd') (hblt d hd')
  have hmeas := i_measure O L V3.heap.size W.heap.size V2.heap.size 0 a n c R V4 bx4 mk4 ⟨z4, by omega, by omega⟩ hf hS4 hat.2.1 hat.1 hlv4 hd (by omega)
  have HCP : Hid (∀ W5 kv room, MF V4 W5 V3.heap.size W.heap.size V2.heap.size O L (keyOf a n) R.tc kv room → Calls Try.prog 53 #[.pointer (some ⟨V3.heap.size, 0, none⟩), .slice a n c] W5 fun e W' => ∃ a' c' R', e = .returned (.slice a' n c') ∧ R'.sim R ∧ Own W.heap.size W' (.s a' n c' R' .nil) ∧ Below W.heap.size W W') := fun W5 kv room h => by
    have z5 := h.kp.size
    have kWS : Kept (fun d => d < W.heap.size) V4 W5 := h.kp.mono (fun d _ hd => ⟨by omega, by omega, by omega⟩)
    have kW5 : Kept (fun d => d < W.heap.size) W W5 := kW4.trans kWS
    have hx : ∀ b, keyOf a n = some b → SC W5 V3.heap.size b ∧ LiveB W5 b := fun b e => by
      have hn : 0 < n := by
        by_cases h0 : n = 0
        · simp [keyOf, h0] at e
        · omega
      obtain ⟨b', e1, e2, -⟩ := key_some hlen hat.1 hn
      rw [e] at e1
      have e3 : b = b' := Option.some.inj e1
      subst e3
      have hb : b ∈ blk a R.len ++ R.inn := by rw [e2]; simp
      have := hblt b hb
      exact ⟨⟨by omega, by omega⟩, (hlv b hb).kept kW5 (hblt b hb) (hblt b hb)⟩
    have hr1 := h.r1
    have hr2 := h.r2
    have hle := h.le
    refine (i_copied O L V3.heap.size W.heap.size V2.heap.size kv room a n c R W5 h.bx h.mp (mk24.kept h.kp ⟨by omega, by omega, by omega⟩) ⟨by omega, by omega, by omega⟩ (fun p hp b e => ?_) hx (whr_key hlen hat.1) h.gt h.le ⟨hr1, by omega⟩ hf ((hs.kept kW5 (fun d hd => ⟨hd, hd⟩)).mono (fun d hd => ⟨by omega, by omega⟩)) (by omega)).mono ?_
    · obtain ⟨q1, q2⟩ := h.kl p hp b e
      exact ⟨⟨by have := q1.1; omega, q1.2.1⟩, q2.kept h.kp q1.1 q1⟩
    · rintro e W' ⟨a', c', R', rfl, g1, g2, g3⟩
      exact ⟨a', c', R', rfl, g1, g2.mono (by omega), ((kW5.trans (g3.mono (fun d _ hd => ⟨by omega, by omega⟩)))).below (fun _ h => h) (Nat.le_refl _)⟩
  have HME := hide hmeas
  have HV4 := hide hV4
  clear hmeas hV4 hf hs hd hl hsub hat hlv hblt mk1 k1 mk2 hg2 k2 mk3 k3 k4 bx4 kW4 mk4 mk24 hS4 hlv4 hlen htc htin hV1 hV3 z1 z2 z3 z4 zz1
  have hpt' : (Instr.mapUpdate 115 (.map (some W.heap.size)) (.agg #[.pointer none, .int .i64 0]) (.int .i64 0)).run Try.prog V1 = .ok () V2 := hpt
  clear hpt
  go_enter Try.func27, Try.ntmps27
  go_upto_region 2 with fail
  rw [HV4.out]
  clear HV4
  go_wp2_with fail
  refine HME.out.mono ?_
  rintro e W5 ⟨rfl, kv, room, hMF⟩
  have HC := hide (HCP.out W5 kv room hMF)
  clear hMF HCP HME
  go_wp2_with fail
  refine HC.out.mono ?_
  rintro e W' ⟨a', c', R', rfl, g1, g2, g3⟩
  have HG : Hid (R'.sim R ∧ Own W.heap.size W' (.s a' n c' R' .nil) ∧ Below W.heap.size W W') := ⟨g1, g2, g3⟩
  clear g1 g2 g3 HC
  go_wp2_with fail
  go_ret
  exact ⟨a', c', R', rfl, HG.out⟩

end Go.Proofs.Ytcflciblcdabpaa

namespace Go.Proofs.Ytcflciblcdabpaa
open Go.RowKit Go.Joins

theorem findC_inn (c : ByteArray) : ∀ (n : Nat) (K : Fo), Fit E K (rep (E 3) n) → (findC c K).inn.Sublist K.inn
  | 0, K, h => by
    obtain rfl := fit_nil h
    simp [findC, zeroC, Fo.inn, blk]
  | n + 1, K, h => by
    replace h : Fit E K ([.t, .t, .i, .i, .s 2] ++ rep (E 3) n) := h
    obtain ⟨x0, F0, rfl, -, h⟩ := fit_t h
    obtain ⟨x1, F1, rfl, -, h⟩ := fit_t h
    obtain ⟨x2, F2, rfl, -, h⟩ := fit_i h
    obtain ⟨x3, F3, rfl, -, h⟩ := fit_i h
    obtain ⟨a, m, cp, ks, r, rfl, -, h⟩ := fit_s h
    simp only [findC]
    split
    · simp only [Fo.inn, List.append_nil]
      exact List.sublist_append_left _ _
    · simp only [Fo.inn]
      exact (findC_inn c n r h).trans (List.sublist_append_right _ _)

theorem Rd.head {E : Nat → List Fld} {fs : List Fld} {n n0 i : Nat} {a : Option Addr} {x q : Fo} {wr : World} (h : Rd E fs n n0 a i (x.app q) wr) (hl : 0 < x.len) :
    ∃ (b o : Nat), a = some ⟨b, o, none⟩ ∧ b < n0 ∧ Cel wr x.vals b (o + i * fs.length) ∧ x.Subs wr (fun c => c < n0) := by
  obtain ⟨b, o, e, s, c, u⟩ := h.at_ (by rw [Fo.app_len]; omega)
  rw [Fo.app_vals] at c
  exact ⟨b, o, e, s, c.left, u.left⟩

set_option maxHeartbeats 2000000 in
set_option maxRecDepth 100000 in
theorem i_FindCon (F : Fo) (c : ByteArray) (lo : Nat) (W : World) (hf : Fit E F tabs) (hwt : F.wt ≤ 1048576) (ho : Own lo W F) :
    Calls Try.prog 7 #[.agg F.vals.toArray, .string c] W fun e W' => ∃ R : Fo, e = .returned (.agg R.vals.toArray) ∧ R.sim (findCT c F) ∧ Below W.heap.size W W' ∧ Own W.heap.size W' R := by
  obtain ⟨a0, n0, c0, k0, F0, rfl, hf0, hf⟩ := fit_s hf
  obtain ⟨a1, n1, c1, k1, F1, rfl, -, hf⟩ := fit_s hf
  obtain ⟨a2, n2, c2, k2, F2, rfl, -, hf⟩ := fit_s hf
  obtain ⟨a3, n3, c3, k3, F3, rfl, -, hf⟩ := fit_s hf
  obtain ⟨a4, n4, c4, k4, F4, rfl, -, hf⟩ := fit_s hf
  obtain rfl := fit_nil hf
  have hs0 : Fo.Sub W (fun c => c < W.heap.size) a0 n0 c0 k0 := (ho.subs.mono (fun _ x => x.2)).1
  have hnd0 : k0.inn.Nodup := by
    have h := ho.nodup
    simp only [Fo.inn] at h
    exact (List.nodup_append.1 (List.nodup_append.1 h).1).2.1
  have hlv0 : Live W k0.inn := ho.live.sub (fun d hd => by simp only [Fo.inn, List.mem_append]; exact .inl (.inr hd))
  have hlt0 : ∀ d ∈ k0.inn, d < W.heap.size := fun d hd => (ho.subs.inn_of d (by simp only [Fo.inn, List.mem_append]; exact .inl (.inr hd))).2
  simp only [Fo.wt] at hwt
  simp only [Fo.vals, findCT]
  have hmx : n0 ≤ 9223372036854775807 := by omega
  have hwt0 : k0.wt ≤ 1048576 := by omega
  obtain ⟨V0, hV0⟩ : ∃ V0, ((W.alloc (.cells #[.slice a0 n0 c0, .slice a1 n1 c1, .slice a2 n2 c2, .slice a3 n3 c3, .slice a4 n4 c4] 40)).alloc (.cells #[.string c] 9)).alloc (.cells #[.string ⟨#[]⟩, .string ⟨#[]⟩, .int .i64 0, .int .i64 0, .slice none 0 0] 32) = V0 := ⟨_, rfl⟩
  have kk0 : Kept (fun _ => True) W V0 := by rw [← hV0]; exact (((Kept.alloc _ _ _).al).al)
  have b0 : Below W.heap.size W V0 := kk0.below (fun _ _ => trivial) (Nat.le_refl _)
  have z0 : V0.heap.size = W.heap.size + 1 + 1 + 1 := by rw [← hV0]; simp
  have q1 : Bx V0 W.heap.size [.slice a0 n0 c0, .slice a1 n1 c1, .slice a2 n2 c2, .slice a3 n3 c3, .slice a4 n4 c4] := by
    rw [← hV0]
    exact ((Bx.new _ _ _).kept (Kept.alloc (fun _ => True) _ _) trivial).kept (Kept.alloc (fun _ => True) _ _) trivial
  have q2 : Bx V0 (W.heap.size + 1) [.string c] := by
    rw [← hV0]
    have := (Bx.new (W.alloc (.cells #[.slice a0 n0 c0, .slice a1 n1 c1, .slice a2 n2 c2, .slice a3 n3 c3, .slice a4 n4 c4] 40)) [.string c] 9).kept (Kept.alloc (fun _ => True) _ (.cells #[.string ⟨#[]⟩, .string ⟨#[]⟩, .int .i64 0, .int .i64 0, .slice none 0 0] 32)) trivial
    rwa [World.size_alloc] at this
  have q4 : Bx V0 (W.heap.size + 1 + 1) [.string ⟨#[]⟩, .string ⟨#[]⟩, .int .i64 0, .int .i64 0, .slice none 0 0] := by
    rw [← hV0]
    have := Bx.new ((W.alloc (.cells #[.slice a0 n0 c0, .slice a1 n1 c1, .slice a2 n2 c2, .slice a3 n3 c3, .slice a4 n4 c4] 40)).alloc (.cells #[.string c] 9)) [.string ⟨#[]⟩, .string ⟨#[]⟩, .int .i64 0, .int .i64 0, .slice none 0 0] 32
    rwa [World.size_alloc, World.size_alloc] at this
  have HI := hide (i_index k0 c n0 W.heap.size (W.heap.size + 1) a0 c0 V0 hf0 (by omega) (hs0.below b0 (fun _ h => h)) (q2.cel 0 _ rfl))
  have HIN : Hid ((findC c k0).inn.Sublist k0.inn) := findC_inn c n0 k0 hf0
  have HND := hide hnd0
  have HLV := hide hlv0
  have HLT := hide hlt0
  have HB0 := hide b0
  have HZ0 := hide z0
  have HQ1 := hide q1
  have HQ4 := hide q4
  have HWT := hide hwt0
  have t4 : V0.cell? ⟨W.heap.size, 0, none⟩ = some (.slice a0 n0 c0) := q1.cel 0 _ rfl
  have HV0 := hide hV0
  clear hV0 b0 z0 q1 q2 q4 hs0 hf0 hwt hwt0 hf ho hnd0 hlv0 hlt0 kk0
  go_enter Try.func7, Try.ntmps7
  go_wp2_with fail
  rw [HV0.out]
  clear HV0
  refine HI.out.mono ?_
  rintro e w1 ⟨j, rfl, hj, b1⟩
  have HB1 := hide b1
  clear HI t4
  have q4 := HQ4.out.below b1
  have q1 := HQ1.out.below b1
  have HQ4' := hide q4
  have m0 := q4.cel 0 _ rfl
  have m1 := q4.cel 1 _ rfl
  have m2 := q4.cel 2 _ rfl
  have m3 := q4.cel 3 _ rfl
  have m4 := q4.cel 4 _ rfl
  have l0 := q4.live 0
  have l1 := q4.live 1
  have l2 := q4.live 2
  have l3 := q4.live 3
  have l4 := q4.live 4
  have t4 : w1.cell? ⟨W.heap.size, 0, none⟩ = some (.slice a0 n0 c0) := q1.cel 0 _ rfl
  clear q4 q1 b1
  rcases hj with ⟨rfl, hz⟩ | ⟨i, x, qq, rfl, hi, hR, hx, hxw, hfd⟩
  · have HZ := hide hz
    clear hz
    go_wp2_with fail
    refine bodyPost_ret (v := .agg #[.string ⟨#[]⟩, .string ⟨#[]⟩, .int .i64 0, .int .i64 0, .slice none 0 0]) (by simp [results, Try.results7, go_sem, m0, m1, m2, m3, m4]) rfl ⟨zeroC, rfl, ?_, ?_⟩
    · rw [HZ.out]
      exact Fo.sim.refl _
    · refine (fun (V : World) (kV : Kept (fun c => c ≠ W.heap.size + 1 + 1) w1 V) => (?_ : Below W.heap.size W V ∧ Own W.heap.size V zeroC)) _ ?_
      · have hb := HB0.out.size
        refine ⟨Below.kept (HB0.out.trans (HB1.out.mono hb)) kV (fun c hc => by omega) (Nat.le_refl _), ⟨⟨⟨Nat.le_refl _, Nat.zero_le _, fun hl => by simp [Fo.len] at hl⟩, trivial⟩, by simp [zeroC, Fo.inn, blk], fun c hc => by simp [zeroC, Fo.inn, blk] at hc⟩⟩
      · repeat first | (with_reducible refine Kept.set ?_ (by simp)) | with_reducible exact Kept.refl _ _
  · have hbz := HB0.out.size
    have hbz1 := HB1.out.size
    obtain ⟨b, o, rfl, hb, hc, hxs⟩ := (hR.below HB1.out (by omega)).head (by rw [hx.len]; decide)
    have hii : (i : Int) < n0 := by omega
    have hi0 : ¬ ((i : Int) < 0) := by omega
    replace hx : Fit E x [.t, .t, .i, .i, .s 2] := hx
    obtain ⟨x0, F0, rfl, -, hx⟩ := fit_t hx
    obtain ⟨x1, F1, rfl, -, hx⟩ := fit_t hx
    obtain ⟨x2, F2, rfl, -, hx⟩ := fit_i hx
    obtain ⟨x3, F3, rfl, -, hx⟩ := fit_i hx
    obtain ⟨p4, m4', e4, k4, F4, rfl, hf4, hx⟩ := fit_s hx
    obtain rfl := fit_nil hx
    have y0 : w1.cell? ⟨b, o + i * 5, none⟩ = some (.string x0) := hc 0 _ rfl
    have y1 : w1.cell? ⟨b, o + i * 5 + 1, none⟩ = some (.string x1) := hc 1 _ rfl
    have y2 : w1.cell? ⟨b, o + i * 5 + 2, none⟩ = some (.int .i64 x2) := hc 2 _ rfl
    have y3 : w1.cell? ⟨b, o + i * 5 + 3, none⟩ = some (.int .i64 x3) := hc 3 _ rfl
    have y4 : w1.cell? ⟨b, o + i * 5 + 4, none⟩ = some (.slice p4 m4' e4) := hc 4 _ rfl
    have hxs4 : Fo.Sub w1 (fun c => c < W.heap.size) p4 m4' e4 k4 := hxs.1
    have hin := HIN.out
    rw [hfd] at hin
    have einn : (Fo.v (.string x0) (.v (.string x1) (.v (.int .i64 x2) (.v (.int .i64 x3) (.s p4 m4' e4 k4 .nil))))).inn = blk p4 k4.len ++ k4.inn := by simp [Fo.inn]
    rw [einn] at hin
    have hnd : (blk p4 k4.len ++ k4.inn).Nodup := hin.nodup HND.out
    have kW1 : Kept (fun _ => True) W w1 := kt (HB0.out.trans (HB1.out.mono hbz))
    have hlv : Live w1 (blk p4 k4.len ++ k4.inn) := (HLV.out.sub (fun d hd => hin.subset hd)).kept kW1 (fun d hd => ⟨trivial, HLT.out d (hin.subset hd)⟩)
    have hltb : ∀ d ∈ blk p4 k4.len ++ k4.inn, d < w1.heap.size := fun d hd => by have := HLT.out d (hin.subset hd); omega
    simp only [Fo.wt, textSize] at hxw
    have hw0 := HWT.out
    obtain ⟨V1, hV1⟩ : ∃ V1, w1.alloc (.cells #[.string x0, .string x1, .int .i64 x2, .int .i64 x3, .slice p4 m4' e4] 32) = V1 := ⟨_, rfl⟩
    have k1 : Kept (fun _ => True) w1 V1 := by rw [← hV1]; exact Kept.alloc _ _ _
    have q8 : Bx V1 w1.heap.size [.string x0, .string x1, .int .i64 x2, .int .i64 x3, .slice p4 m4' e4] := by rw [← hV1]; exact Bx.new _ _ _
    have z1 : V1.heap.size = w1.heap.size + 1 := by rw [← hV1]; simp
    have HQ8 := hide q8
    have HV1 := hide hV1
    have HKW : Hid (Kept (fun _ => True) W V1) := kW1.trans k1
    have HC0 : Hid (∀ V, Calls Try.prog 26 #[.string x0] V fun e w' => e = .returned (.string x0) ∧ Below V.heap.size V w') := fun V => iClone x0 V (by omega)
    have HC1 : Hid (∀ V, Calls Try.prog 26 #[.string x1] V fun e w' => e = .returned (.string x1) ∧ Below V.heap.size V w') := fun V => iClone x1 V (by omega)
    have HC2 : Hid (∀ V, Kept (fun _ => True) V1 V → Calls Try.prog 27 #[.slice p4 m4' e4] V fun e w' => ∃ a' c' R', e = .returned (.slice a' m4' c') ∧ R'.sim k4 ∧ Own V.heap.size w' (.s a' m4' c' R' .nil) ∧ Below V.heap.size V w') := fun V kV => by
      have k1V := k1.trans kV
      exact i_copies p4 m4' e4 k4 V hf4 ((hxs4.kept k1V (fun d hd => ⟨trivial, by omega⟩)).mono (fun d hd => by have := k1V.size; omega)) hnd (hlv.kept k1V (fun d hd => ⟨trivial, hltb d hd⟩)) (by omega)
    have HSQ : Hid (∀ V, Kept (fun d => d ≠ W.heap.size + 1 + 1) V1 V → V.cell? ⟨w1.heap.size, 0, none⟩ = some (.string x0) ∧ V.cell? ⟨w1.heap.size, 1, none⟩ = some (.string x1) ∧ V.cell? ⟨w1.heap.size, 2, none⟩ = some (.int .i64 x2) ∧ V.cell? ⟨w1.heap.size, 3, none⟩ = some (.int .i64 x3) ∧ V.cell? ⟨w1.heap.size, 4, none⟩ = some (.slice p4 m4' e4)) := fun V kV => by
      have q := HQ8.out.kept kV (by have := HZ0.out; omega)
      exact ⟨q.cel 0 _ rfl, q.cel 1 _ rfl, q.cel 2 _ rfl, q.cel 3 _ rfl, q.cel 4 _ rfl⟩
    have HFD := hide hfd
    have HQT : Hid (∀ V, Kept (fun _ => True) V1 V → Bx V (W.heap.size + 1 + 1) [.string ⟨#[]⟩, .string ⟨#[]⟩, .int .i64 0, .int .i64 0, .slice none 0 0]) := fun V kV => (HQ4'.out.kept k1 trivial).kept kV trivial
    have HZ1 : Hid (W.heap.size ≤ V1.heap.size ∧ W.heap.size + 1 + 1 < V1.heap.size) := by have := HZ0.out; exact ⟨by omega, by omega⟩
    clear hc hxs hx hf4 hfd hV1 k1 q8 z1 hR hxw hbz hbz1 hxs4 hin einn hnd kW1 hlv hltb hw0 m0 m1 m2 m3 m4 l0 l1 l2 l3 l4
    go_upto_region 5 with fail
    rw [HV1.out]
    clear HV1
    have S0 := HSQ.out V1.drew (Kept.drew _ _)
    go_cut [] (fun wx => ∃ a' c' R', R'.sim k4 ∧ Own W.heap.size wx (.s a' m4' c' R' .nil) ∧ Bx wx (W.heap.size + 1 + 1) [.string x0, .string x1, .int .i64 x2, .int .i64 x3, .slice a' m4' c'] ∧ Kept (fun d => d ≠ W.heap.size + 1 + 1) V1 wx)
    case first =>
      go_region_held3 (fun V => V.cell? ⟨w1.heap.size, 0, none⟩ = some (.string x0) ∧ V.cell? ⟨w1.heap.size, 1, none⟩ = some (.string x1) ∧ V.cell? ⟨w1.heap.size, 2, none⟩ = some (.int .i64 x2) ∧ V.cell? ⟨w1.heap.size, 3, none⟩ = some (.int .i64 x3) ∧ V.cell? ⟨w1.heap.size, 4, none⟩ = some (.slice p4 m4' e4))
        (first | with_reducible exact S7 | with_reducible exact S6 | with_reducible exact S5 | with_reducible exact S0 | (refine HSQ.out _ ?_; repeat first | (with_reducible refine Kept.set ?_ (by simp)) | with_reducible exact HK7m.out))
        (first
          | (go_at_call_of 26 (Value.string x0); refine (HC0.out _).mono ?_; rintro e w5 ⟨rfl, b5⟩; have HK5 : Hid (Kept (fun _ => True) V1 w5) := (Kept.drew _ _).trans (kt b5); have S5 := HSQ.out w5 (HK5.out.mono (fun _ _ _ => trivial)))
          | (go_at_call_of 26 (Value.string x1); refine (HC1.out _).mono ?_; rintro e w6 ⟨rfl, b6⟩; have HK6 : Hid (Kept (fun _ => True) V1 w6) := HK5.out.trans (kt b6); have S6 := HSQ.out w6 (HK6.out.mono (fun _ _ _ => trivial)))
          | (go_at_call 27; refine (HC2.out w6 HK6.out).mono ?_; rintro e w7 ⟨a', c', R', rfl, g1, g2, g3⟩; have HK7 : Hid (Kept (fun _ => True) V1 w7) := HK6.out.trans (kt g3); have HK7m : Hid (Kept (fun d => d ≠ W.heap.size + 1 + 1) V1 w7) := HK7.out.mono (fun _ _ _ => trivial); have S7 := HSQ.out w7 HK7m.out; have q7 := HQT.out w7 HK7.out; have z0 := q7.cel 0 _ rfl; have z1 := q7.cel 1 _ rfl; have z2 := q7.cel 2 _ rfl; have z3 := q7.cel 3 _ rfl; have z4 := q7.cel 4 _ rfl; have f0 := q7.live 0; have f1 := q7.live 1; have f2 := q7.live 2; have f3 := q7.live 3; have f4 := q7.live 4; have HG : Hid (R'.sim k4 ∧ Own w6.heap.size w7 (.s a' m4' c' R' .nil)) := ⟨g1, g2⟩; clear g1 g2 g3))
      all_goals
        go_wp2_with fail
        go_meet
        case rel =>
          refine (fun (V : World) (kV : Kept (fun d => d ≠ W.heap.size + 1 + 1) w7 V) (hb : Bx V (W.heap.size + 1 + 1) [.string x0, .string x1, .int .i64 x2, .int .i64 x3, .slice a' m4' c']) => (?_ : ∃ a' c' R', R'.sim k4 ∧ Own W.heap.size V (.s a' m4' c' R' .nil) ∧ Bx V (W.heap.size + 1 + 1) [.string x0, .string x1, .int .i64 x2, .int .i64 x3, .slice a' m4' c'] ∧ Kept (fun d => d ≠ W.heap.size + 1 + 1) V1 V)) _ ?_ ?_
          · have h1 := HK6.out.size
            have h2 := HZ1.out
            exact ⟨a', c', R', HG.out.1, (HG.out.2.kept kV (fun d hd _ => by omega)).mono (by omega), hb, HK7m.out.trans kV⟩
          · repeat first | (with_reducible refine Kept.set ?_ (by simp)) | with_reducible exact Kept.refl _ _
          · exact ((((q7.put 0 _ (by simp)).put 1 _ (by simp)).put 2 _ (by simp)).put 3 _ (by simp)).put 4 _ (by simp)
    case rest =>
      obtain ⟨a', c', R', g1, g2, g3, g4⟩ := hcut
      rename World => wx
      have r0 := g3.cel 0 _ rfl
      have r1 := g3.cel 1 _ rfl
      have r2 := g3.cel 2 _ rfl
      have r3 := g3.cel 3 _ rfl
      have r4 := g3.cel 4 _ rfl
      have HF : Hid (R'.sim k4 ∧ Own W.heap.size wx (.s a' m4' c' R' .nil) ∧ Below W.heap.size W wx) := ⟨g1, g2, ((HKW.out.mono (T := fun d => d < W.heap.size) (fun _ _ _ => trivial)).trans (g4.mono (fun d _ hd => by omega))).below (fun _ h => h) (Nat.le_refl _)⟩
      clear g1 g2 g3 g4 S0 HC0 HC1 HC2 HSQ
      go_wp2_with fail
      refine bodyPost_ret (v := .agg #[.string x0, .string x1, .int .i64 x2, .int .i64 x3, .slice a' m4' c']) (by simp [results, Try.results7, go_sem, r0, r1, r2, r3, r4]) rfl ⟨.v (.string x0) (.v (.string x1) (.v (.int .i64 x2) (.v (.int .i64 x3) (.s a' m4' c' R' .nil)))), rfl, ?_, HF.out.2.2, ?_⟩
      · rw [HFD.out]
        exact ⟨rfl, rfl, rfl, rfl, rfl, HF.out.1, trivial⟩
      · exact Own.v _ (Own.v _ (Own.v _ (Own.v _ HF.out.2.1)))

end Go.Proofs.Ytcflciblcdabpaa
