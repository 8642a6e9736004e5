import Derived.Test.YtpgbaidkhjaocaaSd
namespace Go.Proofs.Ytpgbaidkhjaocaa
open Go.RowKit Go.Joins D

/-- What the draw knows: four boxes and the source. -/
structure DS (w V : World) (k t p b5 b6 : Nat) (z2 z3 z5 z6 : List Value) : Prop where
  be : Below w.heap.size w V
  src : Src V p k t
  x2 : Bx V w.heap.size z2
  x3 : Bx V (w.heap.size + 1) z3
  x5 : Bx V b5 z5
  x6 : Bx V b6 z6
  hp : p = w.heap.size + 1 + 1
  h5 : p < b5
  h6 : b5 < b6

theorem DS.dr {w V V' : World} {k t t' p b5 b6 : Nat} {z2 z3 z5 z6 : List Value} (h : DS w V k t p b5 b6 z2 z3 z5 z6) (hd : Dr p V V') (hs : Src V' p k t') : DS w V' k t' p b5 b6 z2 z3 z5 z6 := by
  obtain ⟨be, src, x2, x3, x5, x6, hp, h5, h6⟩ := h
  exact ⟨be.trans (hd.bel.mono (by omega)), hs, x2.kept hd.kept (by omega), x3.kept hd.kept (by omega), x5.kept hd.kept (by omega), x6.kept hd.kept (by omega), hp, h5, h6⟩

theorem DS.set6 {w V : World} {k t p b5 b6 : Nat} {z2 z3 z5 z6 : List Value} (h : DS w V k t p b5 b6 z2 z3 z5 z6) (i : Nat) (v : Value) (hi : i < z6.length) : DS w (V.setCell ⟨b6, i, none⟩ v) k t p b5 b6 z2 z3 z5 (z6.set i v) := by
  obtain ⟨be, src, x2, x3, x5, x6, hp, h5, h6⟩ := h
  have kk : Kept (fun c => c ≠ b6) V (V.setCell ⟨b6, i, none⟩ v) := Kept.set (Kept.refl _ _) (by simp)
  exact ⟨be.setCell (by show w.heap.size ≤ b6; omega) v, src.up (B := b6) ((Below.refl _ _).setCell (p := ⟨b6, i, none⟩) (Nat.le_refl _) v) (by omega), x2.kept kk (by omega), x3.kept kk (by omega), x5.kept kk (by omega), x6.put i v hi, hp, h5, h6⟩

theorem DS.drew {w V : World} {k t p b5 b6 : Nat} {z2 z3 z5 z6 : List Value} (h : DS w V k t p b5 b6 z2 z3 z5 z6) : DS w V.drew k t p b5 b6 z2 z3 z5 z6 := by
  obtain ⟨be, src, x2, x3, x5, x6, hp, h5, h6⟩ := h
  have kd := Kept.drew (fun _ => True) V
  exact ⟨be.drew, src.drew, x2.kept kd trivial, x3.kept kd trivial, x5.kept kd trivial, x6.kept kd trivial, hp, h5, h6⟩

def zO : List Value := [.int .i64 0, .string ⟨#[]⟩, .string ⟨#[]⟩, .int .i64 0]
def vO (x : Int) (o : ByteArray) (s : Int) : List Value := [.int .i64 x, .string o, .string ⟨#[]⟩, .int .i64 s]

set_option maxHeartbeats 8000000 in
set_option maxRecDepth 100000 in
theorem draw_any (a : Option Addr) (k c : Nat) (w : World) (hk : k ≤ 2000000) (hc : k ≤ c)
    (hb : 0 < k → ∃ b off, a = some ⟨b, off, none⟩ ∧ ∃ g : Nat → Nat, ∀ i, i < k → g i < 256 ∧ w.cell? ⟨b, off + i, none⟩ = some (.int .u8 (g i))) :
    Calls Try.prog 5 #[.slice a k c] w fun e w' => ∃ (x s : Int) (o : ByteArray) (x' s' : Int) (o' : ByteArray), e = .returned (.tuple #[.agg #[.int .i64 x, .string o, .string ⟨#[]⟩, .int .i64 s], .agg #[.int .i64 x', .string o', .string ⟨#[]⟩, .int .i64 s']]) ∧ o.size ≤ 2 ∧ o'.size ≤ 2 ∧ Below w.heap.size w w' := by
  obtain ⟨V1, hV1⟩ : ∃ V1, (w.alloc (.cells #[.int .i64 0, .string ⟨#[]⟩, .string ⟨#[]⟩, .int .i64 0] 24)).alloc (.cells #[.int .i64 0, .string ⟨#[]⟩, .string ⟨#[]⟩, .int .i64 0] 24) = V1 := ⟨_, rfl⟩
  have z1 : V1.heap.size = w.heap.size + 1 + 1 := by rw [← hV1]; simp
  have b1 : Below w.heap.size w V1 := by rw [← hV1]; exact (below_alloc1 _ _).trans ((below_alloc1 _ _).mono (by simp))
  have q2 : Bx V1 w.heap.size zO := by rw [← hV1]; exact (Bx.new _ _ _).kept (Kept.alloc (fun _ => True) _ _) trivial
  have q3 : Bx V1 (w.heap.size + 1) zO := by
    rw [← hV1]
    have := Bx.new (w.alloc (.cells #[.int .i64 0, .string ⟨#[]⟩, .string ⟨#[]⟩, .int .i64 0] 24)) zO 24
    rwa [World.size_alloc] at this
  have HSo := hide (source_any a k c V1 hk hc (fun h => by
    obtain ⟨b, off, rfl, g, hg⟩ := hb h
    exact ⟨b, off, rfl, g, fun i hi => ⟨(hg i hi).1, (b1.cell (block_lt_of_cell (hg i hi).2)).trans (hg i hi).2⟩⟩))
  rw [z1] at HSo
  clear hb
  have HQ : Hid (V1.heap.size = w.heap.size + 1 + 1 ∧ Below w.heap.size w V1 ∧ Bx V1 w.heap.size zO ∧ Bx V1 (w.heap.size + 1) zO) := ⟨z1, b1, q2, q3⟩
  have HV1 := hide hV1
  clear z1 b1 q2 q3 hV1
  go_enter Try.func5, Try.ntmps5
  go_upto_region 1 with fail
  rw [HV1.out]
  clear HV1
  go_wp2_with fail
  refine HSo.out.mono ?_
  rintro e v2 ⟨rfl, S2, B2⟩
  have HK2 : Hid (Src v2 (w.heap.size + 1 + 1) k 0 ∧ Below w.heap.size w v2 ∧ Bx v2 w.heap.size zO ∧ Bx v2 (w.heap.size + 1) zO) := ⟨S2, HQ.out.2.1.trans (B2.mono (by have := HQ.out.1; omega)), HQ.out.2.2.1.below (by rw [HQ.out.1]; exact B2), HQ.out.2.2.2.below (by rw [HQ.out.1]; exact B2)⟩
  clear S2 B2 HQ HSo
  have HO := hide (outcome_any (w.heap.size + 1 + 1) k 0 v2 HK2.out.1 hk (by omega))
  go_wp2_with fail
  refine HO.out.mono ?_
  rintro e v3 ⟨x, s, o, rfl, ho, S3, D3⟩
  obtain ⟨V4, hV4⟩ : ∃ V4, v3.alloc (.cells #[.int .i64 x, .string o, .string ⟨#[]⟩, .int .i64 s] 24) = V4 := ⟨_, rfl⟩
  have HP3 : Hid (w.heap.size + 1 + 1 < v3.heap.size) := S3.lt
  have HK4 : Hid (Src V4 (w.heap.size + 1 + 1) k 3 ∧ Below w.heap.size w V4 ∧ Bx V4 w.heap.size zO ∧ Bx V4 (w.heap.size + 1) zO ∧ Bx V4 v3.heap.size (vO x o s) ∧ V4.heap.size = v3.heap.size + 1) := by
    unfold Hid
    have kd : Kept (fun c => c ≠ w.heap.size + 1 + 1) v2 V4 := by rw [← hV4]; exact D3.kept.trans (Kept.alloc _ _ _)
    refine ⟨by rw [← hV4]; exact S3.alloc _, ?_, HK2.out.2.2.1.kept kd (by omega), HK2.out.2.2.2.kept kd (by omega), by rw [← hV4]; exact Bx.new v3 (vO x o s) 24, by rw [← hV4]; simp⟩
    rw [← hV4]
    exact HK2.out.2.1.trans ((D3.bel.mono (by omega)).trans ((below_alloc1 _ _).mono (by have := HP3.out; omega)))
  have HV4 := hide hV4
  clear hV4 S3 D3 HK2 HO
  go_upto_region 3 with fail
  rw [HV4.out]
  clear HV4
  have HO := hide (outcome_any (w.heap.size + 1 + 1) k 3 V4 HK4.out.1 hk (by omega))
  go_wp2_with fail
  refine HO.out.mono ?_
  rintro e v5 ⟨x', s', o', rfl, ho', S5, D5⟩
  obtain ⟨V6, hV6⟩ : ∃ V6, v5.alloc (.cells #[.int .i64 x', .string o', .string ⟨#[]⟩, .int .i64 s'] 24) = V6 := ⟨_, rfl⟩
  have HK6 : Hid (DS w V6 k 6 (w.heap.size + 1 + 1) v3.heap.size v5.heap.size zO zO (vO x o s) (vO x' o' s')) := by
    unfold Hid
    obtain ⟨r1, r2, r3, r4, r5, r6⟩ := HK4.out
    have h3 := HP3.out
    have kd : Kept (fun c => c ≠ w.heap.size + 1 + 1) V4 V6 := by rw [← hV6]; exact D5.kept.trans (Kept.alloc _ _ _)
    have h5 := S5.lt
    have h6 := D5.size
    refine ⟨?_, by rw [← hV6]; exact S5.alloc _, r3.kept kd (by omega), r4.kept kd (by omega), r5.kept kd (by omega), by rw [← hV6]; exact Bx.new v5 (vO x' o' s') 24, rfl, h3, by omega⟩
    rw [← hV6]
    exact r2.trans ((D5.bel.mono (by omega)).trans ((below_alloc1 _ _).mono (by omega)))
  have HV6 := hide hV6
  clear hV6 S5 D5 HK4 HO
  go_upto_region 4 with fail
  rw [HV6.out]
  clear HV6
  have HO := hide (chance_any (w.heap.size + 1 + 1) k 6 2 V6 HK6.out.src hk (by omega) (by omega) (by omega))
  go_wp2_with fail
  refine HO.out.mono ?_
  rintro e v7 ⟨r, rfl, S7, D7⟩
  have HK7 := hide (HK6.out.dr (Dr.only D7) S7)
  clear S7 D7 HK6 HO
  cases r
  · have HO := hide (chance_any (w.heap.size + 1 + 1) k 7 3 _ HK7.out.src hk (by omega) (by omega) (by omega))
    go_wp2_with fail
    refine HO.out.mono ?_
    rintro e v9 ⟨r, rfl, S9, D9⟩
    have HK9 := hide (HK7.out.dr (Dr.only D9) S9)
    clear S9 D9 HK7 HO
    cases r
    · go_upto_region 8 with fail
      have D8 := HK9.out.drew
      have u0 := HK9.out.x5.cel 0 _ rfl
      have u1 := HK9.out.x5.cel 1 _ rfl
      have u2 := HK9.out.x5.cel 2 _ rfl
      have u3 := HK9.out.x5.cel 3 _ rfl
      have y0 := HK9.out.x6.cel 0 _ rfl
      have y1 := HK9.out.x6.cel 1 _ rfl
      have y2 := HK9.out.x6.cel 2 _ rfl
      have y3 := HK9.out.x6.cel 3 _ rfl
      have hn : (w.heap.size ≠ v5.heap.size ∧ w.heap.size + 1 ≠ v5.heap.size ∧ w.heap.size ≠ v3.heap.size ∧ w.heap.size + 1 ≠ v3.heap.size) ∧ (v5.heap.size ≠ w.heap.size ∧ v5.heap.size ≠ w.heap.size + 1 ∧ v3.heap.size ≠ w.heap.size ∧ v3.heap.size ≠ w.heap.size + 1) := (by have q1 := HK9.out.h5; have q2 := HK9.out.h6; omega)
      obtain ⟨⟨hn1, hn2, hn3, hn4⟩, hn5, hn6, hn7, hn8⟩ := hn
      have g0 := HK9.out.x2.cel 0 _ rfl
      have g1 := HK9.out.x2.cel 1 _ rfl
      have g2 := HK9.out.x2.cel 2 _ rfl
      have g3 := HK9.out.x2.cel 3 _ rfl
      have h0 := HK9.out.x3.cel 0 _ rfl
      have h1 := HK9.out.x3.cel 1 _ rfl
      have h2 := HK9.out.x3.cel 2 _ rfl
      have h3 := HK9.out.x3.cel 3 _ rfl
      have m0 := HK9.out.x2.live 0
      have m1 := HK9.out.x2.live 1
      have m2 := HK9.out.x2.live 2
      have m3 := HK9.out.x2.live 3
      have n0 := HK9.out.x3.live 0
      have n1 := HK9.out.x3.live 1
      have n2 := HK9.out.x3.live 2
      have n3 := HK9.out.x3.live 3
      have a0 := D8.x5.cel 0 _ rfl
      have a1 := D8.x5.cel 1 _ rfl
      have a2 := D8.x5.cel 2 _ rfl
      have a3 := D8.x5.cel 3 _ rfl
      have b0 := D8.x6.cel 0 _ rfl
      have b1 := D8.x6.cel 1 _ rfl
      have b2 := D8.x6.cel 2 _ rfl
      have b3 := D8.x6.cel 3 _ rfl
      have c0 := D8.x2.cel 0 _ rfl
      have c1 := D8.x2.cel 1 _ rfl
      have c2 := D8.x2.cel 2 _ rfl
      have c3 := D8.x2.cel 3 _ rfl
      have d0 := D8.x3.cel 0 _ rfl
      have d1 := D8.x3.cel 1 _ rfl
      have d2 := D8.x3.cel 2 _ rfl
      have d3 := D8.x3.cel 3 _ rfl
      have e0 := D8.x2.live 0
      have e1 := D8.x2.live 1
      have e2 := D8.x2.live 2
      have e3 := D8.x2.live 3
      have f0 := D8.x3.live 0
      have f1 := D8.x3.live 1
      have f2 := D8.x3.live 2
      have f3 := D8.x3.live 3
      have BE := hide D8.be
      have BF := hide HK9.out.be
      clear D8 HK9
      go_region
      all_goals
        go_wp2_with fail
        refine bodyPost_ret (v := .tuple #[.agg #[.int .i64 x, .string o, .string ⟨#[]⟩, .int .i64 s], .agg #[.int .i64 x', .string o', .string ⟨#[]⟩, .int .i64 s']]) (by simp [results, Try.results5, go_sem, g0, g1, g2, g3, h0, h1, h2, h3]) rfl ⟨_, _, _, _, _, _, rfl, ho, ho', ?_⟩
        repeat first | (with_reducible exact BE.out) | (with_reducible exact BF.out) | (with_reducible refine Below.drew ?_) | (with_reducible refine Below.setCell ?_ (by first | exact Nat.le_refl _ | exact Nat.le_succ _) _)
    · have c1 := HK9.out.x5.cel 0 _ rfl
      have c2 := HK9.out.x6.cel 0 _ rfl
      have c3 := HK9.out.x6.live 0
      have HK10 := hide (HK9.out.set6 0 (.int .i64 x) (by simp [vO]))
      clear HK9
      go_upto_region 8 with fail
      clear c1 c2 c3
      have D8 := HK10.out.drew
      have u0 := HK10.out.x5.cel 0 _ rfl
      have u1 := HK10.out.x5.cel 1 _ rfl
      have u2 := HK10.out.x5.cel 2 _ rfl
      have u3 := HK10.out.x5.cel 3 _ rfl
      have y0 := HK10.out.x6.cel 0 _ rfl
      have y1 := HK10.out.x6.cel 1 _ rfl
      have y2 := HK10.out.x6.cel 2 _ rfl
      have y3 := HK10.out.x6.cel 3 _ rfl
      have hn : (w.heap.size ≠ v5.heap.size ∧ w.heap.size + 1 ≠ v5.heap.size ∧ w.heap.size ≠ v3.heap.size ∧ w.heap.size + 1 ≠ v3.heap.size) ∧ (v5.heap.size ≠ w.heap.size ∧ v5.heap.size ≠ w.heap.size + 1 ∧ v3.heap.size ≠ w.heap.size ∧ v3.heap.size ≠ w.heap.size + 1) := (by have q1 := HK10.out.h5; have q2 := HK10.out.h6; omega)
      obtain ⟨⟨hn1, hn2, hn3, hn4⟩, hn5, hn6, hn7, hn8⟩ := hn
      have g0 := HK10.out.x2.cel 0 _ rfl
      have g1 := HK10.out.x2.cel 1 _ rfl
      have g2 := HK10.out.x2.cel 2 _ rfl
      have g3 := HK10.out.x2.cel 3 _ rfl
      have h0 := HK10.out.x3.cel 0 _ rfl
      have h1 := HK10.out.x3.cel 1 _ rfl
      have h2 := HK10.out.x3.cel 2 _ rfl
      have h3 := HK10.out.x3.cel 3 _ rfl
      have m0 := HK10.out.x2.live 0
      have m1 := HK10.out.x2.live 1
      have m2 := HK10.out.x2.live 2
      have m3 := HK10.out.x2.live 3
      have n0 := HK10.out.x3.live 0
      have n1 := HK10.out.x3.live 1
      have n2 := HK10.out.x3.live 2
      have n3 := HK10.out.x3.live 3
      have a0 := D8.x5.cel 0 _ rfl
      have a1 := D8.x5.cel 1 _ rfl
      have a2 := D8.x5.cel 2 _ rfl
      have a3 := D8.x5.cel 3 _ rfl
      have b0 := D8.x6.cel 0 _ rfl
      have b1 := D8.x6.cel 1 _ rfl
      have b2 := D8.x6.cel 2 _ rfl
      have b3 := D8.x6.cel 3 _ rfl
      have c0 := D8.x2.cel 0 _ rfl
      have c1 := D8.x2.cel 1 _ rfl
      have c2 := D8.x2.cel 2 _ rfl
      have c3 := D8.x2.cel 3 _ rfl
      have d0 := D8.x3.cel 0 _ rfl
      have d1 := D8.x3.cel 1 _ rfl
      have d2 := D8.x3.cel 2 _ rfl
      have d3 := D8.x3.cel 3 _ rfl
      have e0 := D8.x2.live 0
      have e1 := D8.x2.live 1
      have e2 := D8.x2.live 2
      have e3 := D8.x2.live 3
      have f0 := D8.x3.live 0
      have f1 := D8.x3.live 1
      have f2 := D8.x3.live 2
      have f3 := D8.x3.live 3
      have BE := hide D8.be
      have BF := hide HK10.out.be
      clear D8 HK10
      go_region
      all_goals
        go_wp2_with fail
        refine bodyPost_ret (v := .tuple #[.agg #[.int .i64 x, .string o, .string ⟨#[]⟩, .int .i64 s], .agg #[.int .i64 x, .string o', .string ⟨#[]⟩, .int .i64 s']]) (by simp [results, Try.results5, go_sem, g0, g1, g2, g3, h0, h1, h2, h3]) rfl ⟨_, _, _, _, _, _, rfl, ho, ho', ?_⟩
        repeat first | (with_reducible exact BE.out) | (with_reducible exact BF.out) | (with_reducible refine Below.drew ?_) | (with_reducible refine Below.setCell ?_ (by first | exact Nat.le_refl _ | exact Nat.le_succ _) _)
  · have c1 := HK7.out.x5.cel 1 _ rfl
    have c2 := HK7.out.x6.cel 1 _ rfl
    have c3 := HK7.out.x6.live 1
    have HK8 := hide (HK7.out.set6 1 (.string o) (by simp [vO]))
    clear HK7
    go_upto_region 6 with fail
    clear c1 c2 c3
    have HO := hide (chance_any (w.heap.size + 1 + 1) k 7 3 _ HK8.out.src hk (by omega) (by omega) (by omega))
    go_wp2_with fail
    refine HO.out.mono ?_
    rintro e v9 ⟨r, rfl, S9, D9⟩
    have HK9 := hide (HK8.out.dr (Dr.only D9) S9)
    clear S9 D9 HK8 HO
    cases r
    · go_upto_region 8 with fail
      have D8 := HK9.out.drew
      have u0 := HK9.out.x5.cel 0 _ rfl
      have u1 := HK9.out.x5.cel 1 _ rfl
      have u2 := HK9.out.x5.cel 2 _ rfl
      have u3 := HK9.out.x5.cel 3 _ rfl
      have y0 := HK9.out.x6.cel 0 _ rfl
      have y1 := HK9.out.x6.cel 1 _ rfl
      have y2 := HK9.out.x6.cel 2 _ rfl
      have y3 := HK9.out.x6.cel 3 _ rfl
      have hn : (w.heap.size ≠ v5.heap.size ∧ w.heap.size + 1 ≠ v5.heap.size ∧ w.heap.size ≠ v3.heap.size ∧ w.heap.size + 1 ≠ v3.heap.size) ∧ (v5.heap.size ≠ w.heap.size ∧ v5.heap.size ≠ w.heap.size + 1 ∧ v3.heap.size ≠ w.heap.size ∧ v3.heap.size ≠ w.heap.size + 1) := (by have q1 := HK9.out.h5; have q2 := HK9.out.h6; omega)
      obtain ⟨⟨hn1, hn2, hn3, hn4⟩, hn5, hn6, hn7, hn8⟩ := hn
      have g0 := HK9.out.x2.cel 0 _ rfl
      have g1 := HK9.out.x2.cel 1 _ rfl
      have g2 := HK9.out.x2.cel 2 _ rfl
      have g3 := HK9.out.x2.cel 3 _ rfl
      have h0 := HK9.out.x3.cel 0 _ rfl
      have h1 := HK9.out.x3.cel 1 _ rfl
      have h2 := HK9.out.x3.cel 2 _ rfl
      have h3 := HK9.out.x3.cel 3 _ rfl
      have m0 := HK9.out.x2.live 0
      have m1 := HK9.out.x2.live 1
      have m2 := HK9.out.x2.live 2
      have m3 := HK9.out.x2.live 3
      have n0 := HK9.out.x3.live 0
      have n1 := HK9.out.x3.live 1
      have n2 := HK9.out.x3.live 2
      have n3 := HK9.out.x3.live 3
      have a0 := D8.x5.cel 0 _ rfl
      have a1 := D8.x5.cel 1 _ rfl
      have a2 := D8.x5.cel 2 _ rfl
      have a3 := D8.x5.cel 3 _ rfl
      have b0 := D8.x6.cel 0 _ rfl
      have b1 := D8.x6.cel 1 _ rfl
      have b2 := D8.x6.cel 2 _ rfl
      have b3 := D8.x6.cel 3 _ rfl
      have c0 := D8.x2.cel 0 _ rfl
      have c1 := D8.x2.cel 1 _ rfl
      have c2 := D8.x2.cel 2 _ rfl
      have c3 := D8.x2.cel 3 _ rfl
      have d0 := D8.x3.cel 0 _ rfl
      have d1 := D8.x3.cel 1 _ rfl
      have d2 := D8.x3.cel 2 _ rfl
      have d3 := D8.x3.cel 3 _ rfl
      have e0 := D8.x2.live 0
      have e1 := D8.x2.live 1
      have e2 := D8.x2.live 2
      have e3 := D8.x2.live 3
      have f0 := D8.x3.live 0
      have f1 := D8.x3.live 1
      have f2 := D8.x3.live 2
      have f3 := D8.x3.live 3
      have BE := hide D8.be
      have BF := hide HK9.out.be
      clear D8 HK9
      go_region
      all_goals
        go_wp2_with fail
        refine bodyPost_ret (v := .tuple #[.agg #[.int .i64 x, .string o, .string ⟨#[]⟩, .int .i64 s], .agg #[.int .i64 x', .string o, .string ⟨#[]⟩, .int .i64 s']]) (by simp [results, Try.results5, go_sem, g0, g1, g2, g3, h0, h1, h2, h3]) rfl ⟨_, _, _, _, _, _, rfl, ho, ho, ?_⟩
        repeat first | (with_reducible exact BE.out) | (with_reducible exact BF.out) | (with_reducible refine Below.drew ?_) | (with_reducible refine Below.setCell ?_ (by first | exact Nat.le_refl _ | exact Nat.le_succ _) _)
    · have c1 := HK9.out.x5.cel 0 _ rfl
      have c2 := HK9.out.x6.cel 0 _ rfl
      have c3 := HK9.out.x6.live 0
      have HK10 := hide (HK9.out.set6 0 (.int .i64 x) (by simp [vO]))
      clear HK9
      go_upto_region 8 with fail
      clear c1 c2 c3
      have D8 := HK10.out.drew
      have u0 := HK10.out.x5.cel 0 _ rfl
      have u1 := HK10.out.x5.cel 1 _ rfl
      have u2 := HK10.out.x5.cel 2 _ rfl
      have u3 := HK10.out.x5.cel 3 _ rfl
      have y0 := HK10.out.x6.cel 0 _ rfl
      have y1 := HK10.out.x6.cel 1 _ rfl
      have y2 := HK10.out.x6.cel 2 _ rfl
      have y3 := HK10.out.x6.cel 3 _ rfl
      have hn : (w.heap.size ≠ v5.heap.size ∧ w.heap.size + 1 ≠ v5.heap.size ∧ w.heap.size ≠ v3.heap.size ∧ w.heap.size + 1 ≠ v3.heap.size) ∧ (v5.heap.size ≠ w.heap.size ∧ v5.heap.size ≠ w.heap.size + 1 ∧ v3.heap.size ≠ w.heap.size ∧ v3.heap.size ≠ w.heap.size + 1) := (by have q1 := HK10.out.h5; have q2 := HK10.out.h6; omega)
      obtain ⟨⟨hn1, hn2, hn3, hn4⟩, hn5, hn6, hn7, hn8⟩ := hn
      have g0 := HK10.out.x2.cel 0 _ rfl
      have g1 := HK10.out.x2.cel 1 _ rfl
      have g2 := HK10.out.x2.cel 2 _ rfl
      have g3 := HK10.out.x2.cel 3 _ rfl
      have h0 := HK10.out.x3.cel 0 _ rfl
      have h1 := HK10.out.x3.cel 1 _ rfl
      have h2 := HK10.out.x3.cel 2 _ rfl
      have h3 := HK10.out.x3.cel 3 _ rfl
      have m0 := HK10.out.x2.live 0
      have m1 := HK10.out.x2.live 1
      have m2 := HK10.out.x2.live 2
      have m3 := HK10.out.x2.live 3
      have n0 := HK10.out.x3.live 0
      have n1 := HK10.out.x3.live 1
      have n2 := HK10.out.x3.live 2
      have n3 := HK10.out.x3.live 3
      have a0 := D8.x5.cel 0 _ rfl
      have a1 := D8.x5.cel 1 _ rfl
      have a2 := D8.x5.cel 2 _ rfl
      have a3 := D8.x5.cel 3 _ rfl
      have b0 := D8.x6.cel 0 _ rfl
      have b1 := D8.x6.cel 1 _ rfl
      have b2 := D8.x6.cel 2 _ rfl
      have b3 := D8.x6.cel 3 _ rfl
      have c0 := D8.x2.cel 0 _ rfl
      have c1 := D8.x2.cel 1 _ rfl
      have c2 := D8.x2.cel 2 _ rfl
      have c3 := D8.x2.cel 3 _ rfl
      have d0 := D8.x3.cel 0 _ rfl
      have d1 := D8.x3.cel 1 _ rfl
      have d2 := D8.x3.cel 2 _ rfl
      have d3 := D8.x3.cel 3 _ rfl
      have e0 := D8.x2.live 0
      have e1 := D8.x2.live 1
      have e2 := D8.x2.live 2
      have e3 := D8.x2.live 3
      have f0 := D8.x3.live 0
      have f1 := D8.x3.live 1
      have f2 := D8.x3.live 2
      have f3 := D8.x3.live 3
      have BE := hide D8.be
      have BF := hide HK10.out.be
      clear D8 HK10
      go_region
      all_goals
        go_wp2_with fail
        refine bodyPost_ret (v := .tuple #[.agg #[.int .i64 x, .string o, .string ⟨#[]⟩, .int .i64 s], .agg #[.int .i64 x, .string o, .string ⟨#[]⟩, .int .i64 s']]) (by simp [results, Try.results5, go_sem, g0, g1, g2, g3, h0, h1, h2, h3]) rfl ⟨_, _, _, _, _, _, rfl, ho, ho, ?_⟩
        repeat first | (with_reducible exact BE.out) | (with_reducible exact BF.out) | (with_reducible refine Below.drew ?_) | (with_reducible refine Below.setCell ?_ (by first | exact Nat.le_refl _ | exact Nat.le_succ _) _)
end Go.Proofs.Ytpgbaidkhjaocaa
