import Derived.Test.YtbgocfcnkhfejaaDraw4
namespace Go.Proofs.Ytbgocfcnkhfejaa
open Go.RowKit Go.Joins

set_option maxHeartbeats 2000000 in
set_option maxRecDepth 100000 in
theorem maybeBig_any (p k t : Nat) (w : World) (hS : Src w p k t) (hk : k ≤ 2000000) (ht : t < 40000) :
    Calls Try.prog 59 #[.pointer (some ⟨p, 0, none⟩)] w fun e w' => ∃ (m : Bool) (v : Value) (n : Nat) (f : Nat → Nat) (t' : Nat), e = .returned (.agg #[.bool m, v]) ∧ Own w.heap.size w' v n f ∧ n ≤ 41 ∧ Src w' p k t' ∧ t' ≤ t + 1010 ∧ Dr p w w' := by
  have hp := hS.lt
  have hS0 := hS.below (below_alloc1 w (.cells #[.bool false, .slice none 0 0] 25))
  have hd0 : Dr p w (w.alloc (.cells #[.bool false, .slice none 0 0] 25)) := Dr.below (below_alloc1 _ _) (by omega)
  have hx0 := Bx.start w (.bool false) (.slice none 0 0) 25
  go_enter Try.func59, Try.ntmps59
  go_wp2_with fail
  refine (drawBig_any p k t _ hS0 hk (by omega)).mono ?_
  rintro e w2 ⟨m, v, n, f, t2, rfl, hrow2, hf, hft, hS2, ht2, hd2⟩
  simp only [World.size_alloc] at hrow2
  have hx2 := hx0.dr hd2 (by omega)
  have hd2 := hd0.trans hd2
  obtain ⟨a, c, rfl, -⟩ := id (hrow2.own hf)
  have hn := faultB_le hft
  have hlt := hrow2.lt
  clear hS hS0 hd0 hx0
  have hS3 := hS2.below (below_alloc1 w2 (.cells #[.bool m, .slice a n c] 25))
  have hx3 := hx2.next (below_alloc1 w2 (.cells #[.bool m, .slice a n c] 25))
  have hd3 := hd2.trans (Dr.below (below_alloc1 w2 (.cells #[.bool m, .slice a n c] 25)) (by have := hS2.lt; omega))
  have hy3 := Bx.start w2 (.bool m) (.slice a n c) 25
  have hrow3 := hrow2.alloc (.cells #[.bool m, .slice a n c] 25)
  have hz2 := hd2.size
  have hl2 := hx2.lt
  go_wp2_with fail
  refine (chance_any p k t2 20 _ hS3 hk (by omega) (by decide) (by decide)).mono ?_
  rintro e w4 ⟨r4, rfl, hS4, ho4⟩
  have hd4 := hd3.trans (Dr.only ho4)
  have hx4 := hx3.dr (Dr.only ho4) (by omega)
  have hy4 := hy3.dr (Dr.only ho4) (by omega)
  have hrow4 := hrow3.dr (Dr.only ho4) (by omega)
  have hz4 := ho4.size
  simp only [World.size_alloc] at hz4
  have HF := hide hf
  have HLT := hide hlt
  clear hS3 hx3 hd3 hy3 hrow3 ho4 hS2 hrow2 hx2 hd2 hf hlt hft
  cases r4
  · obtain ⟨c0, c1, f0, f1, lt⟩ := id hx4
    obtain ⟨d0, d1, e0, e1, lt'⟩ := id hy4
    go_wp2_with fail
    refine bodyPost_ret (v := .agg #[.bool m, .slice a n c]) (by simp [results, Try.results59, go_sem, c0, c1]) rfl ?_
    have hb : Below w.heap.size w4 ((w4.setCell ⟨w.heap.size, 0, none⟩ (.bool m)).setCell ⟨w.heap.size, 1, none⟩ (.slice a n c)) := ((Below.refl _ _).setCell (by exact Nat.le_refl _) _).setCell (by exact Nat.le_refl _) _
    exact ⟨_, _, n, f, t2 + 1, rfl, (((hrow4.own HF.out).set _ _ (by show w.heap.size < _; omega)).set _ _ (by show w.heap.size < _; omega)).less (by omega), by omega, hS4.up hb (by omega), by omega, hd4.below' hb (by omega)⟩
  · obtain ⟨c0, c1, f0, f1, lt⟩ := id hx4
    obtain ⟨d0, d1, e0, e1, lt'⟩ := id hy4
    go_wp2_with fail
    refine (bendBig_any p k (t2 + 1) (w.heap.size + 1) m _ n f w4 hS4 hk (by omega) hrow4 HF.out hn (by omega) (by omega)).mono ?_
    rintro e w5 ⟨m5, v5, n5, f5, rfl, ho5, hn5, hz5, hS5, hal⟩
    have hx5 := hx4.keep (hal.block _ lt (by omega) (fun e => by have := (HLT.out _ e).1; omega)) hal.size
    have hy5 := hy4.keep (hal.block _ lt' (by omega) (fun e => by have := (HLT.out _ e).2; omega)) hal.size
    obtain ⟨a5, c5, rfl, -⟩ := id ho5
    have q5 : 0 < n5 → (Value.slice a5 n5 c5).ownBlock ≠ some w2.heap.size := fun h => ho5.ne hz5 h hy5.c0 (fun _ e => by cases e)
    have Q5 := hide q5
    have hd5 : Dr p w w5 := by
      refine ⟨hd4.bel.trans ⟨hal.os, hal.tape, hal.output, hal.size, fun x hx => hal.block x (by omega) (by omega) (fun e => by have := (HLT.out _ e).1; omega)⟩, fun b h1 h2 => ?_⟩
      exact (hal.block b (by omega) (by omega) (fun e => by have := (HLT.out _ e).1; omega)).trans (hd4.up b h1 h2)
    clear hal q5 hz5
    clear c0 c1 f0 f1 lt d0 d1 e0 e1 lt'
    obtain ⟨c0, c1, f0, f1, lt⟩ := id hx5
    obtain ⟨d0, d1, e0, e1, lt'⟩ := id hy5
    go_wp2_with fail
    refine bodyPost_ret (v := .agg #[.bool m5, .slice a5 n5 c5]) (by simp [results, Try.results59, go_sem, c0, c1]) rfl ?_
    have hb : Below w.heap.size w5 ((((w5.setCell ⟨w2.heap.size, 0, none⟩ (.bool m5)).setCell ⟨w2.heap.size, 1, none⟩ (.slice a5 n5 c5)).setCell ⟨w.heap.size, 0, none⟩ (.bool m5)).setCell ⟨w.heap.size, 1, none⟩ (.slice a5 n5 c5)) := ((((Below.refl _ _).setCell (by exact hz2) _).setCell (by exact hz2) _).setCell (by exact Nat.le_refl _) _).setCell (by exact Nat.le_refl _) _
    exact ⟨_, _, n5, f5, t2 + 1 + 1, rfl, ((((ho5.setNe _ _ Q5.out).setNe _ _ Q5.out).set _ _ (by show w.heap.size < _; omega)).set _ _ (by show w.heap.size < _; omega)).less (by omega), hn5, hS5.up hb (by omega), by omega, hd5.below' hb (by omega)⟩

/-- A slice of k bytes that can be read. -/
def Byt (w : World) (v : Value) (k : Nat) : Prop :=
  ∃ a c, v = .slice a k c ∧ k ≤ c ∧ (a = none → c = 0) ∧ (0 < k → ∃ b off, a = some ⟨b, off, none⟩ ∧ ∃ g : Nat → Nat, ∀ i, i < k → g i < 256 ∧ w.cell? ⟨b, off + i, none⟩ = some (.int .u8 (g i)))
theorem Byt.below {w w' v k} (h : Byt w v k) (hb : Below w.heap.size w w') : Byt w' v k := by
  obtain ⟨a, c, rfl, h1, h2, h3⟩ := h
  refine ⟨a, c, rfl, h1, h2, fun hk => ?_⟩
  obtain ⟨b, off, e, g, h5⟩ := h3 hk
  exact ⟨b, off, e, g, fun i hi => ⟨(h5 i hi).1, (hb.cell (block_lt_of_cell (h5 i hi).2)).trans (h5 i hi).2⟩⟩

set_option maxHeartbeats 2000000 in
set_option maxRecDepth 100000 in
theorem two_any (v : Value) (k : Nat) (w : World) (hB : Byt w v k) (hk : k ≤ 2000000) :
    Calls Try.prog 87 #[v] w fun e w' => ∃ (m : Bool) (v : Value) (n : Nat) (f : Nat → Nat) (m' : Bool) (v' : Value) (n' : Nat) (f' : Nat → Nat), e = .returned (.tuple #[.agg #[.bool m, v], .agg #[.bool m', v']]) ∧ Own w.heap.size w' v n f ∧ n ≤ 41 ∧ Own w.heap.size w' v' n' f' ∧ n' ≤ 41 ∧ Below w.heap.size w w' := by
  have hb0 := below_alloc2 w (.cells #[.bool false, .slice none 0 0] 25) (.cells #[.bool false, .slice none 0 0] 25)
  have hx0 := (Bx.start w (.bool false) (.slice none 0 0) 25).next (below_alloc1 _ (.cells #[.bool false, .slice none 0 0] 25))
  have hy0 := Bx.start (w.alloc (.cells #[.bool false, .slice none 0 0] 25)) (.bool false) (.slice none 0 0) 25
  simp only [World.size_alloc] at hy0
  obtain ⟨a, c, rfl, hc, -, hb⟩ := hB.below hb0
  clear hB
  go_enter Try.func87, Try.ntmps87
  go_wp2_with fail
  refine (source_any a k c _ hk hc hb).mono ?_
  rintro e w1 ⟨rfl, hS1, hb1⟩
  simp only [World.size_alloc] at hS1
  have hx1 := hx0.next hb1
  have hy1 := hy0.next hb1
  have hB1 := hb0.trans (hb1.mono (by simp only [World.size_alloc]; omega))
  have hl1 := hS1.lt
  clear hx0 hy0 hb0 hb1 hb
  go_wp2_with fail
  refine (maybeBig_any _ k 0 _ hS1 hk (by omega)).mono ?_
  rintro e w2 ⟨m2, v2, n2, f2, t2, rfl, ho2, hn2, hS2, ht2, hd2⟩
  have hx2 := hx1.dr hd2 (by omega)
  have hy2 := hy1.dr hd2 (by omega)
  have hz2 := hd2.size
  go_wp2_with fail
  refine (maybeBig_any _ k t2 _ hS2 hk (by omega)).mono ?_
  rintro e w3 ⟨m3, v3, n3, f3, t3, rfl, ho3, hn3, hS3, ht3, hd3⟩
  have hx3 := hx2.dr hd3 (by omega)
  have hy3 := hy2.dr hd3 (by omega)
  have ho2' := ho2.dr hd3 (by omega)
  have hB3 := (hB1.trans (hd2.bel.mono (by omega))).trans (hd3.bel.mono (by omega))
  obtain ⟨a2, c2, rfl, -⟩ := id ho2
  obtain ⟨a3, c3, rfl, -⟩ := id ho3
  clear hx1 hx2 hy1 hy2
  obtain ⟨c0, c1, f0, f1, lt⟩ := id hx3
  obtain ⟨d0, d1, e0, e1, lt'⟩ := id hy3
  go_wp2_with fail
  refine bodyPost_ret (v := .tuple #[.agg #[.bool m2, .slice a2 n2 c2], .agg #[.bool m3, .slice a3 n3 c3]]) (by simp [results, Try.results87, go_sem, c0, c1, d0, d1]) rfl ?_
  refine ⟨_, _, n2, f2, _, _, n3, f3, rfl, ?_, hn2, ?_, hn3, ?_⟩
  · exact ((((ho2'.set _ _ (by show w.heap.size < _; omega)).set _ _ (by show w.heap.size < _; omega)).set _ _ (by show w.heap.size + 1 < _; omega)).set _ _ (by show w.heap.size + 1 < _; omega)).less (by omega)
  · exact ((((ho3.set _ _ (by show w.heap.size < _; omega)).set _ _ (by show w.heap.size < _; omega)).set _ _ (by show w.heap.size + 1 < _; omega)).set _ _ (by show w.heap.size + 1 < _; omega)).less (by omega)
  · exact (((hB3.setCell (by show _ ≤ w.heap.size; omega) _).setCell (by show _ ≤ w.heap.size; omega) _).setCell (by show _ ≤ w.heap.size + 1; omega) _).setCell (by show _ ≤ w.heap.size + 1; omega) _

set_option maxHeartbeats 2000000 in
set_option maxRecDepth 100000 in
theorem drawAdd_any (v : Value) (k : Nat) (w : World) (hB : Byt w v k) (hk : k ≤ 2000000) :
    Calls Try.prog 52 #[v] w fun e w' => ∃ (m : Bool) (v : Value) (n : Nat) (f : Nat → Nat) (m' : Bool) (v' : Value) (n' : Nat) (f' : Nat → Nat), e = .returned (.tuple #[.agg #[.bool m, v], .agg #[.bool m', v']]) ∧ Own w.heap.size w' v n f ∧ n ≤ 41 ∧ Own w.heap.size w' v' n' f' ∧ n' ≤ 41 ∧ Below w.heap.size w w' := by
  have hb0 := below_alloc2 w (.cells #[.bool false, .slice none 0 0] 25) (.cells #[.bool false, .slice none 0 0] 25)
  have hx0 := (Bx.start w (.bool false) (.slice none 0 0) 25).next (below_alloc1 _ (.cells #[.bool false, .slice none 0 0] 25))
  have hy0 := Bx.start (w.alloc (.cells #[.bool false, .slice none 0 0] 25)) (.bool false) (.slice none 0 0) 25
  simp only [World.size_alloc] at hy0
  have hB0 := hB.below hb0
  obtain ⟨a, c, rfl, -⟩ := id hB0
  clear hB
  go_enter Try.func52, Try.ntmps52
  go_wp2_with fail
  refine (two_any _ k _ hB0 hk).mono ?_
  rintro e w3 ⟨m2, v2, n2, f2, m3, v3, n3, f3, rfl, ho2, hn2, ho3, hn3, hb3⟩
  simp only [World.size_alloc] at ho2 ho3
  have hx3 := hx0.next hb3
  have hy3 := hy0.next hb3
  have hB3 := hb0.trans (hb3.mono (by simp only [World.size_alloc]; omega))
  obtain ⟨a2, c2, rfl, -⟩ := id ho2
  obtain ⟨a3, c3, rfl, -⟩ := id ho3
  clear hx0 hy0
  obtain ⟨c0, c1, f0, f1, lt⟩ := id hx3
  obtain ⟨d0, d1, e0, e1, lt'⟩ := id hy3
  go_wp2_with fail
  refine bodyPost_ret (v := .tuple #[.agg #[.bool m2, .slice a2 n2 c2], .agg #[.bool m3, .slice a3 n3 c3]]) (by simp [results, Try.results52, go_sem, c0, c1, d0, d1]) rfl ?_
  refine ⟨_, _, n2, f2, _, _, n3, f3, rfl, ?_, hn2, ?_, hn3, ?_⟩
  · exact ((((ho2.set _ _ (by show w.heap.size < _; omega)).set _ _ (by show w.heap.size < _; omega)).set _ _ (by show w.heap.size + 1 < _; omega)).set _ _ (by show w.heap.size + 1 < _; omega)).less (by omega)
  · exact ((((ho3.set _ _ (by show w.heap.size < _; omega)).set _ _ (by show w.heap.size < _; omega)).set _ _ (by show w.heap.size + 1 < _; omega)).set _ _ (by show w.heap.size + 1 < _; omega)).less (by omega)
  · exact (((hB3.setCell (by show _ ≤ w.heap.size; omega) _).setCell (by show _ ≤ w.heap.size; omega) _).setCell (by show _ ≤ w.heap.size + 1; omega) _).setCell (by show _ ≤ w.heap.size + 1; omega) _

end Go.Proofs.Ytbgocfcnkhfejaa
