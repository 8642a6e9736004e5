import Derived.Test.YtpcnmolncoaddaaOf
namespace Go.Proofs.Ytpcnmolncoaddaa
open Go.RowKit Go.Joins

theorem upd_two (U : Nat) : upd (upd (fun _ => 0) 0 (U % 4294967296)) 1 (U / 4294967296) = two U := by
  funext i
  unfold upd two
  by_cases h1 : i = 1
  · subst h1; simp
  · by_cases h0 : i = 0 <;> simp [h0, h1]

theorem Res2.only {g : Nat} {w1 w2 : World} {b : Nat} {x0 x1 : Value} (h : Res2 w1 b x0 x1) (ho : Only g w1 w2) (hb : b ≠ g) : Res2 w2 b x0 x1 :=
  ⟨(ho.cell b 0 hb).trans h.c0, (ho.cell b 1 hb).trans h.c1, (ho.frozen b 0 hb).trans h.f0, (ho.frozen b 1 hb).trans h.f1, by have := h.lt; have := ho.size; omega⟩

theorem setCount_at (b most k : Nat) (f : Nat → Nat) (w : World) (hm : MagAt w b k f) (hn : most ≤ 80) :
    Calls Try.prog 70 #[.pointer (some ⟨b, 0, none⟩), .int .i64 most] w fun e w' => e = .returned (.tuple #[]) ∧ MagAt w' b (trimN f most) f ∧ Only b w w' := by
  refine (setCount_any b most k f w hm hn).mono ?_
  rintro e w' ⟨rfl, rfl⟩
  exact ⟨rfl, hm.setCount _, Only.setCell w ⟨b, 80, none⟩ _⟩

set_option maxHeartbeats 1000000 in
set_option maxRecDepth 100000 in
theorem iOf_pos (U : Nat) (w : World) (h1 : U ≤ 9223372036854775807) (n : Nat) (Hn : Hid (trimN (two U) 2 = n)) :
    Calls Try.prog 29 #[.int .i64 (U : Int)] w fun e w' => ∃ v', e = .returned (.agg #[.bool (false && decide (0 < n)), v']) ∧ Own w.heap.size w' v' n (two U) ∧ Below w.heap.size w w' := by
  have hd : decide ((U : Int) < 0) = false := by simp
  go_enter Try.func29, Try.ntmps29
  go_wp2_with ((with_reducible refine wpList_alloc63 4 ?_ ?_ ?_ ?_); rfl; rfl; rfl; intro w1 hz1 hm1 hb1; simp only [World.size_alloc] at hz1 hm1 hb1; have y0 := hm1.limb 0 (by omega); have y1 := hm1.limb 1 (by omega); have g0 := hm1.frozen 0; have g1 := hm1.frozen 1)
  rw [show (U : Int) / 4294967296 = ((U / 4294967296 : Nat) : Int) from by omega, show (U : Int) % 4294967296 = ((U % 4294967296 : Nat) : Int) from by omega]
  have hm2 := (hm1.setLimb 0 (U % 4294967296) (by omega)).setLimb 1 (U / 4294967296) (by omega)
  rw [upd_two] at hm2
  refine (setCount_at _ 2 _ _ _ hm2 (by omega)).mono ?_
  rintro e w3 ⟨rfl, hm3, ho3'⟩
  rw [Hn.out] at hm3
  have ho3 : Only (w.heap.size + 1) w1 w3 := ((Only.setCell w1 ⟨w.heap.size + 1, 0, none⟩ _).trans (Only.setCell _ ⟨w.heap.size + 1, 1, none⟩ _)).trans ho3'
  have bel3 : Below w.heap.size w w3 := ((below_alloc1 w _).trans (hb1.mono (by omega))).trans (ho3.below (by omega))
  have t1 := ((Res2.start w (.bool false) (.slice none 0 0) 25).next (by simpa only [World.size_alloc] using hb1)).only ho3 (by omega)
  have hl : n ≤ 2 := by have := trimN_le (two U) 2; rw [Hn.out] at this; omega
  clear y0 y1 g0 g1 hm1 hm2 ho3' ho3 hb1 hz1 Hn
  obtain ⟨c0, c1, f0, f1, lt⟩ := id t1
  go_wp2_with ((with_reducible refine wpList_load63 (.tmp 4) (w.heap.size + 1) n _ hm3 ?_ ?_ ?_ ?_); rfl; rfl; rfl; intro cs hcs)
  refine (signed_any _ cs n _ _ hcs (by omega) (two_lt U (by omega))).mono ?_
  rintro e w4 ⟨v4, rfl, ho4, hb4⟩
  obtain ⟨a4, c4, rfl, -⟩ := id ho4
  have t4 := t1.next hb4
  have bel4 := bel3.trans (hb4.mono (by omega))
  have hz4 := hm3.lt
  clear c0 c1 f0 f1 hb4 hcs hm3
  obtain ⟨c0, c1, f0, f1, lt4⟩ := id t4
  go_wp2_with fail
  refine bodyPost_ret (v := .agg #[.bool (false && decide (0 < n)), .slice a4 n c4]) (by simp [results, Try.results29, go_sem, c0, c1]) rfl ⟨.slice a4 n c4, rfl, ?_, ?_⟩
  · exact ((ho4.set _ _ (by simp; omega)).set _ _ (by simp; omega)).less (by omega)
  · exact (bel4.setCell (by simp) _).setCell (by simp) _

set_option maxHeartbeats 1000000 in
set_option maxRecDepth 100000 in
theorem iOf_neg (U : Nat) (w : World) (h0 : 0 < U) (h1 : U ≤ 9223372036854775808) (n : Nat) (Hn : Hid (trimN (two U) 2 = n)) :
    Calls Try.prog 29 #[.int .i64 (-(U : Int))] w fun e w' => ∃ v', e = .returned (.agg #[.bool (true && decide (0 < n)), v']) ∧ Own w.heap.size w' v' n (two U) ∧ Below w.heap.size w w' := by
  have hneg : -(U : Int) < 0 := by omega
  go_enter Try.func29, Try.ntmps29
  go_wp2_with ((with_reducible refine wpList_alloc63 4 ?_ ?_ ?_ ?_); rfl; rfl; rfl; intro w1 hz1 hm1 hb1; simp only [World.size_alloc] at hz1 hm1 hb1; have y0 := hm1.limb 0 (by omega); have y1 := hm1.limb 1 (by omega); have g0 := hm1.frozen 0; have g1 := hm1.frozen 1)
  rw [wneg U h1]
  rw [show (U : Int) / 4294967296 % 4294967296 = ((U / 4294967296 : Nat) : Int) from by omega, show (U : Int) % 4294967296 = ((U % 4294967296 : Nat) : Int) from by omega]
  have hm2 := (hm1.setLimb 0 (U % 4294967296) (by omega)).setLimb 1 (U / 4294967296) (by omega)
  rw [upd_two] at hm2
  refine (setCount_at _ 2 _ _ _ hm2 (by omega)).mono ?_
  rintro e w3 ⟨rfl, hm3, ho3'⟩
  rw [Hn.out] at hm3
  have ho3 : Only (w.heap.size + 1) w1 w3 := ((Only.setCell w1 ⟨w.heap.size + 1, 0, none⟩ _).trans (Only.setCell _ ⟨w.heap.size + 1, 1, none⟩ _)).trans ho3'
  have bel3 : Below w.heap.size w w3 := ((below_alloc1 w _).trans (hb1.mono (by omega))).trans (ho3.below (by omega))
  have t1 := ((Res2.start w (.bool false) (.slice none 0 0) 25).next (by simpa only [World.size_alloc] using hb1)).only ho3 (by omega)
  have hl : n ≤ 2 := by have := trimN_le (two U) 2; rw [Hn.out] at this; omega
  clear y0 y1 g0 g1 hm1 hm2 ho3' ho3 hb1 hz1 Hn
  obtain ⟨c0, c1, f0, f1, lt⟩ := id t1
  go_wp2_with ((with_reducible refine wpList_load63 (.tmp 4) (w.heap.size + 1) n _ hm3 ?_ ?_ ?_ ?_); rfl; rfl; rfl; intro cs hcs)
  refine (signed_any _ cs n _ _ hcs (by omega) (two_lt U (by omega))).mono ?_
  rintro e w4 ⟨v4, rfl, ho4, hb4⟩
  obtain ⟨a4, c4, rfl, -⟩ := id ho4
  have t4 := t1.next hb4
  have bel4 := bel3.trans (hb4.mono (by omega))
  have hz4 := hm3.lt
  clear c0 c1 f0 f1 hb4 hcs hm3
  obtain ⟨c0, c1, f0, f1, lt4⟩ := id t4
  go_wp2_with fail
  refine bodyPost_ret (v := .agg #[.bool (true && decide (0 < n)), .slice a4 n c4]) (by simp [results, Try.results29, go_sem, c0, c1]) rfl ⟨.slice a4 n c4, rfl, ?_, ?_⟩
  · exact ((ho4.set _ _ (by simp; omega)).set _ _ (by simp; omega)).less (by omega)
  · exact (bel4.setCell (by simp) _).setCell (by simp) _

end Go.Proofs.Ytpcnmolncoaddaa
