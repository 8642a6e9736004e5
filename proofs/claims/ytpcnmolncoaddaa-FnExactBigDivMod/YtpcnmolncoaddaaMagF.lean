import Derived.Test.YtpcnmolncoaddaaMag
namespace Go.Proofs.Ytpcnmolncoaddaa
open Go.RowKit Go.Joins

def ext (n : Nat) (f : Nat → Nat) : Nat → Nat := fun i => if i < n then f i else 0
def trimN (f : Nat → Nat) : Nat → Nat
  | 0 => 0
  | n + 1 => if f n = 0 then trimN f n else n + 1

set_option maxHeartbeats 400000 in
set_option maxRecDepth 100000 in
theorem magOf_any (v : Value) (n : Nat) (f : Nat → Nat) (w : World) (hL : Lim w v n f) (hn : n ≤ 80) :
    Calls Try.prog 54 #[v] w fun e w' => ∃ cs, e = .returned (.agg cs) ∧ MagC cs n (ext n f) ∧ Below w.heap.size w w' := by
  obtain ⟨sa, sc, rfl, -⟩ := id hL
  go_enter Try.func54, Try.ntmps54
  go_wp2_with (first
    | ((with_reducible refine wpList_alloc63 2 ?_ ?_ ?_ ?_); rfl; rfl; rfl; intro w1 hz1 hm1 hb1)
    | ((with_reducible refine wpList_alloc63 3 ?_ ?_ ?_ ?_); rfl; rfl; rfl; intro w2 hz2 hm2 hb2)
    | ((with_reducible refine wpList_copyIn (.tmp 5) (.tmp 6) (w.heap.size + 1) n 0 _ f _ (hL.below (hb1.trans (hb2.mono (by omega)))) hn (by rw [← hz1]; exact hm2) ?_ ?_ ?_ ?_ ?_); rfl; rfl; rfl; rfl; intro w3 hm3 ho3; have c80 := hm3.count; have f80 := hm3.frozen 80)
    | ((with_reducible refine wpList_load63 (.tmp 3) (w.heap.size + 1) n _ (hm3.setCount n) ?_ ?_ ?_ ?_); rfl; rfl; rfl; intro cs hcs)
    | ((with_reducible refine wpList_store63 (.tmp 2) (.tmp 9) w.heap.size n 0 _ (fun _ => 0) cs hcs ?_ ?_ ?_ ?_ ?_ ?_); rotate_left; rfl; rfl; rfl; rfl; intro w4 hm4 ho4))
  · obtain ⟨cs', h1, h2⟩ := hm4
    refine bodyPost_ret (v := .agg cs') (results63 rfl _ _ w.heap.size n _ cs' (by simp [Act.put]) h1 h2) rfl ⟨cs', rfl, h2, ?_⟩
    exact (((hb1.trans (hb2.mono (by omega))).trans (ho3.below (by omega))).trans ((Only.setCell _ _ _).below (by simp))).trans (ho4.below (Nat.le_refl _))
  · exact ((hm1.below hb2 (by omega)).only ho3 (by omega)).only (Only.setCell _ _ _) (by simp)

set_option maxHeartbeats 400000 in
theorem setCount_any (b most k : Nat) (f : Nat → Nat) (w : World) (hm : MagAt w b k f) (hn : most ≤ 80) :
    Calls Try.prog 70 #[.pointer (some ⟨b, 0, none⟩), .int .i64 most] w fun e w' => e = .returned (.tuple #[]) ∧ w' = w.setCell ⟨b, 80, none⟩ (.int .i64 (trimN f most)) := by
  have c80 := hm.count
  have f80 := hm.frozen 80
  have hl := hm.limb
  clear hm
  go_enter Try.func70, Try.ntmps70
  go_wp2
  go_loop [1] (fun i => ∃ k : Nat, k ≤ most ∧ i = .int .i64 k ∧ trimN f k = trimN f most) (fun i => (intOf i).toNat)
  case atStart => exact ⟨most, Nat.le_refl _, rfl, rfl⟩
  case round =>
    obtain ⟨k, hk, rfl, he⟩ := hrel
    have He : Hid (trimN f k = trimN f most) := he
    clear he
    rcases Nat.eq_zero_or_pos k with hz | hp
    · subst hz
      clear hl
      go_wp2
      go_end0
      exact ⟨rfl, by rw [← He.out]; rfl⟩
    · obtain ⟨j, rfl⟩ : ∃ j, k = j + 1 := ⟨k - 1, by omega⟩
      have g1 := hl j (by omega)
      clear hl
      by_cases h0 : f j = 0
      · have h0' : (((f j : Nat) : Int) == 0) = true := by simp [h0]
        have HH : Hid (trimN f j = trimN f most) := by rw [← He.out]; simp [trimN, h0, Hid]
        clear h0 He
        go_wp2
        go_round
        case rel => exact ⟨j, by omega, by go_num, HH.out⟩
        case measure => simp [intOf]
      · have h0' : (((f j : Nat) : Int) == 0) = false := by simp [h0]
        have HH : Hid (trimN f most = j + 1) := by rw [← He.out]; simp [trimN, h0, Hid]
        clear He h0
        go_wp2
        go_end0
        exact ⟨rfl, by rw [HH.out]; rfl⟩


theorem trimN_le (f : Nat → Nat) (n : Nat) : trimN f n ≤ n := by
  induction n with
  | zero => exact Nat.le_refl _
  | succ n ih => unfold trimN; split <;> omega

/-- make([]uint32, n), then copy(limbs, m.limbs[:]). -/
theorem wpList_copyOut {ops : Array Oper} {rest : List Oper} {o : Oper} {a : Act} {w : World} {Q : Exit → Act → World → Prop} (d s : Operand) (g gs n k : Nat) (f f0 : Nat → Nat)
    (hm : MagAt w gs k f) (hn : n ≤ 80) (hh : Half w g n 0 f0) (hgd : o.guard = none) (ho : o.op = .call { callee := .builtin .copy, args := #[d, s], argTypes := #[23, 23] })
    (hd : a.eval d = .slice (some ⟨g, 0, none⟩) n n) (hs : a.eval s = .slice (some ⟨gs, 0, none⟩) 80 80)
    (h : ∀ w', Half w' g n n f → Only g w w' → wpList Try.prog ops Q rest (a.put o.dst (.int .i64 n)) w') : wpList Try.prog ops Q (o :: rest) a w := by
  obtain ⟨cur, hc1, hc2, -⟩ := hh
  have hlen : ((List.range n).map fun i => Value.int .u32 (f i)).length = n := by simp
  refine wpList_copy_own hgd d s 23 23 ho 60 Try.underlying23 Try.size60 g 0 n n ⟨gs, 0, none⟩ 80 80 hd hs cur 60 hc1 ((List.range n).map fun i => Value.int .u32 (f i)) (by rw [hlen]; exact (Nat.min_eq_right hn).symm) ?_ (by rw [hlen, hc2]; omega) ?_ ?_
  · intro j v hj
    have hjn : j < n := by have := (List.getElem?_eq_some_iff.1 hj).1; simpa using this
    have hv : v = Value.int .u32 (f j) := by simpa [hjn] using hj.symm
    rw [hv, ← hm.limb j (by omega)]
    congr 1
    unfold Addr.add; split <;> simp_all
  · intro v hv
    simp only [List.mem_map] at hv
    obtain ⟨i, _, rfl⟩ := hv
    rfl
  · rw [hlen]
    refine h _ ⟨_, setRow_heap w g _ _ _ _ hc1, ?_, fun i hi => ?_⟩ (Only.setRow _ _ _)
    · simp [hc2]
    · simp only [List.take_zero, List.nil_append, List.getElem?_toArray]
      rw [List.getElem?_append_left (by rw [hlen]; exact hi)]; simp [hi]

theorem Half.only {g w w' b n k f} (h : Half w b n k f) (ho : Only g w w') (hb : b ≠ g) : Half w' b n k f := by
  obtain ⟨cs, h1, h2⟩ := h
  exact ⟨cs, (ho.block b hb).trans h1, h2⟩

set_option maxHeartbeats 400000 in
set_option maxRecDepth 100000 in
theorem signed_zero (m : Bool) (cs : Array Value) (f : Nat → Nat) (w : World) (hc : MagC cs 0 f) :
    Calls Try.prog 65 #[.bool m, .agg cs] w fun e w' => e = .returned (.agg #[.bool false, .slice none 0 0]) ∧ Below w.heap.size w w' := by
  have c80 : cs[80]? = some (.int .i64 0) := hc.count
  clear hc
  go_enter Try.func65, Try.ntmps65
  go_wp2
  refine bodyPost_ret (v := .agg #[.bool false, .slice none 0 0]) (by simp [results, Try.results65, go_sem]) rfl ⟨rfl, ?_⟩
  exact below_alloc2 _ _ _

set_option maxHeartbeats 400000 in
set_option maxRecDepth 100000 in
theorem signed_pos (m : Bool) (cs : Array Value) (n : Nat) (f : Nat → Nat) (w : World) (hc : MagC cs n f) (hp : 0 < n) (hn : n ≤ 80) (hf : ∀ i, f i < 4294967296) :
    Calls Try.prog 65 #[.bool m, .agg cs] w fun e w' => ∃ v', e = .returned (.agg #[.bool m, v']) ∧ Own w.heap.size w' v' n f ∧ Below w.heap.size w w' := by
  have c80 : cs[80]? = some (.int .i64 n) := hc.count
  have hmk := run_make_row' (P := Try.prog) 23 60 (.int .u32 0) 4 Try.underlying23 Try.info60 rfl .i64 .i64 n (by omega) (by omega)
  go_enter Try.func65, Try.ntmps65
  go_wp2_with ((with_reducible refine wpList_copyOut (.tmp 13) (.tmp 15) (w.heap.size + 1 + 1) w.heap.size n n f (fun _ => 0) ?_ hn ?_ ?_ ?_ ?_ ?_ ?_); rotate_left; rotate_left; rfl; rfl; rfl; rfl; intro w3 hh3 ho3; have r0 := ho3.cell (w.heap.size + 1) 0 (by omega); have r1 := ho3.cell (w.heap.size + 1) 1 (by omega); have s0 := ho3.frozen (w.heap.size + 1) 0 (by omega); have s1 := ho3.frozen (w.heap.size + 1) 1 (by omega))
  · have hown := hh3.own rfl (Nat.le_refl _) (by unfold maxLen; omega) (fun i _ => hf i)
    refine bodyPost_ret (v := .agg #[.bool m, .slice (some ⟨w.heap.size + 1 + 1, 0, none⟩) n n]) (by simp [results, Try.results65, go_sem, r0, r1]) rfl ⟨_, rfl, ?_, ?_⟩
    · exact ((hown.set _ _ (by simp)).set _ _ (by simp)).less (by omega)
    · exact (((below_alloc3 w _ _ _).trans (ho3.below (by omega))).setCell (by simp) _).setCell (by simp) _
  · exact (show MagAt (w.alloc (.cells cs 63)) w.heap.size n f from ⟨cs, heap_alloc_new _ _, hc⟩).below (below_alloc2 _ _ _) (by simp)
  · refine ⟨madeCells #[.int .u32 0] n, ?_, size_madeCells _ _, fun i hi => by omega⟩
    rw [show w.heap.size + 1 + 1 = ((w.alloc (.cells cs 63)).alloc (.cells #[.bool false, .slice none 0 0] 25)).heap.size from by simp]
    exact heap_alloc_new _ _

theorem signed_any (m : Bool) (cs : Array Value) (n : Nat) (f : Nat → Nat) (w : World) (hc : MagC cs n f) (hn : n ≤ 80) (hf : ∀ i, f i < 4294967296) :
    Calls Try.prog 65 #[.bool m, .agg cs] w fun e w' => ∃ v', e = .returned (.agg #[.bool (m && decide (0 < n)), v']) ∧ Own w.heap.size w' v' n f ∧ Below w.heap.size w w' := by
  rcases Nat.eq_zero_or_pos n with rfl | hp
  · refine (signed_zero m cs f w hc).mono ?_
    rintro e w' ⟨rfl, hb⟩
    exact ⟨_, by simp, ⟨none, 0, rfl, Nat.le_refl _, ⟨by unfold maxLen; omega, fun _ => rfl⟩, fun i hi => by omega, fun h => by omega⟩, hb⟩
  · refine (signed_pos m cs n f w hc hp hn hf).mono ?_
    rintro e w' ⟨v', rfl, ho, hb⟩
    exact ⟨v', by simp [hp], ho, hb⟩

end Go.Proofs.Ytpcnmolncoaddaa
