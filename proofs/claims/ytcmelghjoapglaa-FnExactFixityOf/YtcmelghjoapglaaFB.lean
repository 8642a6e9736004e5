import Derived.Test.YtcmelghjoapglaaFA
namespace Go.Proofs.Ytcmelghjoapglaa
open Go.RowKit Go.Joins

/-- Three cells of a block of our own. -/
structure Box3 (W : World) (b : Nat) (x y z : Value) : Prop where
  lt : b < W.heap.size
  c0 : W.cell? ⟨b, 0, none⟩ = some x
  c1 : W.cell? ⟨b, 1, none⟩ = some y
  c2 : W.cell? ⟨b, 2, none⟩ = some z
  f0 : W.frozen? ⟨b, 0, none⟩ = false
  f1 : W.frozen? ⟨b, 1, none⟩ = false
  f2 : W.frozen? ⟨b, 2, none⟩ = false

theorem Box3.new (W : World) (x y z : Value) (t : TypeId) : Box3 (W.alloc (.cells #[x, y, z] t)) W.heap.size x y z :=
  ⟨by simp, by simp, by simp, by simp, by simp, by simp, by simp⟩

theorem Box3.below {A B : World} {n b : Nat} {x y z : Value} (h : Box3 A b x y z) (k : Below n A B) (hb : b < n) : Box3 B b x y z :=
  ⟨Nat.lt_of_lt_of_le h.lt k.size, (k.cell (p := ⟨b, 0, none⟩) hb).trans h.c0, (k.cell (p := ⟨b, 1, none⟩) hb).trans h.c1, (k.cell (p := ⟨b, 2, none⟩) hb).trans h.c2,
    (k.frozen (p := ⟨b, 0, none⟩) hb).trans h.f0, (k.frozen (p := ⟨b, 1, none⟩) hb).trans h.f1, (k.frozen (p := ⟨b, 2, none⟩) hb).trans h.f2⟩

theorem Box3.alloc {A : World} {b : Nat} {x y z : Value} (h : Box3 A b x y z) (o : Obj) : Box3 (A.alloc o) b x y z := h.below (below_alloc1 A o) h.lt

theorem Box3.kept {A B : World} {b : Nat} {x y z : Value} {S : Nat → Prop} (h : Box3 A b x y z) (k : Kept S A B) (hb : S b) : Box3 B b x y z :=
  ⟨Nat.lt_of_lt_of_le h.lt k.size, (k.cell (p := ⟨b, 0, none⟩) h.lt hb).trans h.c0, (k.cell (p := ⟨b, 1, none⟩) h.lt hb).trans h.c1, (k.cell (p := ⟨b, 2, none⟩) h.lt hb).trans h.c2,
    (k.frozen (p := ⟨b, 0, none⟩) h.lt hb).trans h.f0, (k.frozen (p := ⟨b, 1, none⟩) h.lt hb).trans h.f1, (k.frozen (p := ⟨b, 2, none⟩) h.lt hb).trans h.f2⟩

set_option maxHeartbeats 1000000 in
set_option maxRecDepth 100000 in
theorem to_one (x : Fx) (W : World) : Calls Try.prog 11 #[fv x] W fun e W' => e = .returned (fv x) ∧ Below W.heap.size W W' := by
  obtain ⟨nm, sd, lv⟩ := x
  unfold fv
  go_enter Try.func11, Try.ntmps11
  go_wp2_with fail
  refine bodyPost_ret (v := .agg #[.string nm, .int .i64 sd, .int .i64 lv]) (by simp [results, Try.results11, go_sem]) rfl ⟨rfl, ?_⟩
  exact below_alloc3 _ _ _ _

/-- Room for n cells. -/
def Room (W : World) (g n : Nat) : Prop := ∀ j, j < n → (∃ v, W.cell? ⟨g, j, none⟩ = some v) ∧ W.frozen? ⟨g, j, none⟩ = false

theorem Room.below {A B : World} {n g m : Nat} (h : Room A g m) (k : Below n A B) (hg : g < n) : Room B g m := fun j hj => by
  obtain ⟨⟨v, hv⟩, hf⟩ := h j hj
  exact ⟨⟨v, (k.cell (p := ⟨g, j, none⟩) hg).trans hv⟩, (k.frozen (p := ⟨g, j, none⟩) hg).trans hf⟩

theorem Room.set {A : World} {g m : Nat} (h : Room A g m) (i : Nat) (v : Value) : Room (A.setCell ⟨g, i, none⟩ v) g m := fun j hj => by
  obtain ⟨⟨u, hu⟩, hf⟩ := h j hj
  refine ⟨?_, by rw [World.frozen?_setCell]; exact hf⟩
  by_cases e : j = i
  · subst e
    exact ⟨v, World.cell?_setCell_same' _ _ _ (by rw [hu]; rfl)⟩
  · exact ⟨u, by rw [World.cell?_setCell_other _ _ _ _ (by simp)]; exact hu⟩

theorem Room.made (w : World) (cur : Array Value) (t : TypeId) : Room (w.alloc (.cells cur t)) w.heap.size cur.size := fun j hj =>
  ⟨⟨cur[j], by simp [hj]⟩, by simp⟩

theorem Try.info25 : (Try.prog.info? 25).map (fun i => (i.zero, i.size, i.bytes)) = some (some (.agg #[.string ⟨#[]⟩, .int .i64 0, .int .i64 0]), 3, 32) := by kernel_rfl

theorem run_make_fx (n : Nat) (hn : n ≤ 1048576) (w : World) :
    (Instr.makeSlice 27 (.int .i64 (n : Int)) (.int .i64 (n : Int))).run Try.prog w = .ok (.slice (some ⟨w.heap.size, 0, none⟩) n n) (w.alloc (.cells (madeCells (Value.agg #[.string ⟨#[]⟩, .int .i64 0, .int .i64 0]).cells (n * 3)) 25)) := by
  obtain ⟨i, hi, hzz⟩ := Option.map_eq_some_iff.1 Try.info25
  simp only [Prod.mk.injEq] at hzz
  obtain ⟨hz, hs, hb⟩ := hzz
  have hr := run_make (P := Try.prog) w 27 25 i _ Try.underlying27 hi hz .i64 .i64 n n (by omega) (Int.le_refl _) (by rw [hb]; omega) (by omega)
  simp only [Int.toNat_natCast, hs] at hr
  exact hr

set_option maxHeartbeats 1000000 in
set_option maxRecDepth 100000 in
theorem to_all (L : List Fx) (W : World) (a : Option Addr) (cap : Nat) (ht : ft L ≤ 1048576) (hs : FSl W W.heap.size a cap L) :
    Calls Try.prog 6 #[.slice a L.length cap] W fun e W' => e = .returned (.slice (some ⟨W.heap.size, 0, none⟩) L.length L.length) ∧ Below W.heap.size W W' ∧ FRow W' L W.heap.size 0 ∧ W.heap.size < W'.heap.size := by
  unfold ft at ht
  have hmk := run_make_fx L.length (by omega)
  go_enter Try.func6, Try.ntmps6
  go_wp2_with fail
  clear hmk
  obtain ⟨W0, hW0⟩ : ∃ W0, W.alloc (.cells (madeCells #[.string ⟨#[]⟩, .int .i64 0, .int .i64 0] (L.length * 3)) 25) = W0 := ⟨_, rfl⟩
  have hR0 : Room W0 W.heap.size (L.length * 3) := by
    rw [← hW0]
    have := Room.made W (madeCells #[.string ⟨#[]⟩, .int .i64 0, .int .i64 0] (L.length * 3)) 25
    rwa [size_madeCells] at this
  have hB0 : Below W.heap.size W W0 := by rw [← hW0]; exact below_alloc1 _ _
  have hz0 : W0.heap.size = W.heap.size + 1 := by rw [← hW0]; simp
  rw [hW0]
  clear hW0
  go_loopw [4] (fun s4 wr => ∃ (i : Nat), s4 = .int .i64 i ∧ i ≤ L.length ∧ FRow wr (L.take i) W.heap.size 0 ∧ Room wr W.heap.size (L.length * 3) ∧ Below W.heap.size W wr ∧ W.heap.size + 1 ≤ wr.heap.size) (fun s4 _ => L.length - (intOf s4).toNat)
  case atStart => exact ⟨0, rfl, by omega, fun j x h => by simp at h, hR0, hB0, by omega⟩
  case round =>
    obtain ⟨i, rfl, hi, hrow, hR, bel, hz⟩ := hrel
    by_cases hl : i < L.length
    · obtain ⟨x, hx⟩ : ∃ x, L[i]? = some x := ⟨L[i], by simp [hl]⟩
      obtain ⟨b, o, rfl, hb, hrw⟩ := hs.row (by omega)
      obtain ⟨c1, c2, c3⟩ := (hrw.below bel hb) i x hx
      have hl' : (i : Int) < L.length := by omega
      have HT := hide (to_one x wr)
      unfold fv at HT
      go_wp2_with fail
      refine HT.out.mono ?_
      rintro e w1 ⟨rfl, b1⟩
      obtain ⟨⟨v0, a0⟩, f0⟩ := (hR.below b1 (by omega)) (i * 3) (by omega)
      obtain ⟨⟨v1, a1⟩, f1⟩ := (hR.below b1 (by omega)) (i * 3 + 1) (by omega)
      obtain ⟨⟨v2, a2⟩, f2⟩ := (hR.below b1 (by omega)) (i * 3 + 2) (by omega)
      go_wp2_with fail
      go_roundw
      case rel =>
        have hz1 := b1.size
        obtain ⟨w4, hw4⟩ : ∃ w4, ((w1.setCell ⟨W.heap.size, i * 3, none⟩ (.string x.nm)).setCell ⟨W.heap.size, i * 3 + 1, none⟩ (.int .i64 x.sd)).setCell ⟨W.heap.size, i * 3 + 2, none⟩ (.int .i64 x.lv) = w4 := ⟨_, rfl⟩
        have hk4 : Kept (fun c => c ≠ W.heap.size) w1 w4 := by
          rw [← hw4]
          refine ((Kept.setCell _ _ _ _ ?_).trans (Kept.setCell _ _ _ _ ?_)).trans (Kept.setCell _ _ _ _ ?_) <;> simp
        have hz4 : w4.heap.size = w1.heap.size := by rw [← hw4]; simp [World.setCell]
        have hR4 : Room w4 W.heap.size (L.length * 3) := by rw [← hw4]; exact (((hR.below b1 (by omega)).set _ _).set _ _).set _ _
        have n0' : w4.cell? ⟨W.heap.size, i * 3, none⟩ = some (.string x.nm) := by
          rw [← hw4, World.cell?_setCell_other _ _ _ _ (by simp), World.cell?_setCell_other _ _ _ _ (by simp)]
          exact World.cell?_setCell_same' _ _ _ (by rw [a0]; rfl)
        have n1' : w4.cell? ⟨W.heap.size, i * 3 + 1, none⟩ = some (.int .i64 x.sd) := by
          rw [← hw4, World.cell?_setCell_other _ _ _ _ (by simp)]
          exact World.cell?_setCell_same' _ _ _ (by rw [World.cell?_setCell_other _ _ _ _ (by simp), a1]; rfl)
        have n2' : w4.cell? ⟨W.heap.size, i * 3 + 2, none⟩ = some (.int .i64 x.lv) := by
          rw [← hw4]
          exact World.cell?_setCell_same' _ _ _ (by rw [World.cell?_setCell_other _ _ _ _ (by simp), World.cell?_setCell_other _ _ _ _ (by simp), a2]; rfl)
        have hold : ∀ j, j < i * 3 → ∀ v, w1.cell? ⟨W.heap.size, j, none⟩ = some v → w4.cell? ⟨W.heap.size, j, none⟩ = some v := fun j hj v hv => by
          rw [← hw4, World.cell?_setCell_other _ _ _ _ (by simp), World.cell?_setCell_other _ _ _ _ (by simp), World.cell?_setCell_other _ _ _ _ (by simp)]
          exact hv
        rw [hw4]
        clear hw4
        refine ⟨i + 1, by go_num, by omega, ?_, hR4, ?_, by omega⟩
        · intro j y hy
          rw [List.getElem?_take] at hy
          split at hy
          · rename_i hj
            by_cases e : j = i
            · subst e
              rw [hx] at hy
              cases hy
              simp only [Nat.zero_add]
              exact ⟨n0', n1', n2'⟩
            · obtain ⟨q1, q2, q3⟩ := (hrow.below b1 (by omega)) j y (by rw [List.getElem?_take, if_pos (by omega)]; exact hy)
              simp only [Nat.zero_add] at q1 q2 q3 ⊢
              exact ⟨hold _ (by omega) _ q1, hold _ (by omega) _ q2, hold _ (by omega) _ q3⟩
          · cases hy
        · exact (bel.trans (b1.mono (by omega))).trans (hk4.below (fun c hc => by show c ≠ _; omega) (by omega))
      case measure => simp [intOf]; omega
    · obtain rfl : i = L.length := by omega
      rw [List.take_length] at hrow
      go_wp2_with fail
      go_ret
      exact ⟨rfl, bel, hrow, by omega⟩

end Go.Proofs.Ytcmelghjoapglaa
