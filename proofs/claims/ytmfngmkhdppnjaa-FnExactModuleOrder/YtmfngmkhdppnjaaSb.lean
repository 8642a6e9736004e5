import Derived.Test.YtmfngmkhdppnjaaSa
namespace Go.Proofs.Ytmfngmkhdppnjaa
open Go.RowKit Go.Joins

theorem run_mk39 (n : Nat) (hn : n ≤ 1048576) (w : World) :
    (Instr.makeSlice 39 (.int .i64 (n : Int)) (.int .i64 (n : Int))).run Try.prog w = .ok (.slice (some ⟨w.heap.size, 0, none⟩) n n) (w.alloc (.cells (madeCells #[.bool false] n) 4)) := by
  obtain ⟨i, hi, hzz⟩ := Option.map_eq_some_iff.1 (show (Try.prog.info? 4).map (fun i => (i.zero, i.size, i.bytes)) = some (some (.bool false), 1, 1) by kernel_rfl)
  simp only [Prod.mk.injEq] at hzz
  obtain ⟨hz, hs, hb⟩ := hzz
  have hr := run_make (P := Try.prog) w 39 4 i _ Try.underlying39 hi hz .i64 .i64 n n (by omega) (Int.le_refl _) (by rw [hb]; omega) (by omega)
  simp only [Int.toNat_natCast, hs, Nat.mul_one] at hr
  exact hr

theorem DR.start (w : World) (n : Nat) : DR (w.alloc (.cells (madeCells #[.bool false] n) 4)) w.heap.size n [] := fun i hi => by
  refine ⟨?_, ?_⟩
  · rw [Lib.cell_of_heap (heap_new w _)]
    have h1 : (madeCells #[Value.bool false] n)[i]? = (madeCells #[Value.bool false] n).toList[i]? := by simp
    rw [h1, toList_madeCells_one]
    simp [hi, isIn]
  · have h1 := heap_new w (.cells (madeCells #[.bool false] n) 4)
    unfold World.frozen?
    rw [h1]
    simp

theorem DR.kept {w w' : World} {db n : Nat} {out : List Nat} {S : Nat → Prop} (h : DR w db n out) (k : Kept S w w') (hdb : db < w.heap.size) (hS : S db) : DR w' db n out := fun i hi =>
  ⟨(k.cell (p := ⟨db, i, none⟩) hdb hS).trans (h i hi).1, (k.frozen (p := ⟨db, i, none⟩) hdb hS).trans (h i hi).2⟩

theorem DR.set {w : World} {db n : Nat} {out : List Nat} (h : DR w db n out) (x : Nat) : DR (w.setCell ⟨db, x, none⟩ (.bool true)) db n (out ++ [x]) := fun i hi => by
  refine ⟨?_, by rw [World.frozen?_setCell]; exact (h i hi).2⟩
  by_cases e : i = x
  · subst e
    rw [World.cell?_setCell_same _ _ _ (h i hi).1]
    simp [isIn]
  · rw [World.cell?_setCell_other _ _ _ _ (fun e2 => e (congrArg Addr.off e2).symm), (h i hi).1]
    simp [isIn, e]

theorem IR.empty (w : World) : IR w.heap.size (w.alloc (.cells #[] 2)) (.slice (some ⟨w.heap.size, 0, none⟩) 0 0) [] :=
  ⟨rfl, .inr ⟨w.heap.size, 0, #[], rfl, Nat.le_refl _, heap_new w _, Nat.le_refl _, by unfold maxLen; omega, rfl, rfl⟩⟩

/-- What is known when i modules have been looked at. -/
structure Kn (F : Fo) (i : Nat) : Prop where
  kd : ∀ j d, j < i → F.l[j]? = some d → d.k = 68
  nd : ((nms F.md).take i).Nodup
  im : ∀ j d t, j < i → F.l[j]? = some d → t ∈ d.ks.ims → t ∈ nms F.md

theorem Kn.good {F : Fo} {i : Nat} (h : Kn F i) (hi : F.len ≤ i) : Good F.md := by
  have hl : F.l.length = F.len := Fo.l_length F
  refine ⟨fun m hm => ?_, ?_, fun m hm t ht => ?_⟩
  · rw [Fo.md_l] at hm
    obtain ⟨d, hd, rfl⟩ := List.mem_map.1 hm
    obtain ⟨k, hk⟩ := List.getElem?_of_mem hd
    have := (List.getElem?_eq_some_iff.1 hk).1
    exact h.kd k d (by omega) hk
  · have := h.nd
    rwa [List.take_of_length_le (by unfold nms; rw [List.length_map, Fo.md_length]; exact hi)] at this
  · rw [Fo.md_l] at hm
    obtain ⟨d, hd, rfl⟩ := List.mem_map.1 hm
    obtain ⟨k, hk⟩ := List.getElem?_of_mem hd
    have := (List.getElem?_eq_some_iff.1 hk).1
    exact h.im k d t (by omega) hk ht

theorem Kn.next {F : Fo} {i : Nat} {d : Nd} (h : Kn F i) (hd : F.l[i]? = some d) (hk : d.k = 68) (hn : ∀ j, j < i → (nms F.md)[j]? ≠ some d.nm) (hm : ∀ t ∈ d.ks.ims, t ∈ nms F.md) : Kn F (i + 1) := by
  refine ⟨fun j d' hj hd' => ?_, ?_, fun j d' t hj hd' ht => ?_⟩
  · by_cases e : j = i
    · subst e; cases hd.symm.trans hd'; exact hk
    · exact h.kd j d' (by omega) hd'
  · rw [List.take_add_one, nms_get hd, List.nodup_append]
    refine ⟨h.nd, by simp, fun x hx y hy e => ?_⟩
    simp only [Option.toList_some, List.mem_singleton] at hy
    subst hy e
    obtain ⟨j, hj⟩ := List.getElem?_of_mem hx
    have hji : j < i := by have := (List.getElem?_eq_some_iff.1 hj).1; rw [List.length_take] at this; omega
    rw [List.getElem?_take, if_pos hji] at hj
    exact hn j hji hj
  · by_cases e : j = i
    · subst e; cases hd.symm.trans hd'; exact hm t ht
    · exact h.im j d' t (by omega) hd' ht

theorem bad_same {F : Fo} {i j : Nat} {d : Nd} (hd : F.l[i]? = some d) (hj : j < i) (hn : (nms F.md)[j]? = some d.nm) : ¬ Good F.md := fun hg => by
  have h3 := nms_get hd
  have hj' : j < (nms F.md).length := (List.getElem?_eq_some_iff.1 hn).1
  have hi' : i < (nms F.md).length := (List.getElem?_eq_some_iff.1 h3).1
  have := (List.getElem_inj (h₀ := hj') (h₁ := hi') hg.2.1).1 (by
    rw [List.getElem?_eq_getElem hj'] at hn
    rw [List.getElem?_eq_getElem hi'] at h3
    exact (Option.some.inj hn).trans (Option.some.inj h3).symm)
  omega

/-- Where the search stands: m is the next place from above. -/
def Fd (D : Nat → List Nat) (n : Nat) (out : List Nat) (m : Nat) (nx : Int) : Prop :=
  (nx = -1 ∧ ∀ x, m ≤ x → x < n → rdy D out x = false) ∨ (∃ x : Nat, nx = (x : Int) ∧ m ≤ x ∧ x < n ∧ rdy D out x = true ∧ ∀ y, m ≤ y → y < x → rdy D out y = false)

theorem Fd.start (D : Nat → List Nat) (n : Nat) (out : List Nat) : Fd D n out n (-1) := .inl ⟨rfl, fun x h1 h2 => by omega⟩
theorem Fd.yes {D : Nat → List Nat} {n : Nat} {out : List Nat} {m : Nat} (hm : m < n) (hr : rdy D out m = true) : Fd D n out m (m : Int) := .inr ⟨m, rfl, Nat.le_refl _, hm, hr, fun y h1 h2 => by omega⟩
theorem Fd.no {D : Nat → List Nat} {n : Nat} {out : List Nat} {m : Nat} {nx : Int} (h : Fd D n out (m + 1) nx) (hr : rdy D out m = false) : Fd D n out m nx := by
  rcases h with ⟨h1, h2⟩ | ⟨x, h1, h2, h3, h4, h5⟩
  · refine .inl ⟨h1, fun x hx hn => ?_⟩
    by_cases e : x = m
    · rw [e]; exact hr
    · exact h2 x (by omega) hn
  · refine .inr ⟨x, h1, by omega, h3, h4, fun y hy hn => ?_⟩
    by_cases e : y = m
    · rw [e]; exact hr
    · exact h5 y (by omega) hn
theorem Fd.none {D : Nat → List Nat} {n : Nat} {out : List Nat} (h : Fd D n out 0 (-1)) : nxt D n out = none := by
  rcases h with ⟨-, h2⟩ | ⟨x, h1, -⟩
  · unfold nxt
    rw [List.find?_eq_none]
    intro x hx
    rw [h2 x (Nat.zero_le _) (List.mem_range.1 hx)]
    simp
  · omega
theorem Fd.some {D : Nat → List Nat} {n : Nat} {out : List Nat} {x : Nat} (h : Fd D n out 0 (x : Int)) : nxt D n out = some x ∧ x < n := by
  rcases h with ⟨h1, -⟩ | ⟨y, h1, -, h3, h4, h5⟩
  · omega
  · obtain rfl : x = y := by omega
    refine ⟨?_, h3⟩
    unfold nxt
    rw [List.find?_range_eq_some]
    exact ⟨h4, List.mem_range.2 h3, fun j hj => by rw [h5 j (Nat.zero_le _) hj]; rfl⟩

/-- The model's state between two rounds. -/
structure PS (w wr : World) (db n : Nat) (out : List Nat) (vo : Value) : Prop where
  ir : IR w.heap.size wr vo out
  dr : DR wr db n out
  ne : vo.ownBlock ≠ some db
  n0 : vo.ownBlock ≠ some w.heap.size
  be : Below w.heap.size w wr
  lo : w.heap.size < db
  hi : db < wr.heap.size
  e0 : IR w.heap.size wr (.slice (some ⟨w.heap.size, 0, none⟩) 0 0) []

theorem PS.kept {w wr w' : World} {db n : Nat} {out : List Nat} {vo : Value} (h : PS w wr db n out vo) (k : Kept (fun _ => True) wr w') : PS w w' db n out vo :=
  ⟨h.ir.kept k (fun _ _ => trivial), h.dr.kept k h.hi trivial, h.ne, h.n0, Below.kept h.be k (fun _ _ => trivial) (Nat.le_refl _), h.lo, Nat.lt_of_lt_of_le h.hi k.size, h.e0.kept k (fun _ _ => trivial)⟩

theorem PS.step {w wr w2 w5 : World} {db n x b cap len : Nat} {out : List Nat} {vo : Value} (h : PS w wr db n out vo) (k2 : Kept (fun _ => True) (wr.setCell ⟨db, x, none⟩ (.bool true)) w2)
    (hR : IR w.heap.size w5 (.slice (some ⟨b, 0, none⟩) len cap) (out ++ [x])) (hg : w2.grownBy w5 vo.ownBlock) (hat : vo.ownBlock = some b ∨ b = w2.heap.size) :
    PS w w5 db n (out ++ [x]) (.slice (some ⟨b, 0, none⟩) len cap) := by
  have hz1 : (wr.setCell ⟨db, x, none⟩ (.bool true)).heap.size = wr.heap.size := by simp
  have hz2 := k2.size
  have hz5 := hg.size
  have hl := h.lo
  have hh := h.hi
  have k1 : Kept (fun c => c ≠ db) wr (wr.setCell ⟨db, x, none⟩ (.bool true)) := Kept.setCell _ _ _ _ (by simp)
  have k5 : Kept (fun c => vo.ownBlock ≠ some c) (wr.setCell ⟨db, x, none⟩ (.bool true)) w5 := (k2.mono (fun _ _ _ => trivial)).trans (Kept.grown hg (fun k hk hc => hc hk))
  have hbz : b ≠ db ∧ b ≠ w.heap.size := by
    rcases hat with e | e
    · exact ⟨fun e2 => h.ne (by rw [e, e2]), fun e2 => h.n0 (by rw [e, e2])⟩
    · omega
  refine ⟨hR, (h.dr.set x).kept k5 (by rw [hz1]; exact hh) h.ne, fun e => hbz.1 (by simpa [Value.ownBlock] using e), fun e => hbz.2 (by simpa [Value.ownBlock] using e),
    Below.kept (Below.kept h.be k1 (fun c hc => by omega) (Nat.le_refl _)) k5 (fun c hc e => ?_) (Nat.le_refl _), hl, by omega, (h.e0.kept k1 (fun c hc => ?_)).kept k5 (fun c hc => ?_)⟩
  · have := (h.ir.lt c e).1; omega
  · simp only [Value.ownBlock, Option.some.injEq] at hc; omega
  · simp only [Value.ownBlock, Option.some.injEq] at hc
    subst hc
    exact h.n0

theorem rdy_eq (D : Nat → List Nat) (out : List Nat) (x : Nat) : rdy D out x = (!isIn out x && rd D out x) := rfl

end Go.Proofs.Ytmfngmkhdppnjaa
