import Derived.Test.YtmfngmkhdppnjaaPc
namespace Go.Proofs.Ytmfngmkhdppnjaa
open Go.RowKit Go.Joins

/-- The list of modules. -/
def LS (w : World) (n0 : Nat) (F : Fo) (a : Option Addr) (cap : Nat) : Prop := F.Sl w (fun b => b < n0) a cap

theorem LS.get {w wr : World} {n0 : Nat} {F : Fo} {a : Option Addr} {cap : Nat} (h : LS w n0 F a cap) (hb : Below n0 w wr) (i : Nat) (hi : i < F.len) :
    ∃ d, F.l[i]? = some d ∧ ∃ b o, a = some ⟨b, o, none⟩ ∧ d.At wr (fun b => b < n0) b (o + i * 3) := by
  obtain ⟨b, o, rfl, hlt, hrow⟩ := h.2.2 (by omega)
  refine ⟨F.l[i]'(by rw [Fo.l_length]; exact hi), by simp [Fo.l_length, hi], b, o, rfl, ?_⟩
  exact (hrow.below hb (fun _ x => x) hlt).get i _ (by simp [Fo.l_length, hi])

theorem Fo.l_size : ∀ (F : Fo) (i : Nat) (d : Nd), F.l[i]? = some d → d.ks.size < F.size
  | .nil, i, d, h => by simp [Fo.l] at h
  | .cons _ _ _ _ ks r, 0, d, h => by
    simp only [Fo.l, List.getElem?_cons_zero, Option.some.injEq] at h
    subst h
    simp only [Fo.size]; omega
  | .cons _ _ _ _ ks r, i + 1, d, h => by
    simp only [Fo.l, List.getElem?_cons_succ] at h
    have := r.l_size i d h
    simp only [Fo.size]; omega

theorem LS.name {w : World} {n0 : Nat} {F : Fo} {a : Option Addr} {cap : Nat} (h : LS w n0 F a cap) {i : Nat} {d e : Nd} (hd : F.l[i]? = some d) (he : e ∈ d.ks.l) : e.nm.size ≤ maxLen := by
  have hi : i < F.len := by rw [← Fo.l_length]; exact (List.getElem?_eq_some_iff.1 hd).1
  obtain ⟨d', hd', b, o, -, hat⟩ := h.get (Below.refl _ _) i hi
  cases hd.symm.trans hd'
  obtain ⟨q, hq⟩ := List.getElem?_of_mem he
  have hq' : q < d.ks.len := by rw [← Fo.l_length]; exact (List.getElem?_eq_some_iff.1 hq).1
  obtain ⟨b', o', -, -, hrow⟩ := hat.sl.2.2 (by omega)
  exact (hrow.get q e hq).nm

theorem Box3.kept {A B : World} {b : Nat} {x y z : Value} {S : Nat → Prop} (h : Box3 A b x y z) (k : Kept S A B) (hb : S b) : Box3 B b x y z :=
  ⟨Nat.lt_of_lt_of_le h.lt k.size, (k.cell (p := ⟨b, 0, none⟩) h.lt hb).trans h.c0, (k.cell (p := ⟨b, 1, none⟩) h.lt hb).trans h.c1, (k.cell (p := ⟨b, 2, none⟩) h.lt hb).trans h.c2,
    (k.frozen (p := ⟨b, 0, none⟩) h.lt hb).trans h.f0, (k.frozen (p := ⟨b, 1, none⟩) h.lt hb).trans h.f1, (k.frozen (p := ⟨b, 2, none⟩) h.lt hb).trans h.f2⟩

theorem md_get {F : Fo} {i : Nat} {d : Nd} (h : F.l[i]? = some d) : F.md[i]? = some ⟨d.k, d.nm, d.ks.ims⟩ := by rw [Fo.md_l, List.getElem?_map, h]; rfl

theorem nms_get {F : Fo} {i : Nat} {d : Nd} (h : F.l[i]? = some d) : (nms F.md)[i]? = some d.nm := by unfold nms; rw [List.getElem?_map, md_get h]; rfl

theorem bad_kind {F : Fo} {i : Nat} {d : Nd} (h : F.l[i]? = some d) (hk : d.k ≠ 68) : ¬ Good F.md := fun hg => hk (hg.1 _ (List.mem_of_getElem? (md_get h)))

theorem bad_name {F : Fo} {i : Nat} {d : Nd} (h : F.l[i]? = some d) (hk : (atN ((nms F.md).take i) d.nm).isSome = true) : ¬ Good F.md := fun hg => by
  cases e : atN ((nms F.md).take i) d.nm with
  | none => rw [e] at hk; cases hk
  | some j =>
    obtain ⟨h1, h2, -⟩ := atN_lt e
    have hji : j < i := by
      rw [List.length_take] at h1; omega
    rw [List.getElem?_take, if_pos hji] at h2
    have h3 := nms_get h
    have hj : j < (nms F.md).length := (List.getElem?_eq_some_iff.1 h2).1
    have hi : i < (nms F.md).length := (List.getElem?_eq_some_iff.1 h3).1
    have := (List.getElem_inj (h₀ := hj) (h₁ := hi) hg.2.1).1 (by
      rw [List.getElem?_eq_getElem hj] at h2
      rw [List.getElem?_eq_getElem hi] at h3
      exact (Option.some.inj h2).trans (Option.some.inj h3).symm)
    omega

theorem bad_import {F : Fo} {i : Nat} {d : Nd} {t : ByteArray} (h : F.l[i]? = some d) (ht : t ∈ d.ks.ims) (hk : atN (nms F.md) t = none) : ¬ Good F.md := fun hg =>
  atN_none hk (hg.2.2 _ (List.mem_of_getElem? (md_get h)) t ht)

theorem run_mk53 (n : Nat) (hn : n ≤ 1048576) (w : World) :
    (Instr.makeSlice 53 (.int .i64 (n : Int)) (.int .i64 (n : Int))).run Try.prog w = .ok (.slice (some ⟨w.heap.size, 0, none⟩) n n) (w.alloc (.cells (madeCells #[.int .i64 0] n) 3)) := by
  obtain ⟨i, hi, hzz⟩ := Option.map_eq_some_iff.1 (show (Try.prog.info? 3).map (fun i => (i.zero, i.size, i.bytes)) = some (some (.int .i64 0), 1, 8) by kernel_rfl)
  simp only [Prod.mk.injEq] at hzz
  obtain ⟨hz, hs, hb⟩ := hzz
  have hr := run_make (P := Try.prog) w 53 3 i _ Try.underlying53 hi hz .i64 .i64 n n (by omega) (Int.le_refl _) (by rw [hb]; omega) (by omega)
  simp only [Int.toNat_natCast, hs, Nat.mul_one] at hr
  exact hr

theorem run_mk54 (n : Nat) (hn : n ≤ 1048576) (w : World) :
    (Instr.makeSlice 54 (.int .i64 (n : Int)) (.int .i64 (n : Int))).run Try.prog w = .ok (.slice (some ⟨w.heap.size, 0, none⟩) n n) (w.alloc (.cells (madeCells #[.slice none 0 0] n) 24)) := by
  obtain ⟨i, hi, hzz⟩ := Option.map_eq_some_iff.1 (show (Try.prog.info? 24).map (fun i => (i.zero, i.size, i.bytes)) = some (some (.slice none 0 0), 1, 24) by kernel_rfl)
  simp only [Prod.mk.injEq] at hzz
  obtain ⟨hz, hs, hb⟩ := hzz
  have hr := run_make (P := Try.prog) w 54 24 i _ Try.underlying54 hi hz .i64 .i64 n n (by omega) (Int.le_refl _) (by rw [hb]; omega) (by omega)
  simp only [Int.toNat_natCast, hs, Nat.mul_one] at hr
  exact hr

theorem PC.start (w : World) (n : Nat) (hn : n ≤ 1048576) (D : Nat → List Nat) : PC w ((w.alloc (.cells (madeCells #[.int .i64 0] n) 3)).alloc (.cells (madeCells #[.slice none 0 0] n) 24)) w.heap.size n D 0 0 (List.replicate n 0) (fun _ => .slice none 0 0) := by
  have ha : ∀ z : Value, (madeCells #[z] n).size = n := fun z => by simp [size_madeCells]
  have hcell : ∀ (w : World) (z : Value) (t : TypeId) (a : Nat), a < n → (w.alloc (.cells (madeCells #[z] n) t)).cell? ⟨w.heap.size, a, none⟩ = some z := fun w z t a ha' => by
    rw [Lib.cell_of_heap (heap_new w _)]
    have h1 : (madeCells #[z] n)[a]? = (madeCells #[z] n).toList[a]? := by simp
    rw [h1, toList_madeCells_one]
    simp [ha']
  have hz : (w.alloc (.cells (madeCells #[.int .i64 0] n) 3)).heap.size = w.heap.size + 1 := by simp
  refine ⟨by simp, ?_, fun k hk => ?_, fun a ha' => ⟨?_, ?_⟩, fun a ha' => ?_, fun a b _ _ _ c hc => by simp [Value.ownBlock] at hc, below_alloc2 _ _ _, by simp⟩
  · have h1 : MR (w.alloc (.cells (madeCells #[.int .i64 0] n) 3)) (.slice (some ⟨w.heap.size, 0, none⟩) n n) (List.replicate n 0) := by
      refine ⟨by simp, .inr ⟨w.heap.size, n, madeCells #[.int .i64 0] n, by simp, Nat.zero_le _, heap_new w _, by simp, by unfold maxLen; omega, by simp [ha], ?_⟩⟩
      rw [toList_madeCells_one]
      simp [iv]
    exact h1.kept (Kept.alloc (fun _ => True) _ _) (fun _ _ => trivial)
  · simp only [Nat.not_lt_zero, if_false]
    have : g (List.replicate n 0) k = 0 := by simp [g, hk]
    rw [this]; split <;> rfl
  · have := hcell (w.alloc (.cells (madeCells #[.int .i64 0] n) 3)) (.slice none 0 0) 24 a ha'
    rwa [hz] at this
  · have h1 := heap_new (w.alloc (.cells (madeCells #[.int .i64 0] n) 3)) (.cells (madeCells #[.slice none 0 0] n) 24)
    rw [hz] at h1
    unfold World.frozen?
    rw [h1]
    simp
  · have e : imp D 0 a ++ List.replicate (((D 0).take 0).count a) 0 = [] := by simp [imp]
    rw [e]
    exact IR.nil _ _

/-- What orderOf answers. -/
def OA (F : Fo) (w w' : World) (v er : Value) : Prop :=
  Below w.heap.size w w' ∧ ((er = .nilIface ∧ IR w.heap.size w' v (ordF F.md)) ∨ (∃ u, er = .iface 48 u ∧ ordF F.md = []))

end Go.Proofs.Ytmfngmkhdppnjaa
