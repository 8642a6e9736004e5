import Derived.Test.YtcmelghjoapglaaFF
namespace Go.Proofs.Ytcmelghjoapglaa
open Go.RowKit Go.Shelf Go.Joins

attribute [local go_sem] Oper.semAt_some

/-- A table in memory: its block, a bound of its entries, what it tells. -/
structure Tb where
  m : Nat
  n : Nat
  L : List Fx

/-- All that a row of tables tells, the last one first. -/
def told (Rs : List Tb) : List Fx := Rs.flatMap (·.L)

theorem told_app (A B : List Tb) : told (A ++ B) = told A ++ told B := List.flatMap_append

theorem told_take {Rs : List Tb} {k : Nat} {m : Tb} (h : Rs[k]? = some m) (t : ByteArray) : fnd (told (Rs.take (k + 1))) t = (fnd (told (Rs.take k)) t).or (fnd m.L t) := by
  rw [List.take_add_one, h, told_app, fnd_app]
  simp [told]

theorem told_hit {Rs : List Tb} {k : Nat} {m : Tb} (h : Rs[k]? = some m) {t : ByteArray} (h0 : fnd (told (Rs.take k)) t = none) {x : Fx} (hx : fnd m.L t = some x) : fnd (told Rs) t = some x := by
  have e := List.take_append_drop (k + 1) Rs
  rw [← e, told_app, fnd_app, told_take h, h0, hx]
  rfl

theorem Box3.set3 {W : World} {b : Nat} {x y z : Value} (h : Box3 W b x y z) (x' y' z' : Value) : Box3 (((W.setCell ⟨b, 0, none⟩ x').setCell ⟨b, 1, none⟩ y').setCell ⟨b, 2, none⟩ z') b x' y' z' := by
  refine ⟨by simp [World.setCell]; exact h.lt, ?_, ?_, ?_, ?_, ?_, ?_⟩
  · rw [World.cell?_setCell_other _ _ _ _ (by simp), World.cell?_setCell_other _ _ _ _ (by simp)]
    exact World.cell?_setCell_same' _ _ _ (by rw [h.c0]; rfl)
  · rw [World.cell?_setCell_other _ _ _ _ (by simp)]
    exact World.cell?_setCell_same' _ _ _ (by rw [World.cell?_setCell_other _ _ _ _ (by simp), h.c1]; rfl)
  · exact World.cell?_setCell_same' _ _ _ (by rw [World.cell?_setCell_other _ _ _ _ (by simp), World.cell?_setCell_other _ _ _ _ (by simp), h.c2]; rfl)
  · simp only [World.frozen?_setCell]; exact h.f0
  · simp only [World.frozen?_setCell]; exact h.f1
  · simp only [World.frozen?_setCell]; exact h.f2

theorem Kept.set3 {S : Nat → Prop} {W : World} {b : Nat} (h : ¬ S b) (x' y' z' : Value) : Kept S W (((W.setCell ⟨b, 0, none⟩ x').setCell ⟨b, 1, none⟩ y').setCell ⟨b, 2, none⟩ z') :=
  ((Kept.setCell _ _ _ _ h).trans (Kept.setCell _ _ _ _ h)).trans (Kept.setCell _ _ _ _ h)

/-- Nothing is found yet. -/
structure OI (w : World) (Rs : List Tb) (t : ByteArray) (k : Nat) (O : Nat → Prop) (W : World) : Prop where
  no : fnd (told (Rs.take k)) t = none
  c : W.cell? ⟨w.heap.size, 0, none⟩ = some (.string t)
  q : Box3 W (w.heap.size + 1) (.string ⟨#[]⟩) (.int .i64 0) (.int .i64 0)
  o0 : ¬ O w.heap.size
  o1 : ¬ O (w.heap.size + 1)
  b : Below w.heap.size w W
  o : ∀ b, O b → w.heap.size ≤ b

/-- It is found. -/
structure OX (w : World) (Rs : List Tb) (t : ByteArray) (c : Code) (O : Nat → Prop) (W : World) : Prop where
  ret : c = .ret
  q : ∃ x : Fx, fnd (told Rs) t = some x ∧ Box3 W (w.heap.size + 1) (.string x.nm) (.int .i64 x.sd) (.int .i64 x.lv)
  o1 : ¬ O (w.heap.size + 1)
  b : Below w.heap.size w W
  o : ∀ b, O b → w.heap.size ≤ b

theorem OI.abid (w : World) (Rs : List Tb) (t : ByteArray) : Abid (OI w Rs t) := by
  rintro k O O' A B ⟨h1, h2, h3, h4, h5, h6, h7⟩ hK hn
  have hl : w.heap.size + 1 < A.heap.size := h3.lt
  refine ⟨h1, (hK.cell (p := ⟨w.heap.size, 0, none⟩) (by show w.heap.size < _; omega) h4).trans h2, h3.kept hK h5, fun x => ?_, fun x => ?_, Below.kept h6 hK (fun b hb x => ?_) (Nat.le_refl _), fun b x => ?_⟩
  · rcases hn _ x with y | y
    · exact h4 y
    · omega
  · rcases hn _ x with y | y
    · exact h5 y
    · omega
  · have := h7 b x; omega
  · rcases hn b x with y | y
    · exact h7 b y
    · have := h6.size; omega

theorem OX.abid (w : World) (Rs : List Tb) (t : ByteArray) (c : Code) : Abid (fun (_ : Nat) O W => OX w Rs t c O W) := by
  rintro k O O' A B ⟨h1, ⟨x, h2, h3⟩, h5, h6, h7⟩ hK hn
  have hl : w.heap.size + 1 < A.heap.size := h3.lt
  refine ⟨h1, ⟨x, h2, h3.kept hK h5⟩, fun x => ?_, Below.kept h6 hK (fun b hb x => ?_) (Nat.le_refl _), fun b x => ?_⟩
  · rcases hn _ x with y | y
    · exact h5 y
    · omega
  · have := h7 b x; omega
  · rcases hn b x with y | y
    · exact h7 b y
    · have := h6.size; omega

set_option maxRecDepth 100000 in
set_option maxHeartbeats 2000000 in
theorem of_in (F : Fence) (n : Nat) (h13 : F.fn 13) (h16 : F.fn 15) (h18 : F.fn 17) (hro : F.round = none) (hn : 3 ≤ n) (ob b o cap : Nat) (Ms : List Tb) (t : ByteArray) (w : World)
    (hob : ob < w.heap.size) (hcell : w.cell? ⟨ob, 0, none⟩ = some (.slice (some ⟨b, o, none⟩) Ms.length cap)) (hlen : Ms.length ≤ 1048576) (hb : b < w.heap.size)
    (hrow : ∀ i m, Ms[i]? = some m → w.cell? ⟨b, o + i, none⟩ = some (.map (some m.m))) (hms : ∀ m ∈ Ms, FM w m.m m.n m.L) (ht : t.size ≤ maxLen) :
    CallsIn F n Try.prog 13 #[.pointer (some ⟨ob, 0, none⟩), .string t] w fun e w' => e = .returned (fv (fxOf (told Ms.reverse) t)) ∧ Below w.heap.size w w' := by
  have h1 : 1 ≤ n := by omega
  refine callsIn_of_wp_marks Try.func13 rfl h13 ?_ hro
  simp only [Try.ntmps13, List.size_toArray, List.length_cons, List.length_nil, Nat.reduceAdd, Nat.reduceSub, Array.replicate_succ, Array.replicate_zero, List.push_toArray, List.append_toArray, List.nil_append, List.cons_append]
  have c1 : (w.alloc (.cells #[.string t] 9)).cell? ⟨ob, 0, none⟩ = some (.slice (some ⟨b, o, none⟩) Ms.length cap) := ((below_alloc1 w (.cells #[.string t] 9)).cell (p := ⟨ob, 0, none⟩) hob).trans hcell
  have c2 := ((below_alloc1 (w.alloc (.cells #[.string t] 9)) (.cells #[.string ⟨#[]⟩, .int .i64 0, .int .i64 0] 25)).cell (p := ⟨ob, 0, none⟩) (by simp; omega)).trans c1
  gi_wp2_with (gi_at_call 15; refine (back_in F (n - 1) h16 hro _ ⟨_, _, _, rfl⟩ _).mono ?_; rintro e w' ⟨rfl, rfl⟩)
  obtain ⟨W0, hW0⟩ : ∃ W0, ((w.alloc (.cells #[.string t] 9)).alloc (.cells #[.string ⟨#[]⟩, .int .i64 0, .int .i64 0] 25)).alloc (.cells #[.slice (some ⟨b, o, none⟩) Ms.length cap] 38) = W0 := ⟨_, rfl⟩
  have hz0 : W0.heap.size = w.heap.size + 3 := by rw [← hW0]; simp
  have hB0 : Below w.heap.size w W0 := by rw [← hW0]; exact below_alloc3 _ _ _ _
  have one : ∀ (A : World) (v : Value) (ty : TypeId), (A.alloc (.cells #[v] ty)).cell? ⟨A.heap.size, 0, none⟩ = some v := fun A v ty => by simp
  have hq0 : Box3 W0 (w.heap.size + 1) (.string ⟨#[]⟩) (.int .i64 0) (.int .i64 0) := by
    rw [← hW0]
    have := Box3.new (w.alloc (.cells #[.string t] 9)) (.string ⟨#[]⟩) (.int .i64 0) (.int .i64 0) 25
    rw [World.size_alloc] at this
    exact this.alloc _
  have hct : W0.cell? ⟨w.heap.size, 0, none⟩ = some (.string t) := by
    rw [← hW0]
    exact ((below_alloc2 _ _ _).cell (p := ⟨w.heap.size, 0, none⟩) (by simp)).trans (one w (.string t) 9)
  have hbx : W0.cell? ⟨w.heap.size + 1 + 1, 0, none⟩ = some (.slice (some ⟨b, o, none⟩) (Ms.map (fun m => Value.map (some m.m))).length cap) := by
    rw [← hW0, List.length_map]
    have := one ((w.alloc (.cells #[.string t] 9)).alloc (.cells #[.string ⟨#[]⟩, .int .i64 0, .int .i64 0] 25)) (.slice (some ⟨b, o, none⟩) Ms.length cap) 38
    rw [World.size_alloc, World.size_alloc] at this
    exact this
  have hrw : ∀ i v, (Ms.map (fun m => Value.map (some m.m)))[i]? = some v → W0.cell? ⟨b, o + i, none⟩ = some v := fun i v h => by
    rw [List.getElem?_map] at h
    obtain ⟨m, hm, rfl⟩ := Option.map_eq_some_iff.1 h
    exact (hB0.cell (p := ⟨b, o + i, none⟩) hb).trans (hrow i m hm)
  have hm0 : ∀ m ∈ Ms, FM W0 m.m m.n m.L := fun m hm => (hms m hm).below hB0 (hms m hm).lt
  rw [hW0]
  clear hW0 c1 c2 one
  have fin : ∀ (D : Nat) (A : Act) (x : Fx) (V : World), (A = { tmps := A.tmps, defers := [{ target := .collected D, args := #[] }] } ∧ A.tmps[4]? = some (.pointer (some ⟨w.heap.size + 1, 0, none⟩))) → W0.heap.size ≤ D → D ≠ w.heap.size + 1 → V.heap[D]? = some (.deferred (some [])) →
      Box3 V (w.heap.size + 1) (.string x.nm) (.int .i64 x.sd) (.int .i64 x.lv) → Below w.heap.size w V → bodyPostM F n Try.prog Try.f13 (fun e w' => e = .returned (fv x) ∧ Below w.heap.size w w') .ret A V := by
    rintro D ⟨tm, df⟩ x V ⟨hA, h4⟩ hD hDn hK q bl
    cases hA
    refine ⟨by simp, .inl ⟨_, _, rfl, run_takeDeferred hK, ?_⟩⟩
    have q' := q.kept (Kept.putObj (fun c => c ≠ D) V D (.deferred none) (by simp)) (Ne.symm hDn)
    obtain ⟨-, d0, d1, d2, -, -, -⟩ := q'
    exact ⟨.agg #[.string x.nm, .int .i64 x.sd, .int .i64 x.lv], by simp [results, Try.results13, go_sem, h4, d0, d1, d2], rfl, bl.trans (belowK_b (w := w) (Nat.le_refl _) V D _ _ (by omega) hK rfl rfl)⟩
  have hlm : (Ms.map (fun m => Value.map (some m.m))).length = Ms.length := List.length_map _
  refine wpIn_rangeS hro h1 (gf := 17) (lb := #[.pointer (some ⟨w.heap.size + 1 + 1, 0, none⟩)]) rfl h18 (enters_of Try.func17 (by kernel_rfl) rfl)
    (back_seq F (n - 1) h18 hro (by omega) (w.heap.size + 1 + 1) (fun c => c < w.heap.size ∨ c = w.heap.size + 1 + 1) (.inr rfl) (Ms.map (fun m => Value.map (some m.m))) b o cap (.inl hb) W0 (fun c h => by omega) (by omega) hbx hrw) (Below.refl _ _) (fun c h => by omega) (fun _ => rfl)
    (OI w Ms.reverse t) (fun c _ O W => OX w Ms.reverse t c O W) (OI.abid _ _ _) (fun c => OX.abid _ _ _ c) ⟨rfl, hct, hq0, fun h => h, fun h => h, hB0, fun _ h => h.elim⟩
    (fun k _ a' _ => ∃ (m : Tb) (x y : Value), Ms.reverse[k]? = some m ∧ a' = { tmps := #[.pointer (some ⟨ob, 0, none⟩), .string t, undef, .pointer (some ⟨w.heap.size, 0, none⟩), .pointer (some ⟨w.heap.size + 1, 0, none⟩), undef, .map (some m.m), undef, undef,
      .pointer (some ⟨ob, 0, none⟩), .pointer (some ⟨ob, 0, none⟩), .pointer (some ⟨ob, 0, none⟩), .slice (some ⟨b, o, none⟩) Ms.length cap, .func (.func 17) #[] #[.pointer (some ⟨w.heap.size + 1 + 1, 0, none⟩)], x, y,
      undef, undef, undef, undef, undef, undef, undef, undef, undef, undef, undef, undef, undef, undef], defers := [] })
    ?assign ?body ?done ?stop
  case assign =>
    intro l i O W K hi _ hI hK
    rw [hlm] at hi
    obtain ⟨m, hm⟩ : ∃ m, Ms.reverse[i]? = some m := ⟨Ms.reverse[i]'(by simpa using hi), by simp [hi]⟩
    have hget : (Ms.map (fun m => Value.map (some m.m))).getD (Ms.length - 1 - i) undef = .map (some m.m) := by
      rw [List.getElem?_reverse hi] at hm
      rw [List.getD_eq_getElem?_getD, List.getElem?_map, hm]
      rfl
    have hK2 := fun x y => hK _ W (Kept.refl _ _) hI ⟨m, x, y, hm, rfl⟩
    clear hK
    simp only [hlm, hget]
    generalize ((Ms.length - 1 - i : Nat) : Int) = q
    gi_wp2
    simpa using hK2 (.int .i64 q) (.map (some m.m))
  case body =>
    rintro l i O a' W1 W hi ⟨m, x, y, hm, rfl⟩ _ _ ⟨i1, i2, i3, i4, i5, i6, i7⟩ hO
    have hmem : m ∈ Ms := List.mem_reverse.1 (List.mem_of_getElem? hm)
    have hfm := (hms m hmem).below i6 (hms m hmem).lt
    have hlk := hfm.look t ht
    have hnm : ∀ c, (O c ∨ c < w.heap.size ∨ c = w.heap.size + 1 + 1) → c ≠ w.heap.size + 1 := fun c h e => by
      rcases h with h | h | h
      · exact i5 (e ▸ h)
      · omega
      · omega
    have HNM := hide hnm
    clear hnm
    have h3l := i3.lt
    have b7 : ∀ ob, Below W.heap.size W (W.alloc ob) := fun ob => below_alloc1 W ob
    cases hf : fnd m.L t with
    | some y =>
      have HX := hide (told_hit hm i1 hf)
      obtain ⟨yn, ys, yl⟩ := y
      have hl : lk m.L t = .agg #[.string yn, .int .i64 ys, .int .i64 yl] := by unfold lk; rw [hf]; rfl
      rw [hl, hf] at hlk
      simp only [Option.isSome_some] at hlk
      clear hf hl i1 hm
      obtain ⟨-, d0, d1, d2, e0, e1, e2⟩ := id i3
      have hne : w.heap.size + 1 ≠ W.heap.size := by omega
      have hne' : ¬ W.heap.size = w.heap.size + 1 := by omega
      gi_wp2_with fail
      have hS : ¬ (O (w.heap.size + 1) ∨ w.heap.size + 1 < w.heap.size ∨ w.heap.size + 1 = w.heap.size + 1 + 1) := fun h => HNM.out _ h rfl
      refine ⟨(Kept.set3 (S := fun c => O c ∨ c < w.heap.size ∨ c = w.heap.size + 1 + 1) hS _ _ _).trans (Kept.alloc _ _ _), rfl, ⟨_, HX.out, (i3.set3 _ _ _).alloc _⟩, i5, ?_, i7⟩
      refine i6.trans (Kept.below (S := fun c => c ≠ w.heap.size + 1) ((Kept.set3 (by simp) _ _ _).trans (Kept.alloc _ _ _)) (fun c hc => by show c ≠ _; omega) i6.size)
    | none =>
      have HX := hide (told_take hm t)
      have hl : lk m.L t = .agg #[.string ⟨#[]⟩, .int .i64 0, .int .i64 0] := by unfold lk; rw [hf]; rfl
      rw [hl, hf] at hlk
      rw [hf] at HX
      simp only [Option.isSome_none] at hlk
      clear hf hl hm
      have I1 := hide i1
      clear i1
      gi_wp2_with fail
      refine ⟨Kept.alloc _ _ _, by rw [HX.out, I1.out]; rfl, ((below_alloc1 _ _).cell (p := ⟨w.heap.size, 0, none⟩) (by show w.heap.size < _; omega)).trans i2, i3.alloc _, i4, i5, ?_, i7⟩
      exact i6.trans ((below_alloc1 _ _).mono i6.size)
  case done =>
    rintro D O W hD hOD hO ⟨i1, i2, i3, i4, i5, i6, i7⟩ hK
    rw [hlm, ← List.length_reverse, List.take_length] at i1
    obtain ⟨-, d0, d1, d2, e0, e1, e2⟩ := id i3
    have hDn : D ≠ w.heap.size + 1 := fun e => i5 (e ▸ hOD)
    have hDl : D < W.heap.size := (Array.getElem?_eq_some_iff.1 hK).1
    by_cases h58 : t = ⟨#[58]⟩
    · have hh := hide (show fxOf (told Ms.reverse) t = ⟨t, 2, 5⟩ by unfold fxOf; rw [i1]; simp [dft, h58])
      clear i1
      subst h58
      gi_wp2_with fail
      rw [hh.out]
      refine fin D _ ⟨⟨#[58]⟩, 2, 5⟩ _ ⟨rfl, rfl⟩ hD hDn ?_ (i3.set3 _ _ _) (i6.trans (Kept.below (S := fun c => c ≠ w.heap.size + 1) (Kept.set3 (by simp) _ _ _) (fun c hc => by show c ≠ _; omega) i6.size))
      exact ((Kept.set3 (S := fun c => c ≠ w.heap.size + 1) (by simp) _ _ _).block D hDl hDn).trans hK
    · have hh := hide (show fxOf (told Ms.reverse) t = ⟨t, 1, 9⟩ by unfold fxOf; rw [i1]; simp [dft, h58])
      have h58' := ne58 h58
      clear i1
      gi_wp2_with fail
      rw [hh.out]
      refine fin D _ ⟨t, 1, 9⟩ _ ⟨rfl, rfl⟩ hD hDn ?_ (i3.set3 _ _ _) (i6.trans (Kept.below (S := fun c => c ≠ w.heap.size + 1) (Kept.set3 (by simp) _ _ _) (fun c hc => by show c ≠ _; omega) i6.size))
      exact ((Kept.set3 (S := fun c => c ≠ w.heap.size + 1) (by simp) _ _ _).block D hDl hDn).trans hK
  case stop =>
    rintro D c i O W hD hOD hO _ ⟨rfl, ⟨x, i2, i3⟩, i5, i6, i7⟩ hK
    obtain ⟨-, d0, d1, d2, e0, e1, e2⟩ := id i3
    have hDn : D ≠ w.heap.size + 1 := fun e => i5 (e ▸ hOD)
    gi_wp2_with fail
    have hx : fxOf (told Ms.reverse) t = x := by unfold fxOf; rw [i2]; rfl
    rw [hx]
    exact fin D _ x _ ⟨rfl, rfl⟩ hD hDn hK i3 i6

end Go.Proofs.Ytcmelghjoapglaa
