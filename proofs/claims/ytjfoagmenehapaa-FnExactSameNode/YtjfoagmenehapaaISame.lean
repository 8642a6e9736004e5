import Derived.Test.YtjfoagmenehapaaPairs
namespace Go.Proofs.Ytjfoagmenehapaa
open Go.RowKit Go.Shelf Go.Joins

attribute [local go_sem] Oper.semAt_some

theorem same_all (x y : Nd) : sameN x.k x.nm x.F y.k y.nm y.F = (visS [(x, y)]).all pairOk := by
  simp only [sameN, visS, List.append_nil, List.all_cons, pairOk, vis_same]
  cases decide (x.k = y.k) <;> cases decide (x.nm = y.nm) <;> cases decide (x.F.len = y.F.len) <;> rfl

set_option maxHeartbeats 1000000 in
theorem pairsOf_in (F : Fence) (n : Nat) (h16 : F.fn 16) (hro : F.round = none) (k : Int) (nm : ByteArray) (a : Option Addr) (len cap : Nat) (k' : Int) (nm' : ByteArray) (a' : Option Addr) (len' cap' : Nat) (w : World) :
    CallsIn F n Try.prog 16 #[.agg #[.int .i64 k, .string nm, .slice a len cap], .agg #[.int .i64 k', .string nm', .slice a' len' cap']] w fun e w' =>
      e = .returned (.func (.func 18) #[] #[.pointer (some ⟨w.heap.size, 0, none⟩), .pointer (some ⟨w.heap.size + 1, 0, none⟩)]) ∧
      w' = (w.alloc (.cells #[.int .i64 k, .string nm, .slice a len cap] 29)).alloc (.cells #[.int .i64 k', .string nm', .slice a' len' cap'] 29) := by
  refine callsIn_of_wp Try.func16 rfl h16 ?_ hro
  simp only [Try.ntmps16, List.size_toArray, List.length_cons, List.length_nil, Nat.reduceAdd, Nat.reduceSub, Array.replicate_succ, Array.replicate_zero, List.push_toArray, List.append_toArray, List.nil_append, List.cons_append]
  gi_wp2_with fail
  exact bodyPost_ret (results_tmp rfl _ _ _) rfl ⟨rfl, rfl⟩

/-- The answer's variable, and how far all was the same. -/
def SamI (w : World) (c : Nat) (LL : List (Nd × Nd)) (k : Nat) (O : Nat → Prop) (W : World) : Prop :=
  (W.cell? ⟨c, 0, none⟩ = some (.bool false) ∧ W.frozen? ⟨c, 0, none⟩ = false ∧ ¬ O c ∧ Below w.heap.size w W ∧ ∀ b, O b → w.heap.size ≤ b) ∧ (LL.take k).all pairOk = true

def SamX (w : World) (c : Nat) (LL : List (Nd × Nd)) (cd : Code) (_ : Nat) (O : Nat → Prop) (W : World) : Prop :=
  cd = .ret ∧ (W.cell? ⟨c, 0, none⟩ = some (.bool false) ∧ W.frozen? ⟨c, 0, none⟩ = false ∧ ¬ O c ∧ Below w.heap.size w W ∧ ∀ b, O b → w.heap.size ≤ b) ∧ LL.all pairOk = false

theorem cell_abid {w : World} {c : Nat} {O O' : Nat → Prop} {A B : World} {v : Value} (h : A.cell? ⟨c, 0, none⟩ = some v ∧ A.frozen? ⟨c, 0, none⟩ = false ∧ ¬ O c ∧ Below w.heap.size w A ∧ ∀ b, O b → w.heap.size ≤ b)
    (hK : Kept (fun b => ¬ O b) A B) (hn : ∀ b, O' b → O b ∨ A.heap.size ≤ b) : B.cell? ⟨c, 0, none⟩ = some v ∧ B.frozen? ⟨c, 0, none⟩ = false ∧ ¬ O' c ∧ Below w.heap.size w B ∧ ∀ b, O' b → w.heap.size ≤ b := by
  obtain ⟨h1, h2, h3, h4, h5⟩ := h
  have hl : c < A.heap.size := block_lt_of_cell h1
  refine ⟨(hK.cell (p := ⟨c, 0, none⟩) hl h3).trans h1, (hK.frozen (p := ⟨c, 0, none⟩) hl h3).trans h2, fun x => ?_, Below.kept h4 hK (fun b hb x => ?_) (Nat.le_refl _), fun b x => ?_⟩
  · rcases hn c x with y | y
    · exact h3 y
    · omega
  · have := h5 b x; omega
  · rcases hn b x with y | y
    · exact h5 b y
    · have := h4.size; omega

theorem SamI.abid (w : World) (c : Nat) (LL : List (Nd × Nd)) : Abid (SamI w c LL) := fun _ _ _ _ _ h hK hn => ⟨cell_abid h.1 hK hn, h.2⟩
theorem SamX.abid (w : World) (c : Nat) (LL : List (Nd × Nd)) (cd : Code) : Abid (SamX w c LL cd) := fun _ _ _ _ _ h hK hn => ⟨h.1, cell_abid h.2.1 hK hn, h.2.2⟩

set_option maxRecDepth 100000 in
set_option maxHeartbeats 2000000 in
theorem isame_in (n : Nat) (hn : 3 ≤ n) (x y : Nd) (w : World) (hx : x.Ok w w.heap.size) (hy : y.Ok w w.heap.size) (hsz : x.F.size ≤ 1048576) :
    CallsIn Fence.wide n Try.prog 11 #[.agg #[.int .i64 x.k, .string x.nm, .slice x.a x.F.len x.cap], .agg #[.int .i64 y.k, .string y.nm, .slice y.a y.F.len y.cap]] w fun e W' =>
      e = .returned (.bool ((visS [(x, y)]).all pairOk)) ∧ Below w.heap.size w W' := by
  have h1 : 1 ≤ n := by omega
  refine callsIn_of_wp_marks Try.func11 rfl trivial ?_ rfl
  simp only [Try.ntmps11, List.size_toArray, List.length_cons, List.length_nil, Nat.reduceAdd, Nat.reduceSub, Array.replicate_succ, Array.replicate_zero, List.push_toArray, List.append_toArray, List.nil_append, List.cons_append]
  gi_wp2_with (refine ⟨trivial, ?_⟩; gi_at_call 16; refine (pairsOf_in Fence.wide (n - 1) trivial rfl _ _ _ _ _ _ _ _ _ _ _).mono ?_; rintro e w' ⟨rfl, rfl⟩)
  obtain ⟨A, hA⟩ : ∃ A, (w.alloc (.cells #[.int .i64 x.k, .string x.nm, .slice x.a x.F.len x.cap] 29)).alloc (.cells #[.int .i64 y.k, .string y.nm, .slice y.a y.F.len y.cap] 29) = A := ⟨_, rfl⟩
  obtain ⟨W0, hW0⟩ : ∃ W0, ((A.alloc (.cells #[.bool false] 4)).alloc (.cells #[.int .i64 x.k, .string x.nm, .slice x.a x.F.len x.cap] 29)).alloc (.cells #[.int .i64 y.k, .string y.nm, .slice y.a y.F.len y.cap] 29) = W0 := ⟨_, rfl⟩
  have zA : A.heap.size = w.heap.size + 1 + 1 := by rw [← hA]; simp
  have bA : Below w.heap.size w A := by rw [← hA]; exact below_alloc2 _ _ _
  have z0 : W0.heap.size = w.heap.size + 5 := by rw [← hW0]; simp [zA]
  have bB : Below A.heap.size A W0 := by rw [← hW0]; exact below_alloc3 _ _ _ _
  have hB0 : Below w.heap.size w W0 := bA.trans (bB.mono (by omega))
  have qx : Box3 W0 (w.heap.size + 1 + 1 + 1) (.int .i64 x.k) (.string x.nm) (.slice x.a x.F.len x.cap) := by
    rw [← hW0]
    have := (Box3.new (A.alloc (.cells #[.bool false] 4)) (.int .i64 x.k) (.string x.nm) (.slice x.a x.F.len x.cap) 29).alloc (.cells #[.int .i64 y.k, .string y.nm, .slice y.a y.F.len y.cap] 29)
    simpa [zA] using this
  have qy : Box3 W0 (w.heap.size + 1 + 1 + 1 + 1) (.int .i64 y.k) (.string y.nm) (.slice y.a y.F.len y.cap) := by
    rw [← hW0]
    have := Box3.new ((A.alloc (.cells #[.bool false] 4)).alloc (.cells #[.int .i64 x.k, .string x.nm, .slice x.a x.F.len x.cap] 29)) (.int .i64 y.k) (.string y.nm) (.slice y.a y.F.len y.cap) 29
    simpa [zA] using this
  have hc0 : SamI w (w.heap.size + 1 + 1) (visS [(x, y)]) 0 (fun _ => False) W0 := by
    have h1 : ∀ (A : World) (v : Value) (t : TypeId), (A.alloc (.cells #[v] t)).cell? ⟨A.heap.size, 0, none⟩ = some v ∧ (A.alloc (.cells #[v] t)).frozen? ⟨A.heap.size, 0, none⟩ = false := fun A v t => ⟨by simp, by simp⟩
    have h2 := h1 A (.bool false) 4
    rw [zA] at h2
    have hcl := below_alloc2 (A.alloc (.cells #[.bool false] 4)) (.cells #[.int .i64 x.k, .string x.nm, .slice x.a x.F.len x.cap] 29) (.cells #[.int .i64 y.k, .string y.nm, .slice y.a y.F.len y.cap] 29)
    rw [hW0, World.size_alloc, zA] at hcl
    exact ⟨⟨(hcl.cell (p := ⟨w.heap.size + 1 + 1, 0, none⟩) (by simp)).trans h2.1, (hcl.frozen (p := ⟨w.heap.size + 1 + 1, 0, none⟩) (by simp)).trans h2.2, fun z => z, hB0, fun _ z => z.elim⟩, rfl⟩
  rw [hA, hW0]
  clear hA hW0
  refine wpIn_range rfl h1 (gf := 18) (lb := #[.pointer (some ⟨w.heap.size + 1 + 1 + 1, 0, none⟩), .pointer (some ⟨w.heap.size + 1 + 1 + 1 + 1, 0, none⟩)]) rfl trivial (enters_of Try.func18 (by kernel_rfl) rfl)
    (pairs_seq (n - 1) (by omega) (w.heap.size + 1 + 1 + 1) (w.heap.size + 1 + 1 + 1 + 1) w.heap.size x y W0 (by omega) qx qy ⟨hx.1.below hB0 (fun _ z => z), hx.2⟩ ⟨hy.1.below hB0 (fun _ z => z), hy.2⟩ hsz) (Below.refl _ _) (by omega) (fun _ => rfl)
    (SamI w (w.heap.size + 1 + 1) (visS [(x, y)])) (SamX w (w.heap.size + 1 + 1) (visS [(x, y)])) (SamI.abid _ _ _) (SamX.abid _ _ _) hc0
    (fun i O a' W => ∃ (b5 b6 : Nat) (v v' : Value), ¬ O b5 ∧ ¬ O b6 ∧
      Box3 W b5 (.int .i64 ((visS [(x, y)]).getD i (x, y)).1.k) (.string ((visS [(x, y)]).getD i (x, y)).1.nm) (.slice ((visS [(x, y)]).getD i (x, y)).1.a ((visS [(x, y)]).getD i (x, y)).1.F.len ((visS [(x, y)]).getD i (x, y)).1.cap) ∧
      Box3 W b6 (.int .i64 ((visS [(x, y)]).getD i (x, y)).2.k) (.string ((visS [(x, y)]).getD i (x, y)).2.nm) (.slice ((visS [(x, y)]).getD i (x, y)).2.a ((visS [(x, y)]).getD i (x, y)).2.F.len ((visS [(x, y)]).getD i (x, y)).2.cap) ∧
      a' = { tmps := #[.agg #[.int .i64 x.k, .string x.nm, .slice x.a x.F.len x.cap], .agg #[.int .i64 y.k, .string y.nm, .slice y.a y.F.len y.cap], .pointer (some ⟨w.heap.size, 0, none⟩), .pointer (some ⟨w.heap.size + 1, 0, none⟩), .pointer (some ⟨w.heap.size + 1 + 1, 0, none⟩), .pointer (some ⟨b5, 0, none⟩), .pointer (some ⟨b6, 0, none⟩), .agg #[.int .i64 x.k, .string x.nm, .slice x.a x.F.len x.cap], .agg #[.int .i64 y.k, .string y.nm, .slice y.a y.F.len y.cap],
        .func (.func 18) #[] #[.pointer (some ⟨w.heap.size + 1 + 1 + 1, 0, none⟩), .pointer (some ⟨w.heap.size + 1 + 1 + 1 + 1, 0, none⟩)], v, v', undef, undef, undef, undef, undef, undef, undef, undef, undef, undef, undef, undef, undef, undef, undef, undef, undef, undef, undef, undef, undef], defers := [] })
    ?assign ?body ?done ?stop
  case assign =>
    intro l i O W K hi hOb hI hK
    have HK := hide hK
    clear hK
    unfold encs2
    generalize (visS [(x, y)]).getD i (x, y) = p at HK ⊢
    generalize hT : Array.foldl _ _ _ = T
    have hT' : T = #[.agg #[.int .i64 x.k, .string x.nm, .slice x.a x.F.len x.cap], .agg #[.int .i64 y.k, .string y.nm, .slice y.a y.F.len y.cap], .pointer (some ⟨w.heap.size, 0, none⟩), .pointer (some ⟨w.heap.size + 1, 0, none⟩), .pointer (some ⟨w.heap.size + 1 + 1, 0, none⟩), undef, undef, .agg #[.int .i64 x.k, .string x.nm, .slice x.a x.F.len x.cap], .agg #[.int .i64 y.k, .string y.nm, .slice y.a y.F.len y.cap],
        .func (.func 18) #[] #[.pointer (some ⟨w.heap.size + 1 + 1 + 1, 0, none⟩), .pointer (some ⟨w.heap.size + 1 + 1 + 1 + 1, 0, none⟩)], p.1.val, p.2.val, undef, undef, undef, undef, undef, undef, undef, undef, undef, undef, undef, undef, undef, undef, undef, undef, undef, undef, undef, undef, undef] := by
      rw [← hT]
      simp
    subst hT'
    obtain ⟨⟨k5, n5, a5, p5, F5⟩, ⟨k6, n6, a6, p6, F6⟩⟩ := p
    simp only [Nd.val, nodeV]
    clear hT
    gi_wp2_with fail
    obtain ⟨⟨c1, c2, c3, c4, c5⟩, hall⟩ := hI
    have hK2 : Kept (fun _ => True) W ((W.alloc (.cells #[.int .i64 k5, .string n5, .slice a5 F5.len p5] 29)).alloc (.cells #[.int .i64 k6, .string n6, .slice a6 F6.len p6] 29)) := (Kept.alloc _ _ _).trans (Kept.alloc _ _ _)
    refine HK.out _ _ hK2 ⟨cell_abid ⟨c1, c2, c3, c4, c5⟩ (hK2.mono (fun _ _ _ => trivial)) (fun b z => .inl z), hall⟩ ⟨W.heap.size, W.heap.size + 1, _, _, ?_, ?_, (Box3.new _ _ _ _ _).alloc _, ?_, rfl⟩
    · exact fun z => Nat.lt_irrefl _ (hOb _ z).lt
    · exact fun z => by have := (hOb _ z).lt; omega
    · have := Box3.new (W.alloc (.cells #[.int .i64 k5, .string n5, .slice a5 F5.len p5] 29)) (.int .i64 k6) (.string n6) (.slice a6 F6.len p6) 29
      rw [World.size_alloc] at this
      exact this
  case body =>
    rintro l i O a' W1 W hi ⟨b5, b6, v, v', nb5, nb6, q5, q6, rfl⟩ hK hOb ⟨⟨c1, c2, c3, c4, c5⟩, hall⟩ hO
    replace q5 := q5.kept hK nb5
    replace q6 := q6.kept hK nb6
    obtain ⟨p, hp⟩ : ∃ p, (visS [(x, y)]).getD i (x, y) = p := ⟨_, rfl⟩
    rw [hp] at q5 q6
    have hpi : (visS [(x, y)])[i]? = some p := by
      rw [List.getD_eq_getElem?_getD, List.getElem?_eq_getElem hi, Option.getD_some] at hp
      rw [List.getElem?_eq_getElem hi, hp]
    have hnext : pairOk p = true → ((visS [(x, y)]).take (i + 1)).all pairOk = true := fun h => by
      rw [List.take_add_one, List.all_append, hall, hpi]
      simp [h]
    have hfail : pairOk p = false → (visS [(x, y)]).all pairOk = false := fun h => by
      rw [List.all_eq_false]
      exact ⟨p, List.mem_of_getElem? hpi, by simp [h]⟩
    have HN := hide hnext
    have HF := hide hfail
    clear hnext hfail hp hpi hall
    generalize visS [(x, y)] = LL at HN HF ⊢
    obtain ⟨⟨k5, n5, a5, p5, F5⟩, ⟨k6, n6, a6, p6, F6⟩⟩ := p
    simp only at q5 q6
    obtain ⟨-, x0, x1, x2, -, -, -⟩ := q5
    obtain ⟨-, y0, y1, y2, -, -, -⟩ := q6
    have hstop : ∀ e, pairOk (⟨k5, n5, a5, p5, F5⟩, ⟨k6, n6, a6, p6, F6⟩) = false → e = W.setCell ⟨w.heap.size + 1 + 1, 0, none⟩ (.bool false) →
        Kept (fun b => O b ∨ b < w.heap.size) W e ∧ SamX w (w.heap.size + 1 + 1) LL .ret i O e := by
      rintro e h rfl
      refine ⟨Kept.setCell _ _ _ _ ?_, rfl, ⟨World.cell?_setCell_same' _ _ _ (by rw [c1]; rfl), by rw [World.frozen?_setCell]; exact c2, c3, c4.setCell (by show w.heap.size ≤ w.heap.size + 1 + 1; omega) _, c5⟩, HF.out h⟩
      rintro (h | h)
      · exact c3 h
      · exact absurd h (by show ¬ (w.heap.size + 1 + 1 < w.heap.size); omega)
    have HS := hide hstop
    clear hstop
    by_cases hk : k5 = k6
    · subst hk
      by_cases hnm : n5 = n6
      · subst hnm
        by_cases hl : F5.len = F6.len
        · rw [← hl] at y2
          have HO := hide (HN.out (by simp [pairOk, hl]))
          clear hl
          gi_wp2_with fail
          exact ⟨Kept.refl _ _, ⟨c1, c2, c3, c4, c5⟩, HO.out⟩
        · have HO := hide (HS.out _ (by simp [pairOk, hl]) rfl)
          gi_wp2_with fail
          exact HO.out
      · have hbb := (Go.Lib.bytes_beq_false_iff n5 n6).2 hnm
        have HO := hide (HS.out _ (by simp [pairOk, hnm]) rfl)
        gi_wp2_with fail
        exact HO.out
    · have HO := hide (HS.out _ (by simp [pairOk, hk]) rfl)
      gi_wp2_with fail
      exact HO.out
  case done =>
    rintro D O W hD hOD hO ⟨⟨c1, c2, c3, c4, c5⟩, hall⟩ hK
    gi_wp2_with fail
    have hDc : D ≠ w.heap.size + 1 + 1 := fun e => c3 (e ▸ hOD)
    have hK' := (KeepsOthers.setCell W ⟨w.heap.size + 1 + 1, 0, none⟩ (.bool true)).same D _ hK rfl
    refine ⟨by simp, .inl ⟨_, _, rfl, run_takeDeferred hK', ?_⟩⟩
    have hcell : ((W.setCell ⟨w.heap.size + 1 + 1, 0, none⟩ (.bool true)).putObj D (.deferred none)).cell? ⟨w.heap.size + 1 + 1, 0, none⟩ = some (.bool true) :=
      (World.cell?_of_block (World.putObj_heap_other (Ne.symm hDc))).trans (World.cell?_setCell_same' _ _ _ (by rw [c1]; rfl))
    rw [List.take_length] at hall
    rw [hall]
    refine ⟨.bool true, by simp [results, Try.results11, go_sem, hcell], rfl, ?_⟩
    exact (c4.setCell (by show w.heap.size ≤ w.heap.size + 1 + 1; omega) _).trans (belowK_b (w := w) (Nat.le_refl _) _ D _ _ (by omega) hK' rfl rfl)
  case stop =>
    rintro D c i O W hD hOD hO hi ⟨rfl, ⟨c1, c2, c3, c4, c5⟩, hall⟩ hK
    gi_wp2_with fail
    have hDc : D ≠ w.heap.size + 1 + 1 := fun e => c3 (e ▸ hOD)
    refine ⟨by simp, .inl ⟨_, _, rfl, run_takeDeferred hK, ?_⟩⟩
    have hcell : (W.putObj D (.deferred none)).cell? ⟨w.heap.size + 1 + 1, 0, none⟩ = some (.bool false) :=
      (World.cell?_of_block (World.putObj_heap_other (Ne.symm hDc))).trans c1
    rw [hall]
    refine ⟨.bool false, by simp [results, Try.results11, go_sem, hcell], rfl, ?_⟩
    exact c4.trans (belowK_b (w := w) (Nat.le_refl _) _ D _ _ (by omega) hK rfl rfl)

theorem isame (k : Int) (nm : ByteArray) (a : Option Addr) (cap : Nat) (ks : Fo) (k' : Int) (nm' : ByteArray) (a' : Option Addr) (cap' : Nat) (gs : Fo) (w : World) (hx : Nd.Ok w w.heap.size ⟨k, nm, a, cap, ks⟩) (hy : Nd.Ok w w.heap.size ⟨k', nm', a', cap', gs⟩) (hsz : ks.size ≤ 1048576) :
    Calls Try.prog 11 #[nodeV k nm a ks.len cap, nodeV k' nm' a' gs.len cap'] w fun e W' => e = .returned (.bool (sameN k nm ks k' nm' gs)) ∧ Below w.heap.size w W' := by
  have h := callsIn_wide.1 (isame_in 3 (Nat.le_refl _) ⟨k, nm, a, cap, ks⟩ ⟨k', nm', a', cap', gs⟩ w hx hy hsz)
  rw [← same_all] at h
  exact h

end Go.Proofs.Ytjfoagmenehapaa
