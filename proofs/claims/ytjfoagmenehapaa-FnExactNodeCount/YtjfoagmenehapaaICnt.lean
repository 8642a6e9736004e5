import Derived.Test.YtjfoagmenehapaaNodes
namespace Go.Proofs.Ytjfoagmenehapaa
open Go.RowKit Go.Shelf Go.Joins

attribute [local go_sem] Oper.semAt_some

set_option maxHeartbeats 1000000 in
theorem nodesOf_in (F : Fence) (n : Nat) (h14 : F.fn 14) (hro : F.round = none) (k : Int) (nm : ByteArray) (a : Option Addr) (len cap : Nat) (w : World) :
    CallsIn F n Try.prog 14 #[.agg #[.int .i64 k, .string nm, .slice a len cap]] w fun e w' => e = .returned (.func (.func 17) #[] #[.pointer (some ⟨w.heap.size, 0, none⟩)]) ∧ w' = w.alloc (.cells #[.int .i64 k, .string nm, .slice a len cap] 29) := by
  refine callsIn_of_wp Try.func14 rfl h14 ?_ hro
  simp only [Try.ntmps14, List.size_toArray, List.length_cons, List.length_nil, Nat.reduceAdd, Nat.reduceSub, Array.replicate_succ, Array.replicate_zero, List.push_toArray, List.append_toArray, List.nil_append, List.cons_append]
  gi_wp2_with fail
  exact bodyPost_ret (results_tmp rfl _ _ _) rfl ⟨rfl, rfl⟩

/-- A counter in a block of the caller's own. -/
def CntI (w : World) (c : Nat) (k : Nat) (O : Nat → Prop) (W : World) : Prop :=
  W.cell? ⟨c, 0, none⟩ = some (.int .i64 (k : Int)) ∧ W.frozen? ⟨c, 0, none⟩ = false ∧ ¬ O c ∧ Below w.heap.size w W ∧ ∀ b, O b → w.heap.size ≤ b

theorem CntI.abid (w : World) (c : Nat) : Abid (CntI w c) := by
  rintro k O O' A B ⟨h1, h2, h3, h4, h5⟩ hK hn
  have hl : c < A.heap.size := block_lt_of_cell h1
  refine ⟨(hK.cell (p := ⟨c, 0, none⟩) hl h3).trans h1, (hK.frozen (p := ⟨c, 0, none⟩) hl h3).trans h2, fun x => ?_, Below.kept h4 hK (fun b hb x => ?_) (Nat.le_refl _), fun b x => ?_⟩
  · rcases hn c x with y | y
    · exact h3 y
    · omega
  · have := h5 b x; omega
  · rcases hn b x with y | y
    · exact h5 b y
    · have := h4.size; omega

set_option maxRecDepth 100000 in
set_option maxHeartbeats 2000000 in
theorem icount_in (F : Fence) (n : Nat) (h8 : F.fn 8) (h14 : F.fn 14) (h17 : F.fn 17) (hro : F.round = none) (hn : 3 ≤ n) (k : Int) (nm : ByteArray) (a : Option Addr) (cap : Nat) (ks : Fo) (w : World)
    (hk : (Lit.int .i64 k).wf = true) (hnm : nm.size ≤ maxLen) (hs : ks.Sl w (fun b => b < w.heap.size) a cap) (hsz : ks.size ≤ 1048576) :
    CallsIn F n Try.prog 8 #[.agg #[.int .i64 k, .string nm, .slice a ks.len cap]] w fun e W' => e = .returned (.int .i64 ((1 + ks.size : Nat) : Int)) ∧ Below w.heap.size w W' := by
  have h1 : 1 ≤ n := by omega
  refine callsIn_of_wp_marks Try.func8 rfl h8 ?_ hro
  simp only [Try.ntmps8, List.size_toArray, List.length_cons, List.length_nil, Nat.reduceAdd, Nat.reduceSub, Array.replicate_succ, Array.replicate_zero, List.push_toArray, List.append_toArray, List.nil_append, List.cons_append]
  gi_wp2_with (gi_at_call 14; refine (nodesOf_in F (n - 1) h14 hro _ _ _ _ _ _).mono ?_; rintro e w' ⟨rfl, rfl⟩)
  obtain ⟨W0, hW0⟩ : ∃ W0, ((w.alloc (.cells #[.int .i64 k, .string nm, .slice a ks.len cap] 29)).alloc (.cells #[.int .i64 0] 2)).alloc (.cells #[.int .i64 k, .string nm, .slice a ks.len cap] 29) = W0 := ⟨_, rfl⟩
  have hz0 : W0.heap.size = w.heap.size + 3 := by rw [← hW0]; simp
  have hB0 : Below w.heap.size w W0 := by rw [← hW0]; exact below_alloc3 _ _ _ _
  have hq0 : Box3 W0 (w.heap.size + 1 + 1) (.int .i64 k) (.string nm) (.slice a ks.len cap) := by
    rw [← hW0]
    have := Box3.new ((w.alloc (.cells #[.int .i64 k, .string nm, .slice a ks.len cap] 29)).alloc (.cells #[.int .i64 0] 2)) (.int .i64 k) (.string nm) (.slice a ks.len cap) 29
    simpa using this
  have hcn : ((w.alloc (.cells #[.int .i64 k, .string nm, .slice a ks.len cap] 29)).alloc (.cells #[.int .i64 0] 2)).cell? ⟨w.heap.size + 1, 0, none⟩ = some (.int .i64 0) ∧
      ((w.alloc (.cells #[.int .i64 k, .string nm, .slice a ks.len cap] 29)).alloc (.cells #[.int .i64 0] 2)).frozen? ⟨w.heap.size + 1, 0, none⟩ = false := by
    have h1 : ∀ (A : World) (v : Value) (t : TypeId), (A.alloc (.cells #[v] t)).cell? ⟨A.heap.size, 0, none⟩ = some v ∧ (A.alloc (.cells #[v] t)).frozen? ⟨A.heap.size, 0, none⟩ = false := fun A v t => ⟨by simp, by simp⟩
    have := h1 (w.alloc (.cells #[.int .i64 k, .string nm, .slice a ks.len cap] 29)) (.int .i64 0) 2
    rwa [World.size_alloc] at this
  have hcl := below_alloc1 ((w.alloc (.cells #[.int .i64 k, .string nm, .slice a ks.len cap] 29)).alloc (.cells #[.int .i64 0] 2)) (.cells #[.int .i64 k, .string nm, .slice a ks.len cap] 29)
  have hc0 : CntI w (w.heap.size + 1) 0 (fun _ => False) W0 := by
    refine ⟨?_, ?_, fun x => x, hB0, fun _ x => x.elim⟩
    · rw [← hW0]; exact (hcl.cell (p := ⟨w.heap.size + 1, 0, none⟩) (by simp)).trans hcn.1
    · rw [← hW0]; exact (hcl.frozen (p := ⟨w.heap.size + 1, 0, none⟩) (by simp)).trans hcn.2
  rw [hW0]
  clear hW0
  refine wpIn_range hro h1 (gf := 17) (lb := #[.pointer (some ⟨w.heap.size + 1 + 1, 0, none⟩)]) rfl h17 (enters_of Try.func17 (by kernel_rfl) rfl)
    (nodes_seq F (n - 1) h17 hro (by omega) (w.heap.size + 1 + 1) w.heap.size k nm a cap ks W0 (by omega) hk hnm hq0 (hs.below hB0 (fun _ x => x)) hsz) (Below.refl _ _) (by omega) (fun _ => rfl)
    (CntI w (w.heap.size + 1)) (fun _ _ _ _ => False) (CntI.abid _ _) (fun _ _ _ _ _ _ h _ _ => h) hc0
    (fun _ _ a' _ => ∃ x y : Value, a' = { tmps := #[.agg #[.int .i64 k, .string nm, .slice a ks.len cap], .pointer (some ⟨w.heap.size, 0, none⟩), .int .i64 0, .pointer (some ⟨w.heap.size + 1, 0, none⟩), .agg #[.int .i64 k, .string nm, .slice a ks.len cap],
      .func (.func 17) #[] #[.pointer (some ⟨w.heap.size + 1 + 1, 0, none⟩)], x, y, undef, undef, undef], defers := [] })
    ?assign ?body ?done ?stop
  case assign =>
    intro l i O W K _ _ hI hK
    have hK2 := fun x y => hK _ W (Kept.refl _ _) hI ⟨x, y, rfl⟩
    clear hK
    simp only [encsOf]
    generalize List.getD _ i (0, undef) = p
    gi_wp2
    simpa using hK2 (.int .i64 (p.1 : Int)) p.2
  case body =>
    rintro l i O a' W1 W hi ⟨x, y, rfl⟩ _ _ ⟨c1, c2, c3, c4, c5⟩ hO
    gi_wp2_with fail
    refine ⟨Kept.setCell _ _ _ _ ?_, ?_, ?_, c3, c4.setCell (by show w.heap.size ≤ w.heap.size + 1; omega) _, c5⟩
    · rintro (h | h)
      · exact c3 h
      · exact absurd h (by show ¬ (w.heap.size + 1 < w.heap.size); omega)
    · exact World.cell?_setCell_same' _ _ _ (by rw [c1]; rfl)
    · rw [World.frozen?_setCell]; exact c2
  case done =>
    rintro D O W hD hOD hO ⟨c1, c2, c3, c4, c5⟩ hK
    gi_wp2_with fail
    refine ⟨by simp, .inl ⟨_, _, rfl, run_takeDeferred hK, ?_⟩⟩
    exact ⟨_, results_tmp rfl _ _ _, rfl, c4.trans (belowK_b (w := w) (Nat.le_refl _) W D _ _ (by omega) hK rfl rfl)⟩
  case stop =>
    rintro D c i O W _ _ _ _ h _
    exact h.elim

theorem icount (k : Int) (nm : ByteArray) (a : Option Addr) (cap : Nat) (ks : Fo) (w : World)
    (hk : (Lit.int .i64 k).wf = true) (hnm : nm.size ≤ maxLen) (hs : ks.Sl w (fun b => b < w.heap.size) a cap) (hsz : ks.size ≤ 1048576) :
    Calls Try.prog 8 #[nodeV k nm a ks.len cap] w fun e W' => e = .returned (.int .i64 ((1 + ks.size : Nat) : Int)) ∧ Below w.heap.size w W' :=
  callsIn_wide.1 (icount_in Fence.wide 3 trivial trivial trivial rfl (Nat.le_refl _) k nm a cap ks w hk hnm hs hsz)

end Go.Proofs.Ytjfoagmenehapaa
