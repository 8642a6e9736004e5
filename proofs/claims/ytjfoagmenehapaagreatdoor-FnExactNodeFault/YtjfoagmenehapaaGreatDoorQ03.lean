import Derived.Test.YtjfoagmenehapaaGreatDoorQ02
import Derived.Deep.Cut
namespace Go.Proofs.YtjfoagmenehapaaGreatDoor.Tree
open Go.RowKit Go.Shelf Go.Joins

attribute [local go_sem] Oper.semAt_some

/-- A variable of one cell, of the caller's own. -/
def Hold (w : World) (c : Nat) (v : Value) (O : Nat → Prop) (W : World) : Prop :=
  W.cell? ⟨c, 0, none⟩ = some v ∧ W.frozen? ⟨c, 0, none⟩ = false ∧ ¬ O c ∧ Below w.heap.size w W ∧ ∀ b, O b → w.heap.size ≤ b

theorem Hold.abid {w : World} {c : Nat} {O O' : Nat → Prop} {A B : World} {v : Value} (h : Hold w c v O A) (hK : Kept (fun b => ¬ O b) A B) (hn : ∀ b, O' b → O b ∨ A.heap.size ≤ b) : Hold w c v O' B := by
  obtain ⟨h1, h2, h3, h4, h5⟩ := h
  have hl : c < A.heap.size := block_lt_of_cell h1
  refine ⟨(hK.cell (p := ⟨c, 0, none⟩) hl h3).trans h1, (hK.frozen (p := ⟨c, 0, none⟩) hl h3).trans h2, fun x => ?_, Below.kept h4 hK (fun b hb x => ?_) (Nat.le_refl _), fun b x => ?_⟩
  · rcases hn c x with y | y
    · exact h3 y
    · omega
  · have := h5 b x; omega
  · rcases hn b x with y | y
    · exact h5 b y
    · have := h4.size; omega

theorem Hold.set {w : World} {c : Nat} {O : Nat → Prop} {A : World} {v : Value} (h : Hold w c v O A) (u : Value) (hc : w.heap.size ≤ c) : Hold w c u O (A.setCell ⟨c, 0, none⟩ u) :=
  ⟨World.cell?_setCell_same' _ _ _ (by rw [h.1]; rfl), by rw [World.frozen?_setCell]; exact h.2.1, h.2.2.1, h.2.2.2.1.setCell hc _, h.2.2.2.2⟩

theorem Hold.other {w : World} {c d : Nat} {O : Nat → Prop} {A : World} {v : Value} (h : Hold w c v O A) (u : Value) (hd : w.heap.size ≤ d) (hcd : c ≠ d) : Hold w c v O (A.setCell ⟨d, 0, none⟩ u) :=
  ⟨(World.cell?_setCell_other _ _ _ _ (by simp)).trans h.1, by rw [World.frozen?_setCell]; exact h.2.1, h.2.2.1, h.2.2.2.1.setCell hd _, h.2.2.2.2⟩

/-- Whether the nodes to come are too many, or one too deep, c of them gone by. -/
def tooL : List (Nat × Value) → Nat → Bool
  | [], _ => false
  | (d, _) :: L, c => decide (20000 < c + 1) || (decide (200 < d) || tooL L (c + 1))

def TooI (w : World) (c r : Nat) (LL : List (Nat × Value)) (k : Nat) (O : Nat → Prop) (W : World) : Prop :=
  Hold w c (.int .i64 (k : Int)) O W ∧ Hold w r (.bool false) O W ∧ tooL LL 0 = tooL (LL.drop k) k
def TooX (w : World) (r : Nat) (LL : List (Nat × Value)) (cd : Code) (_ : Nat) (O : Nat → Prop) (W : World) : Prop :=
  cd = .ret ∧ Hold w r (.bool true) O W ∧ tooL LL 0 = true
theorem TooI.abid (w : World) (c r : Nat) (LL : List (Nat × Value)) : Abid (TooI w c r LL) := fun _ _ _ _ _ h hK hn => ⟨h.1.abid hK hn, h.2.1.abid hK hn, h.2.2⟩
theorem TooX.abid (w : World) (r : Nat) (LL : List (Nat × Value)) (cd : Code) : Abid (TooX w r LL cd) := fun _ _ _ _ _ h hK hn => ⟨h.1, h.2.1.abid hK hn, h.2.2⟩

set_option maxRecDepth 100000 in
set_option maxHeartbeats 2000000 in
theorem itoo_in (n : Nat) (hn : 3 ≤ n) (k : Int) (nm : ByteArray) (a : Option Addr) (cap : Nat) (ks : Fo) (w : World)
    (hk : (Lit.int .i64 k).wf = true) (hnm : nm.size ≤ maxLen) (hs : ks.Sl w (fun b => b < w.heap.size) a cap) (hsz : ks.size ≤ 1048576) :
    CallsIn Fence.wide n Tryz.prog 13 #[.agg #[.int .i64 k, .string nm, .slice a ks.len cap]] w fun e W' => e = .returned (.bool (tooL ((Fo.cons k nm a cap ks .nil).pre 1) 0)) ∧ Below w.heap.size w W' := by
  have h1 : 1 ≤ n := by omega
  refine callsIn_of_wp_marks Tryz.func13 rfl trivial ?_ rfl
  simp only [Tryz.ntmps13, List.size_toArray, List.length_cons, List.length_nil, Nat.reduceAdd, Nat.reduceSub, Array.replicate_succ, Array.replicate_zero, List.push_toArray, List.append_toArray, List.nil_append, List.cons_append]
  gi_wp2_with (refine ⟨trivial, ?_⟩; gi_at_call 15; refine (nodesOf_in Fence.wide (n - 1) trivial rfl _ _ _ _ _ _).mono ?_; rintro e w' ⟨rfl, rfl⟩)
  obtain ⟨LL, hLL⟩ : ∃ LL, LL = (Fo.cons k nm a cap ks .nil).pre 1 := ⟨_, rfl⟩
  have hLn : LL.length = 1 + ks.size := by rw [hLL, Fo.pre_length]; simp only [Fo.size]; omega
  obtain ⟨A, hA⟩ : ∃ A, (w.alloc (.cells #[.int .i64 k, .string nm, .slice a ks.len cap] 29)) = A := ⟨_, rfl⟩
  have zA : A.heap.size = w.heap.size + 1 := by rw [← hA]; simp
  have bA : Below w.heap.size w A := by rw [← hA]; exact below_alloc1 _ _
  obtain ⟨W0, hW0⟩ : ∃ W0, ((A.alloc (.cells #[.bool false] 4)).alloc (.cells #[.int .i64 0] 3)).alloc (.cells #[.int .i64 k, .string nm, .slice a ks.len cap] 29) = W0 := ⟨_, rfl⟩
  have z0 : W0.heap.size = w.heap.size + 4 := by rw [← hW0]; simp [zA]
  have bB : Below A.heap.size A W0 := by rw [← hW0]; exact below_alloc3 _ _ _ _
  have hB0 : Below w.heap.size w W0 := bA.trans (bB.mono (by omega))
  have q0 : Box3 W0 (w.heap.size + 1 + 1 + 1) (.int .i64 k) (.string nm) (.slice a ks.len cap) := by
    rw [← hW0]
    have := Box3.new ((A.alloc (.cells #[.bool false] 4)).alloc (.cells #[.int .i64 0] 3)) (.int .i64 k) (.string nm) (.slice a ks.len cap) 29
    simpa [zA] using this
  have h1c : ∀ (A : World) (v : Value) (t : TypeId), (A.alloc (.cells #[v] t)).cell? ⟨A.heap.size, 0, none⟩ = some v ∧ (A.alloc (.cells #[v] t)).frozen? ⟨A.heap.size, 0, none⟩ = false := fun A v t => ⟨by simp, by simp⟩
  have hr0 : Hold w (w.heap.size + 1) (.bool false) (fun _ => False) W0 := by
    have h2 := h1c A (.bool false) 4
    rw [zA] at h2
    have hcl := below_alloc2 (A.alloc (.cells #[.bool false] 4)) (.cells #[.int .i64 0] 3) (.cells #[.int .i64 k, .string nm, .slice a ks.len cap] 29)
    rw [hW0, World.size_alloc, zA] at hcl
    exact ⟨(hcl.cell (p := ⟨w.heap.size + 1, 0, none⟩) (by simp)).trans h2.1, (hcl.frozen (p := ⟨w.heap.size + 1, 0, none⟩) (by simp)).trans h2.2, fun z => z, hB0, fun _ z => z.elim⟩
  have hc0 : Hold w (w.heap.size + 1 + 1) (.int .i64 0) (fun _ => False) W0 := by
    have h2 := h1c (A.alloc (.cells #[.bool false] 4)) (.int .i64 0) 3
    rw [World.size_alloc, zA] at h2
    have hcl := below_alloc1 ((A.alloc (.cells #[.bool false] 4)).alloc (.cells #[.int .i64 0] 3)) (.cells #[.int .i64 k, .string nm, .slice a ks.len cap] 29)
    rw [hW0, World.size_alloc, World.size_alloc, zA] at hcl
    exact ⟨(hcl.cell (p := ⟨w.heap.size + 1 + 1, 0, none⟩) (by simp)).trans h2.1, (hcl.frozen (p := ⟨w.heap.size + 1 + 1, 0, none⟩) (by simp)).trans h2.2, fun z => z, hB0, fun _ z => z.elim⟩
  rw [hA, hW0]
  clear hA hW0 h1c
  refine wpIn_range rfl h1 (gf := 21) (lb := #[.pointer (some ⟨w.heap.size + 1 + 1 + 1, 0, none⟩)]) rfl trivial (enters_of Tryz.func21 (by kernel_rfl) rfl)
    (nodes_seq Fence.wide (n - 1) trivial rfl (by omega) (w.heap.size + 1 + 1 + 1) w.heap.size k nm a cap ks W0 (by omega) hk hnm q0 (hs.below hB0 (fun _ x => x)) hsz) (Below.refl _ _) (by omega) (fun _ => rfl)
    (TooI w (w.heap.size + 1 + 1) (w.heap.size + 1) LL) (TooX w (w.heap.size + 1) LL) (TooI.abid _ _ _ _) (TooX.abid _ _ _) ⟨hc0, hr0, rfl⟩
    (fun i _ a' _ => ∃ y : Value, a' = { tmps := #[.agg #[.int .i64 k, .string nm, .slice a ks.len cap], .pointer (some ⟨w.heap.size, 0, none⟩), .pointer (some ⟨w.heap.size + 1, 0, none⟩), .pointer (some ⟨w.heap.size + 1 + 1, 0, none⟩),
      .int .i64 ((LL.getD i (0, undef)).1 : Int), .agg #[.int .i64 k, .string nm, .slice a ks.len cap],
      .func (.func 21) #[] #[.pointer (some ⟨w.heap.size + 1 + 1 + 1, 0, none⟩)], .int .i64 ((LL.getD i (0, undef)).1 : Int), y, undef, undef, undef, undef, undef, undef, undef, undef], defers := [] })
    ?assign ?body ?done ?stop
  case assign =>
    intro l i O W K _ _ hI hK
    have hK2 := fun y => hK _ W (Kept.refl _ _) hI ⟨y, rfl⟩
    clear hK hI
    rw [← hLL]
    simp only [encsOf]
    generalize List.getD LL i (0, undef) = p at hK2 ⊢
    gi_wp2
    simpa using hK2 p.2
  case body =>
    rintro l i O a' W1 W hi ⟨y, rfl⟩ _ _ ⟨hc, hr, ht⟩ hO
    have hi' : i < LL.length := by omega
    have hdr : LL.drop i = LL.getD i (0, undef) :: LL.drop (i + 1) := by
      rw [List.getD_eq_getElem?_getD, List.getElem?_eq_getElem hi', Option.getD_some]
      exact List.drop_eq_getElem_cons hi'
    have htd : tooL LL 0 = (decide (20000 < i + 1) || (decide (200 < (LL.getD i (0, undef)).1) || tooL (LL.drop (i + 1)) (i + 1))) := by
      rw [ht, hdr]
      generalize LL.getD i (0, undef) = p
      rfl
    generalize (LL.getD i (0, undef)).1 = d at htd ⊢
    have hc' := hc.set (.int .i64 ((i + 1 : Nat) : Int)) (by omega)
    have hr' := hr.other (.int .i64 ((i + 1 : Nat) : Int)) (d := w.heap.size + 1 + 1) (by omega) (by omega)
    have hrt := hr'.set (.bool true) (by omega)
    have hkp : Kept (fun b => O b ∨ b < w.heap.size) W (W.setCell ⟨w.heap.size + 1 + 1, 0, none⟩ (.int .i64 ((i + 1 : Nat) : Int))) := Kept.setCell _ _ _ _ (by
      rintro (h | h)
      · exact hc.2.2.1 h
      · exact absurd h (by show ¬ (w.heap.size + 1 + 1 < w.heap.size); omega))
    have hkp2 : Kept (fun b => O b ∨ b < w.heap.size) (W.setCell ⟨w.heap.size + 1 + 1, 0, none⟩ (.int .i64 ((i + 1 : Nat) : Int))) ((W.setCell ⟨w.heap.size + 1 + 1, 0, none⟩ (.int .i64 ((i + 1 : Nat) : Int))).setCell ⟨w.heap.size + 1, 0, none⟩ (.bool true)) := Kept.setCell _ _ _ _ (by
      rintro (h | h)
      · exact hr.2.2.1 h
      · exact absurd h (by show ¬ (w.heap.size + 1 < w.heap.size); omega))
    have hgo : ¬ 20000 < i + 1 → ¬ 200 < d → Kept (fun b => O b ∨ b < w.heap.size) W (W.setCell ⟨w.heap.size + 1 + 1, 0, none⟩ (.int .i64 ((i + 1 : Nat) : Int))) ∧ TooI w (w.heap.size + 1 + 1) (w.heap.size + 1) LL (i + 1) O (W.setCell ⟨w.heap.size + 1 + 1, 0, none⟩ (.int .i64 ((i + 1 : Nat) : Int))) := fun h1 h2 =>
      ⟨hkp, hc', hr', by rw [htd]; simp [h1, h2]⟩
    have hst : (20000 < i + 1 ∨ 200 < d) → Kept (fun b => O b ∨ b < w.heap.size) W ((W.setCell ⟨w.heap.size + 1 + 1, 0, none⟩ (.int .i64 ((i + 1 : Nat) : Int))).setCell ⟨w.heap.size + 1, 0, none⟩ (.bool true)) ∧ TooX w (w.heap.size + 1) LL .ret i O ((W.setCell ⟨w.heap.size + 1 + 1, 0, none⟩ (.int .i64 ((i + 1 : Nat) : Int))).setCell ⟨w.heap.size + 1, 0, none⟩ (.bool true)) := fun h =>
      ⟨hkp.trans hkp2, rfl, hrt, by rw [htd]; rcases h with h | h <;> simp [h]⟩
    have HG := hide hgo
    have HST := hide hst
    obtain ⟨c1, c2, -, -, -⟩ := hc
    obtain ⟨r1, r2, -, -, -⟩ := hr
    clear hgo hst hkp hkp2 hrt hr' hc' htd hdr ht
    have hib : (i : Int) < 2000000 := by omega
    clear hLL hLn hi' hi
    by_cases h1 : 20000 < i + 1
    · have h1' : decide ((20000 : Int) < (i : Int) + 1) = true := decide_eq_true (by omega)
      have HO := hide (HST.out (.inl h1))
      clear h1 HST HG
      gi_wp2_with fail
      exact HO.out
    · have h1' : ¬ (20000 : Int) < (i : Int) + 1 := by omega
      by_cases h2 : 200 < d
      · have h2' : decide ((200 : Int) < (d : Int)) = true := decide_eq_true (by omega)
        have HO := hide (HST.out (.inr h2))
        clear h1 h2 HST HG
        gi_wp2_with fail
        exact HO.out
      · have h2' : ¬ (200 : Int) < (d : Int) := by omega
        have HO := hide (HG.out h1 h2)
        clear h1 h2 HST HG
        gi_wp2_with fail
        exact HO.out
  case done =>
    rintro D O W hD hOD hO ⟨hc, ⟨c1, c2, c3, c4, c5⟩, ht⟩ hK
    have hL0 : tooL LL 0 = false := by rw [ht, List.drop_eq_nil_of_le (by omega)]; rfl
    gi_wp2_with fail
    have hDc : D ≠ w.heap.size + 1 := fun e => c3 (e ▸ hOD)
    have hK' := (KeepsOthers.setCell W ⟨w.heap.size + 1, 0, none⟩ (.bool false)).same D _ hK rfl
    refine ⟨by simp, .inl ⟨_, _, rfl, run_takeDeferred hK', ?_⟩⟩
    have hcell : ((W.setCell ⟨w.heap.size + 1, 0, none⟩ (.bool false)).putObj D (.deferred none)).cell? ⟨w.heap.size + 1, 0, none⟩ = some (.bool false) :=
      (World.cell?_of_block (World.putObj_heap_other (Ne.symm hDc))).trans (World.cell?_setCell_same' _ _ _ (by rw [c1]; rfl))
    rw [← hLL, hL0]
    refine ⟨.bool false, by simp [results, Tryz.results13, go_sem, hcell], rfl, ?_⟩
    exact (c4.setCell (by show w.heap.size ≤ w.heap.size + 1; omega) _).trans (belowK_b (w := w) (Nat.le_refl _) _ D _ _ (by omega) hK' rfl rfl)
  case stop =>
    rintro D c i O W hD hOD hO hi ⟨rfl, ⟨c1, c2, c3, c4, c5⟩, ht⟩ hK
    gi_wp2_with fail
    have hDc : D ≠ w.heap.size + 1 := fun e => c3 (e ▸ hOD)
    refine ⟨by simp, .inl ⟨_, _, rfl, run_takeDeferred hK, ?_⟩⟩
    have hcell : (W.putObj D (.deferred none)).cell? ⟨w.heap.size + 1, 0, none⟩ = some (.bool true) :=
      (World.cell?_of_block (World.putObj_heap_other (Ne.symm hDc))).trans c1
    rw [← hLL, ht]
    refine ⟨.bool true, by simp [results, Tryz.results13, go_sem, hcell], rfl, ?_⟩
    exact c4.trans (belowK_b (w := w) (Nat.le_refl _) _ D _ _ (by omega) hK rfl rfl)

end Go.Proofs.YtjfoagmenehapaaGreatDoor.Tree

namespace Go.Proofs.YtjfoagmenehapaaGreatDoor.Tree
open Go.RowKit Go.Joins

theorem tooL_app : ∀ (A B : List (Nat × Value)) (c : Nat), tooL (A ++ B) c = (tooL A c || tooL B (c + A.length))
  | [], B, c => by simp [tooL]
  | (d, _) :: A, B, c => by
    have := tooL_app A B (c + 1)
    simp only [List.cons_append, tooL, this, List.length_cons]
    rw [show c + 1 + A.length = c + (A.length + 1) by omega]
    cases decide (20000 < c + 1) <;> cases decide (200 < d) <;> rfl

/-- The rows of a forest are not touched by what is written into a block apart. -/
theorem Fo.Row.apart {A B : World} {p n0 : Nat} (k : Kept (fun b => b ≠ p) A B) (hp : n0 ≤ p) (hA : n0 ≤ A.heap.size) {F : Fo} {b o : Nat} (hb : b < n0) (hs : Fo.Row A (fun b => b < n0) F b o) : Fo.Row B (fun b => b < n0) F b o :=
  hs.keep (fun _ x => x) (fun q hq _ hv => (k.cell (by have : q.block < n0 := hq; omega) (by have : q.block < n0 := hq; show q.block ≠ p; omega)).trans hv) (fun j _ _ _ hv => (k.cell (p := ⟨b, j, none⟩) (by show b < _; omega) (by show b ≠ p; omega)).trans hv)

theorem Fo.Sl.apart {A B : World} {p n0 : Nat} (k : Kept (fun b => b ≠ p) A B) (hp : n0 ≤ p) (hA : n0 ≤ A.heap.size) {a : Option Addr} {cap : Nat} {F : Fo} (hs : F.Sl A (fun b => b < n0) a cap) : F.Sl B (fun b => b < n0) a cap :=
  hs.kept k (fun b hb => ⟨by show b ≠ p; omega, by omega⟩)

/-- A number in a block of its own. -/
def LeftAt (W : World) (p : Nat) (v : Int) : Prop := W.cell? ⟨p, 0, none⟩ = some (.int .i64 v) ∧ W.frozen? ⟨p, 0, none⟩ = false ∧ p < W.heap.size

set_option maxHeartbeats 2000000 in
set_option maxRecDepth 100000 in
theorem size_node : ∀ (m : Nat) (ks : Fo), ks.size < m → ∀ (k : Int) (nm : ByteArray) (n0 p c d : Nat) (W : World) (a : Option Addr) (cap : Nat), n0 ≤ W.heap.size → n0 ≤ p → c ≤ 20000 → d ≤ 201 → ks.Sl W (fun b => b < n0) a cap → LeftAt W p (20000 - c) →
    Calls Tryz.prog 10 #[nodeV k nm a ks.len cap, .int .i64 d, .pointer (some ⟨p, 0, none⟩)] W fun e W' => e = .returned (.bool (!tooL ((Fo.cons k nm a cap ks .nil).pre d) c)) ∧ Kept (fun b => b ≠ p) W W' ∧
      (tooL ((Fo.cons k nm a cap ks .nil).pre d) c = false → c + 1 + ks.size ≤ 20000 ∧ LeftAt W' p (20000 - ((c + 1 + ks.size : Nat) : Int))) := by
  intro m
  induction m with
  | zero => intro F hF; omega
  | succ m ih =>
    intro ks hF k nm n0 p c d W a cap hn hp hc hd hs hL
    obtain ⟨T, hT⟩ : ∃ T, T = tooL ((Fo.cons k nm a cap ks .nil).pre d) c := ⟨_, rfl⟩
    have hT2 : T = (decide (20000 < c + 1) || (decide (200 < d) || tooL (ks.pre (d + 1)) (c + 1))) := by
      rw [hT]
      simp only [Fo.pre, List.append_nil, tooL]
    rw [← hT]
    clear hT
    have hlt := ks.len_le
    unfold nodeV
    have hL0 := hL
    obtain ⟨l1, l2, l3⟩ := hL
    have hkb : Kept (fun b => b ≠ p) W (W.alloc (.cells #[.int .i64 k, .string nm, .slice a ks.len cap] 29)) := Kept.alloc _ _ _
    have q1 := Box3.new W (.int .i64 k) (.string nm) (.slice a ks.len cap) 29
    have m1 : (W.alloc (.cells #[.int .i64 k, .string nm, .slice a ks.len cap] 29)).cell? ⟨p, 0, none⟩ = some (.int .i64 (20000 - (c : Int))) := ((below_alloc1 W _).cell (p := ⟨p, 0, none⟩) l3).trans l1
    have m2 : (W.alloc (.cells #[.int .i64 k, .string nm, .slice a ks.len cap] 29)).frozen? ⟨p, 0, none⟩ = false := ((below_alloc1 W _).frozen (p := ⟨p, 0, none⟩) l3).trans l2
    have hz0 : (W.alloc (.cells #[.int .i64 k, .string nm, .slice a ks.len cap] 29)).heap.size = W.heap.size + 1 := by simp
    have hmx : (ks.len : Int) ≤ 9223372036854775807 := by have h1 := hs.1; have h2 := hs.2.1; simp only [maxLen] at h2; omega
    have hcb : (c : Int) ≤ 20000 := by omega
    have hdb : (d : Int) ≤ 201 := by omega
    go_enter Tryz.func10, Tryz.ntmps10
    go_upto_region 1 with fail
    generalize W.alloc (.cells #[.int .i64 k, .string nm, .slice a ks.len cap] 29) = W0 at *
    have hk1 : Kept (fun b => b ≠ p) W0 (W0.setCell ⟨p, 0, none⟩ (.int .i64 (20000 - (c : Int) - 1))) := Kept.setCell _ _ _ _ (by simp)
    have n1 : (W0.setCell ⟨p, 0, none⟩ (.int .i64 (20000 - (c : Int) - 1))).cell? ⟨p, 0, none⟩ = some (.int .i64 (20000 - (c : Int) - 1)) := World.cell?_setCell_same' _ _ _ (by rw [m1]; rfl)
    have n2 : (W0.setCell ⟨p, 0, none⟩ (.int .i64 (20000 - (c : Int) - 1))).frozen? ⟨p, 0, none⟩ = false := by rw [World.frozen?_setCell]; exact m2
    have hz1 : (W0.setCell ⟨p, 0, none⟩ (.int .i64 (20000 - (c : Int) - 1))).heap.size = W0.heap.size := by simp [World.setCell]
    by_cases h1 : 20000 < c + 1
    · have h1' : 20000 - (c : Int) - 1 < 0 := by omega
      have HT : Hid (T = true) := by unfold Hid; rw [hT2]; simp [h1]
      have HK := hide (hkb.trans hk1)
      clear hT2 h1 ih hs n1 n2 hz1 hk1 hkb
      go_wp2_with fail
      go_ret
      exact ⟨by rw [HT.out]; rfl, HK.out, fun h => by rw [HT.out] at h; cases h⟩
    · have h1' : ¬ 20000 - (c : Int) - 1 < 0 := by omega
      by_cases h2 : 200 < d
      · have h2' : (200 : Int) < d := by omega
        have HT : Hid (T = true) := by unfold Hid; rw [hT2]; simp [h2]
        have HK := hide (hkb.trans hk1)
        clear hT2 h1 h2 ih hs n1 n2 hz1 hk1 hkb
        go_wp2_with fail
        go_ret
        exact ⟨by rw [HT.out]; rfl, HK.out, fun h => by rw [HT.out] at h; cases h⟩
      · have h2' : ¬ (200 : Int) < d := by omega
        have HT : Hid (T = tooL (ks.pre (d + 1)) (c + 1)) := by unfold Hid; rw [hT2]; simp [h1, h2]
        have hc2 : c + 1 ≤ 20000 := by omega
        have hd2 : d + 1 ≤ 201 := by omega
        have hA := hide (hkb.trans hk1)
        have HQ : Hid (Box3 (W0.setCell ⟨p, 0, none⟩ (.int .i64 (20000 - (c : Int) - 1))) W.heap.size (.int .i64 k) (.string nm) (.slice a ks.len cap)) := q1.kept hk1 (by show W.heap.size ≠ p; omega)
        have HL1 : Hid (LeftAt (W0.setCell ⟨p, 0, none⟩ (.int .i64 (20000 - (c : Int) - 1))) p (20000 - ((c + 1 : Nat) : Int))) := ⟨n1.trans (by congr 2; omega), n2, by rw [hz1]; omega⟩
        have HS1 : Hid (ks.Sl (W0.setCell ⟨p, 0, none⟩ (.int .i64 (20000 - (c : Int) - 1))) (fun b => b < n0) a cap) := hs.apart (hkb.trans hk1) hp hn
        clear hT2 h1 h2 n1 n2 hz1 hk1 hkb hs q1
        go_wp2_with fail
        clear m1 m2 h1' h2'
        generalize W0.setCell ⟨p, 0, none⟩ (.int .i64 (20000 - (c : Int) - 1)) = W1 at *
        have HI := hide ih
        clear ih
        go_loopw [7] (fun s7 wr => ∃ (i c' : Nat) (r : Fo), s7 = .int .i64 i ∧ r.len + i = ks.len ∧ r.size ≤ ks.size ∧ c' ≤ 20000 ∧ c' + r.size = c + 1 + ks.size ∧ Hid (T = tooL (r.pre (d + 1)) c') ∧ Hid (LeftAt wr p (20000 - (c' : Int))) ∧
          Hid (0 < r.len → ∃ b o, a = some ⟨b, o, none⟩ ∧ b < n0 ∧ r.Row wr (fun b => b < n0) b (o + i * 3)) ∧ Hid (Box3 wr W.heap.size (.int .i64 k) (.string nm) (.slice a ks.len cap)) ∧ Hid (Kept (fun b => b ≠ p) W wr)) (fun s7 _ => ks.len - (intOf s7).toNat)
        case atStart => exact ⟨0, c + 1, ks, rfl, rfl, Nat.le_refl _, hc2, rfl, HT, HL1, HS1.out.2.2, HQ, hA⟩
        case round =>
          obtain ⟨i, c', r, rfl, hlen, hrs, hc3, hcs, HT', HL', HR', HQ', HK'⟩ := hrel
          obtain ⟨-, d0, d1, d2, -, -, -⟩ := HQ'.out
          have hzz := HK'.out.size
          cases r with
          | nil =>
            simp only [Fo.len, Fo.size, Nat.add_zero, Nat.zero_add] at hlen hcs
            have HT2 : Hid (T = false) := HT'.out
            clear HT' HR' HI
            go_wp2_with fail
            go_ret
            exact ⟨by rw [HT2.out]; rfl, HK'.out, fun _ => ⟨by omega, by rw [← hcs]; exact HL'.out⟩⟩
          | cons k' nm' ka kcap ks' r =>
            simp only [Fo.len, Fo.size] at hlen hcs hrs
            obtain ⟨b, o, rfl, hb, hk, hnm, c1, c2, c3, h4, h5, h6, h7⟩ := HR'.out (by simp [Fo.len])
            have hks : ks'.Sl wr (fun b => b < n0) ka kcap := ⟨h4, h5, h6⟩
            have HC := hide (HI.out ks' (by omega) k' nm' n0 p c' (d + 1) wr ka kcap (by omega) hp hc3 hd2 hks HL'.out)
            have hTd : T = (tooL ((Fo.cons k' nm' ka kcap ks' .nil).pre (d + 1)) c' || tooL (r.pre (d + 1)) (c' + (1 + ks'.size))) := by
              rw [HT'.out]
              have e : (Fo.cons k' nm' ka kcap ks' r).pre (d + 1) = (Fo.cons k' nm' ka kcap ks' .nil).pre (d + 1) ++ r.pre (d + 1) := by simp [Fo.pre]
              rw [e, tooL_app, Fo.pre_length]
              simp only [Fo.size, Nat.add_zero]
            have HTd := hide hTd
            have H7 := hide h7
            have hi : (i : Int) < ks.len := by omega
            have HA1 : Hid (r.len + (i + 1) = ks.len) := by unfold Hid; omega
            have HA2 : Hid (r.size ≤ ks.size) := by unfold Hid; omega
            have HA3 : Hid (c' + 1 + ks'.size + r.size = c + 1 + ks.size) := by unfold Hid; omega
            have HA4 : Hid (n0 ≤ wr.heap.size) := by unfold Hid; omega
            clear hTd HT' HR' HI hks h4 h5 h6 h7
            generalize tooL ((Fo.cons k' nm' ka kcap ks' .nil).pre (d + 1)) c' = X at HC HTd
            unfold nodeV at HC
            cases X with
            | true =>
              have HT2 : Hid (T = true) := by unfold Hid; rw [HTd.out]; rfl
              clear HTd
              go_wp2_with fail
              refine HC.out.mono ?_
              rintro e w1 ⟨rfl, b1, -⟩
              have HK2 := hide (HK'.out.trans b1)
              go_wp2_with fail
              go_ret
              exact ⟨by rw [HT2.out]; rfl, HK2.out, fun h => by rw [HT2.out] at h; cases h⟩
            | false =>
              have HT2 : Hid (T = tooL (r.pre (d + 1)) (c' + (1 + ks'.size))) := by unfold Hid; rw [HTd.out]; rfl
              clear HTd
              go_wp2_with fail
              refine HC.out.mono ?_
              rintro e w1 ⟨rfl, b1, hnx⟩
              obtain ⟨hnx1, hnx2⟩ := hnx (by first | rfl | trivial)
              have HN := hide hnx2
              have HK2 := hide (HK'.out.trans b1)
              have HQ2 := hide (HQ'.out.kept b1 (by show W.heap.size ≠ p; omega))
              clear hnx hnx2
              go_wp2_with fail
              go_roundw
              case rel =>
                refine ⟨i + 1, c' + 1 + ks'.size, r, by go_num, HA1.out, HA2.out, hnx1, HA3.out, by unfold Hid; rw [HT2.out, Nat.add_assoc], HN, fun _ => ⟨b, o, rfl, hb, ?_⟩, HQ2, HK2⟩
                have e : o + (i + 1) * 3 = o + i * 3 + 3 := by omega
                rw [e]
                exact H7.out.apart b1 hp HA4.out hb
              case measure => simp [intOf]; omega

end Go.Proofs.YtjfoagmenehapaaGreatDoor.Tree

namespace Go.Proofs.YtjfoagmenehapaaGreatDoor.Tree
open Go.RowKit Go.Joins

/-- A kid as it stands in a row. -/
structure Kn where
  k : Int
  nm : ByteArray
  a : Option Addr
  cap : Nat
  ks : Fo

def Fo.list : Fo → List Kn
  | .nil => []
  | .cons k nm a cap ks r => ⟨k, nm, a, cap, ks⟩ :: r.list

theorem Fo.list_length : ∀ F : Fo, F.list.length = F.len
  | .nil => rfl
  | .cons _ _ _ _ _ r => by simp only [Fo.list, Fo.len, List.length_cons, r.list_length]

/-- A kid's three cells. -/
structure KnAt (W : World) (S : Nat → Prop) (b o : Nat) (x : Kn) : Prop where
  wf : (Lit.int .i64 x.k).wf = true
  nl : x.nm.size ≤ maxLen
  c0 : W.cell? ⟨b, o, none⟩ = some (.int .i64 x.k)
  c1 : W.cell? ⟨b, o + 1, none⟩ = some (.string x.nm)
  c2 : W.cell? ⟨b, o + 2, none⟩ = some (.slice x.a x.ks.len x.cap)
  sl : x.ks.Sl W S x.a x.cap

theorem Fo.Row.at {W : World} {S : Nat → Prop} : ∀ {F : Fo} {b o : Nat}, F.Row W S b o → ∀ (i : Nat) (x : Kn), F.list[i]? = some x → KnAt W S b (o + i * 3) x
  | .nil, _, _, _, i, x, hx => by simp [Fo.list] at hx
  | .cons k nm a cap ks r, b, o, ⟨hk, hn, c1, c2, c3, h4, h5, h6, h7⟩, 0, x, hx => by
    have e : x = ⟨k, nm, a, cap, ks⟩ := by simpa [Fo.list] using hx.symm
    subst e
    rw [Nat.zero_mul, Nat.add_zero]
    exact ⟨hk, hn, c1, c2, c3, h4, h5, h6⟩
  | .cons k nm a cap ks r, b, o, ⟨hk, hn, c1, c2, c3, h4, h5, h6, h7⟩, i + 1, x, hx => by
    have h := h7.at i x (by simpa [Fo.list] using hx)
    have e : o + 3 + i * 3 = o + (i + 1) * 3 := by omega
    rwa [e] at h

/-- The kids of a slice, by their places. -/
def Kids (W : World) (n0 : Nat) (a : Option Addr) (L : List Kn) : Prop :=
  0 < L.length → ∃ b o, a = some ⟨b, o, none⟩ ∧ b < n0 ∧ ∀ i x, L[i]? = some x → KnAt W (fun b => b < n0) b (o + i * 3) x

theorem Fo.Sl.kids {W : World} {n0 : Nat} {a : Option Addr} {cap : Nat} {F : Fo} (h : F.Sl W (fun b => b < n0) a cap) : Kids W n0 a F.list := fun hp => by
  rw [F.list_length] at hp
  obtain ⟨b, o, e, hb, hr⟩ := h.2.2 hp
  exact ⟨b, o, e, hb, fun i x hx => hr.at i x hx⟩

theorem KnAt.below {A B : World} {n0 b o m : Nat} {x : Kn} (h : KnAt A (fun b => b < n0) b o x) (k : Below m A B) (hb : b < m) (hm : n0 ≤ m) : KnAt B (fun b => b < n0) b o x :=
  ⟨h.wf, h.nl, (k.cell (p := ⟨b, o, none⟩) hb).trans h.c0, (k.cell (p := ⟨b, o + 1, none⟩) hb).trans h.c1, (k.cell (p := ⟨b, o + 2, none⟩) hb).trans h.c2, h.sl.below k (fun b hb => by omega)⟩

theorem Kids.below {A B : World} {n0 m : Nat} {a : Option Addr} {L : List Kn} (h : Kids A n0 a L) (k : Below m A B) (hm : n0 ≤ m) : Kids B n0 a L := fun hp => by
  obtain ⟨b, o, e, hb, hr⟩ := h hp
  exact ⟨b, o, e, hb, fun i x hx => (hr i x hx).below k (by omega) hm⟩

def eK (k : Int) : Bool := decide (1 ≤ k) && decide (k ≤ 18)
def pK (k : Int) : Bool := decide (30 ≤ k) && decide (k ≤ 41)
def tK (k : Int) : Bool := decide (50 ≤ k) && decide (k ≤ 55)
def dK (k : Int) : Bool := decide (60 ≤ k) && decide (k ≤ 62)

set_option maxHeartbeats 1000000 in
set_option maxRecDepth 100000 in
theorem mExpr (k : Int) (w : World) : Calls Tryz.prog 79 #[.int .i64 k] w fun e w' => e = .returned (.bool (eK k)) ∧ w' = w := by
  unfold eK
  by_cases h : 1 ≤ k
  · rw [decide_eq_true h]
    go_enter Tryz.func79, Tryz.ntmps79
    go_wp2_with fail
    go_ret
    exact ⟨rfl, rfl⟩
  · rw [decide_eq_false h]
    go_enter Tryz.func79, Tryz.ntmps79
    go_wp2_with fail
    go_ret
    exact ⟨rfl, rfl⟩

set_option maxHeartbeats 1000000 in
set_option maxRecDepth 100000 in
theorem mPat (k : Int) (w : World) : Calls Tryz.prog 32 #[.int .i64 k] w fun e w' => e = .returned (.bool (pK k)) ∧ w' = w := by
  unfold pK
  by_cases h : 30 ≤ k
  · rw [decide_eq_true h]
    go_enter Tryz.func32, Tryz.ntmps32
    go_wp2_with fail
    go_ret
    exact ⟨rfl, rfl⟩
  · rw [decide_eq_false h]
    go_enter Tryz.func32, Tryz.ntmps32
    go_wp2_with fail
    go_ret
    exact ⟨rfl, rfl⟩

set_option maxHeartbeats 1000000 in
set_option maxRecDepth 100000 in
theorem mType (k : Int) (w : World) : Calls Tryz.prog 34 #[.int .i64 k] w fun e w' => e = .returned (.bool (tK k)) ∧ w' = w := by
  unfold tK
  by_cases h : 50 ≤ k
  · rw [decide_eq_true h]
    go_enter Tryz.func34, Tryz.ntmps34
    go_wp2_with fail
    go_ret
    exact ⟨rfl, rfl⟩
  · rw [decide_eq_false h]
    go_enter Tryz.func34, Tryz.ntmps34
    go_wp2_with fail
    go_ret
    exact ⟨rfl, rfl⟩

set_option maxHeartbeats 1000000 in
set_option maxRecDepth 100000 in
theorem mDecl (k : Int) (w : World) : Calls Tryz.prog 80 #[.int .i64 k] w fun e w' => e = .returned (.bool (dK k)) ∧ w' = w := by
  unfold dK
  by_cases h : 60 ≤ k
  · rw [decide_eq_true h]
    go_enter Tryz.func80, Tryz.ntmps80
    go_wp2_with fail
    go_ret
    exact ⟨rfl, rfl⟩
  · rw [decide_eq_false h]
    go_enter Tryz.func80, Tryz.ntmps80
    go_wp2_with fail
    go_ret
    exact ⟨rfl, rfl⟩

set_option maxHeartbeats 1000000 in
set_option maxRecDepth 100000 in
theorem iExpr (k : Int) (w : World) : Calls Tryz.prog 64 #[.int .i64 k] w fun e w' => e = .returned (.bool (eK k)) ∧ w' = w := by
  unfold eK
  by_cases h : 1 ≤ k
  · rw [decide_eq_true h]
    go_enter Tryz.func64, Tryz.ntmps64
    go_wp2_with fail
    go_ret
    exact ⟨rfl, rfl⟩
  · rw [decide_eq_false h]
    go_enter Tryz.func64, Tryz.ntmps64
    go_wp2_with fail
    go_ret
    exact ⟨rfl, rfl⟩

set_option maxHeartbeats 1000000 in
set_option maxRecDepth 100000 in
theorem iPat (k : Int) (w : World) : Calls Tryz.prog 65 #[.int .i64 k] w fun e w' => e = .returned (.bool (pK k)) ∧ w' = w := by
  unfold pK
  by_cases h : 30 ≤ k
  · rw [decide_eq_true h]
    go_enter Tryz.func65, Tryz.ntmps65
    go_wp2_with fail
    go_ret
    exact ⟨rfl, rfl⟩
  · rw [decide_eq_false h]
    go_enter Tryz.func65, Tryz.ntmps65
    go_wp2_with fail
    go_ret
    exact ⟨rfl, rfl⟩

set_option maxHeartbeats 1000000 in
set_option maxRecDepth 100000 in
theorem iType (k : Int) (w : World) : Calls Tryz.prog 66 #[.int .i64 k] w fun e w' => e = .returned (.bool (tK k)) ∧ w' = w := by
  unfold tK
  by_cases h : 50 ≤ k
  · rw [decide_eq_true h]
    go_enter Tryz.func66, Tryz.ntmps66
    go_wp2_with fail
    go_ret
    exact ⟨rfl, rfl⟩
  · rw [decide_eq_false h]
    go_enter Tryz.func66, Tryz.ntmps66
    go_wp2_with fail
    go_ret
    exact ⟨rfl, rfl⟩

set_option maxHeartbeats 1000000 in
set_option maxRecDepth 100000 in
theorem iDecl (k : Int) (w : World) : Calls Tryz.prog 67 #[.int .i64 k] w fun e w' => e = .returned (.bool (dK k)) ∧ w' = w := by
  unfold dK
  by_cases h : 60 ≤ k
  · rw [decide_eq_true h]
    go_enter Tryz.func67, Tryz.ntmps67
    go_wp2_with fail
    go_ret
    exact ⟨rfl, rfl⟩
  · rw [decide_eq_false h]
    go_enter Tryz.func67, Tryz.ntmps67
    go_wp2_with fail
    go_ret
    exact ⟨rfl, rfl⟩

/-- Whether the kids from one place up to another are of a class. -/
def allB (L : List Kn) (p : Int → Bool) (i b : Nat) : Bool := ((L.take b).drop i).all (fun x => p x.k)

theorem allB_step {L : List Kn} {p : Int → Bool} {i b : Nat} {x : Kn} (hx : L[i]? = some x) (hi : i < b) : allB L p i b = (p x.k && allB L p (i + 1) b) := by
  obtain ⟨hl, rfl⟩ := List.getElem?_eq_some_iff.1 hx
  have h1 : i < (L.take b).length := by rw [List.length_take]; omega
  unfold allB
  rw [List.drop_eq_getElem_cons h1, List.all_cons, List.getElem_take]
theorem allB_end {L : List Kn} {p : Int → Bool} {i b : Nat} (h : b ≤ i) : allB L p i b = true := by
  unfold allB
  rw [List.drop_eq_nil_of_le (by rw [List.length_take]; omega)]
  rfl

end Go.Proofs.YtjfoagmenehapaaGreatDoor.Tree

