import Derived.Test.YtcnokpaicnjkfaaUt
import Derived.RangeFuncNested
import Derived.RangeFuncBound
import Derived.RangeFuncCalls
import Derived.RangeFuncLeaves
import Derived.Shelf.Abstract
import Derived.Shelf.RegionOpen
import Derived.WalkKit
import Derived.OwnWalkIn
import Derived.TacticsInMore
import Derived.LoopNIn
import Derived.LoopIn
namespace Go.Proofs.Ytcnokpaicnjkfaa
open Go.RowKit Go.Shelf

theorem Kept.putObj (S : Nat → Prop) (A : World) (l : Nat) (o : Obj) (h : ¬ S l) : Kept S A (A.putObj l o) :=
  ⟨rfl, rfl, rfl, by simp, fun k _ hs => World.putObj_heap_other (fun e => h (e ▸ hs))⟩

/-- A block that is there and holds no row of bytes. -/
def NB (W : World) (b : Nat) : Prop := ∃ o, W.heap[b]? = some o ∧ ∀ c fz, o ≠ .cells c 5 fz

theorem NB.lt {W : World} {b : Nat} (h : NB W b) : b < W.heap.size := by
  obtain ⟨o, ho, _⟩ := h
  exact (Array.getElem?_eq_some_iff.1 ho).1

theorem NB.kept {A B : World} {S : Nat → Prop} {b : Nat} (h : NB A b) (k : Kept S A B) (hb : S b) : NB B b := by
  obtain ⟨o, ho, hn⟩ := h
  exact ⟨o, (k.block b (NB.lt ⟨o, ho, hn⟩) hb).trans ho, hn⟩

theorem NB.cells {W : World} {b : Nat} {cs : Array Value} {t : TypeId} {fz : Nat × Nat} (h : W.heap[b]? = some (.cells cs t fz)) (ht : t ≠ 5) : NB W b :=
  ⟨_, h, fun c f e => by cases e; exact ht rfl⟩

theorem NB.new (W : World) (cs : Array Value) (t : TypeId) (ht : t ≠ 5) : NB (W.alloc (.cells cs t)) W.heap.size := NB.cells (World.alloc_heap_new W _) ht

/-- J speaks of blocks that are not the other side's. -/
def Abid (J : Nat → (Nat → Prop) → World → Prop) : Prop :=
  ∀ (k : Nat) (O O' : Nat → Prop) (A B : World), J k O A → Kept (fun b => ¬ O b) A B → (∀ b, O' b → O b ∨ A.heap.size ≤ b) → J k O' B

theorem Abid.same {J : Nat → (Nat → Prop) → World → Prop} (h : Abid J) {k : Nat} {O : Nat → Prop} {A B : World} (hj : J k O A) (hk : Kept (fun b => ¬ O b) A B) : J k O B :=
  h k O O A B hj hk (fun _ x => .inl x)

/-- The iterator's contract: it writes blocks of its own alone; a round keeps those and the blocks of Sb. -/
def Seq {P : Program} (F : Fence) (n : Nat) (g : Nat) (lb : Array Value) (encs : Nat → Array Value) (N : Nat) (Sb : Nat → Prop) (w : World) : Prop :=
  ∀ (l : Nat) (J Jx : Nat → (Nat → Prop) → World → Prop) (W : World), Below w.heap.size w W → Abid J → Abid Jx →
    (∀ (k : Nat) (O : Nat → Prop) (W1 : World), k < N → (∀ b, O b → NB W1 b) → J k O W1 → YieldAt F (n - 1) P l (encs k) W1 fun e W' =>
      Kept (fun b => O b ∨ Sb b) W1 W' ∧ ((e = .returned (.bool true) ∧ J (k + 1) O W') ∨ (e = .returned (.bool false) ∧ Jx k O W'))) →
    J 0 (fun _ => False) W →
    CallsIn F n P g (#[.func (.yield l) #[] #[]] ++ lb) W fun e W' => (∃ v, e = .returned v) ∧ ((∃ O, J N O W') ∨ (∃ k O, k < N ∧ Jx k O W'))

/-- How a round's body may be left. -/
def roundOwn (Sb : Nat → Prop) (I : Nat → (Nat → Prop) → World → Prop) (Ix : Code → Nat → (Nat → Prop) → World → Prop) (k : Nat) (O : Nat → Prop) (W : World) : Exit → Act → World → Prop
  | .normal, _, W' => Kept (fun b => O b ∨ Sb b) W W' ∧ I (k + 1) O W'
  | .ret, _, W' => Kept (fun b => O b ∨ Sb b) W W' ∧ Ix .ret k O W'
  | .exit id, _, W' => Kept (fun b => O b ∨ Sb b) W W' ∧ Ix (.exit id) k O W'
  | .goto t, _, W' => Kept (fun b => O b ∨ Sb b) W W' ∧ Ix (.goto t) k O W'
  | .panic _, _, _ => False
  | .outgrown, _, _ => False

theorem wpIn_range {F : Fence} {n : Nat} {P : Program} {g : Operand} {ps : Array Tmp} {assign body : Code} {Q : Exit → Act → World → Prop} {a : Act} {w : World}
    (hro : F.round = none) (h1 : 1 ≤ n) {gf : Nat} {lb : Array Value} (hg : a.eval g = .func (.func gf) #[] lb) (hFg : F.fn gf)
    (eg : ∀ args w, (callFunc gf args).run P w = .ok (.enter gf args) w) {encs : Nat → Array Value} {N : Nat} {Sb : Nat → Prop} {w0 : World}
    (hseq : Seq (P := P) F (n - 1) gf lb encs N Sb w0) (hb0 : Below w0.heap.size w0 w) (hn0 : ∀ b, Sb b → b < w.heap.size) (hps : ∀ k, (encs k).size = ps.size)
    (I : Nat → (Nat → Prop) → World → Prop) (Ix : Code → Nat → (Nat → Prop) → World → Prop) (hI : Abid I) (hIx : ∀ c, Abid (Ix c)) (h0 : I 0 (fun _ => False) w)
    (Ax : Nat → (Nat → Prop) → Act → World → Prop)
    (hassign : ∀ (l k : Nat) (O : Nat → Prop) (W : World) (K : Act → World → Prop), k < N → (∀ b, O b → NB W b) → I k O W → (∀ a' W', Kept (fun _ => True) W W' → I k O W' → Ax k O a' W' → K a' W') →
      assign.wpIn (F.inRound l) (n - 1 - 1) P (Exit.then K (fun _ _ _ => False)) { tmps := (ps.zip (encs k)).foldl (fun t (p, v) => t.setIfInBounds p v) a.tmps, defers := [] } W)
    (hbody : ∀ (l k : Nat) (O : Nat → Prop) (a' : Act) (W1 W : World), k < N → Ax k O a' W1 → Kept (fun b => ¬ O b) W1 W → (∀ b, O b → NB W b) → I k O W → (∀ b, O b → w.heap.size ≤ b) →
      body.wpIn (F.inRound l) (n - 1 - 1) P (roundOwn Sb I Ix k O W) a' W)
    (hdone : ∀ (D : Nat) (O : Nat → Prop) (W : World), w.heap.size ≤ D → O D → (∀ b, O b → w.heap.size ≤ b) → I N O W → W.heap[D]? = some (.deferred (some [])) → Q .normal { a with defers := { target := .collected D, args := #[] } :: a.defers } W)
    (hstop : ∀ (D : Nat) (c : Code) (k : Nat) (O : Nat → Prop) (W : World), w.heap.size ≤ D → O D → (∀ b, O b → w.heap.size ≤ b) → k < N → Ix c k O W → W.heap[D]? = some (.deferred (some [])) →
      c.wpIn F n P Q { a with defers := { target := .collected D, args := #[] } :: a.defers } W) :
    (Code.rangeFunc g ps assign body).wpIn F n P Q a w := by
  refine wpIn_rangeFunc ?_
  intro fn hfn
  rw [hro]
  obtain ⟨D, hD⟩ : ∃ D, w.heap.size = D := ⟨_, rfl⟩
  obtain ⟨rec, hrec⟩ : ∃ rec : LoopState → Option Code → Loop, rec = fun st pe => { state := st, pending := pe, fn, tmps := a.tmps, params := ps, assign, body, defers := D } := ⟨_, rfl⟩
  obtain ⟨W1, hW1⟩ : ∃ W1, (w.alloc (.deferred (some []))).alloc (.loop (rec .ready none)) = W1 := ⟨_, rfl⟩
  have hL1 : W1.heap[D + 1]? = some (.loop (rec .ready none)) := by
    rw [← hW1, ← hD]
    have := World.alloc_heap_new (w.alloc (.deferred (some []))) (.loop (rec .ready none))
    rwa [World.size_alloc] at this
  have hK1 : W1.heap[D]? = some (.deferred (some [])) := by
    rw [← hW1, ← hD]
    exact (Below.heap_alloc _ _ _ (by simp)).trans (World.alloc_heap_new w _)
  have hkw : Kept (fun b => ¬ False) w W1 := by
    rw [← hW1]
    exact (Kept.alloc _ _ _).trans (Kept.alloc _ _ _)
  have hI1 : I 0 (fun b => False ∨ b = D ∨ b = D + 1) W1 := hI _ _ _ _ _ h0 hkw (fun b x => .inr (by rcases x with x | x | x; exact x.elim; all_goals omega))
  have hb1 : Below w0.heap.size w0 W1 := by
    rw [← hW1]; exact hb0.trans ((((Below.refl _ w).alloc (Nat.le_refl _) _).alloc (by simp) _).mono hb0.size)
  refine ⟨D + 1, [{ target := .collected D, args := #[] }], W1, { target := .fn (.func gf) lb, args := #[.func (.yield (D + 1)) #[] #[]] }, W1, gf,
    #[.func (.yield (D + 1)) #[] #[]] ++ lb, W1, ?_, ?_, ?_, ?_, fun _ => h1, ?_⟩
  · rw [← hW1, hrec, ← hD]; exact run_enterLoop_outer _ _ _ _ _
  · simp only [resolve, hg]
    simp [go_sem]
  · intro f' hf'; simp [Target.leads] at hf'; subst hf'; exact hFg
  · simp [invoke, go_sem, eg]
  · refine (hseq (D + 1)
      (fun k O W => I k (fun b => O b ∨ b = D ∨ b = D + 1) W ∧ W.heap[D + 1]? = some (.loop (rec .ready none)) ∧ W.heap[D]? = some (.deferred (some [])) ∧ ∀ b, O b → D + 2 ≤ b)
      (fun k O W => ∃ c, Ix c k (fun b => O b ∨ b = D ∨ b = D + 1) W ∧ W.heap[D + 1]? = some (.loop (rec .done (some c))) ∧ W.heap[D]? = some (.deferred (some [])) ∧ ∀ b, O b → D + 2 ≤ b)
      W1 hb1 ?_ ?_ ?_ ⟨hI1, hL1, hK1, fun _ x => x.elim⟩).mono ?_
    · rintro k O O' A B ⟨hi, hl, hk, ho⟩ hK hn
      have hlt : D + 1 < A.heap.size := (Array.getElem?_eq_some_iff.1 hl).1
      refine ⟨hI _ _ _ _ _ hi (hK.mono (fun b _ x y => x (.inl y))) (fun b x => ?_), ?_, ?_, fun b x => ?_⟩
      · rcases x with x | x
        · exact (hn b x).imp_left .inl
        · exact .inl (.inr x)
      · exact (hK.block _ hlt (fun x => by have := ho _ x; omega)).trans hl
      · exact (hK.block _ (by omega) (fun x => by have := ho _ x; omega)).trans hk
      · rcases hn b x with x | x
        · exact ho b x
        · omega
    · rintro k O O' A B ⟨c, hi, hl, hk, ho⟩ hK hn
      have hlt : D + 1 < A.heap.size := (Array.getElem?_eq_some_iff.1 hl).1
      refine ⟨c, hIx c _ _ _ _ _ hi (hK.mono (fun b _ x y => x (.inl y))) (fun b x => ?_), ?_, ?_, fun b x => ?_⟩
      · rcases x with x | x
        · exact (hn b x).imp_left .inl
        · exact .inl (.inr x)
      · exact (hK.block _ hlt (fun x => by have := ho _ x; omega)).trans hl
      · exact (hK.block _ (by omega) (fun x => by have := ho _ x; omega)).trans hk
      · rcases hn b x with x | x
        · exact ho b x
        · omega
    · rintro k O W hlen hOb ⟨hi, hl, hk, ho⟩
      have hlt : D + 1 < W.heap.size := (Array.getElem?_eq_some_iff.1 hl).1
      have hOb' : ∀ b, (O b ∨ b = D ∨ b = D + 1) → NB W b := fun b z => by
        rcases z with z | z | z
        · exact hOb b z
        · exact ⟨_, z ▸ hk, fun c fz e => by cases e⟩
        · exact ⟨_, z ▸ hl, fun c fz e => by cases e⟩
      have hy := run_yield (P := P) (args := encs k) hl (by rw [hrec]; exact hps k)
      rw [hrec] at hy
      refine ⟨fn, _, assign, body, hy, roundIn_of_wpIn hfn (hassign _ k _ W _ hlen hOb' hi (fun a' W' hKW hi' hax => ?_))⟩
      have hl' : W'.heap[D + 1]? = some (.loop (rec .ready none)) := (hKW.block _ hlt trivial).trans hl
      have hk' : W'.heap[D]? = some (.deferred (some [])) := (hKW.block _ (by omega) trivial).trans hk
      have hlt' : D + 1 < W'.heap.size := (Array.getElem?_eq_some_iff.1 hl').1
      refine ⟨_, run_beginRound hl' (by rw [hrec]), ?_⟩
      obtain ⟨W2, hW2⟩ : ∃ W2, W'.putObj (D + 1) (.loop { rec .ready none with state := .busy }) = W2 := ⟨_, rfl⟩
      have hl2 : W2.heap[D + 1]? = some (.loop { rec .ready none with state := .busy }) := by rw [← hW2]; exact World.putObj_heap_same hlt'
      have hk2 : W2.heap[D]? = some (.deferred (some [])) := by rw [← hW2]; exact (World.putObj_heap_other (by omega)).trans hk'
      have hk12 : Kept (fun b => ¬ (O b ∨ b = D ∨ b = D + 1)) W' W2 := by rw [← hW2]; exact Kept.putObj _ _ _ _ (fun x => x (.inr (.inr rfl)))
      have hkO : Kept (fun b => O b ∨ Sb b) W W2 := by
        refine (hKW.mono (fun _ _ _ => trivial)).trans ?_
        rw [← hW2]
        refine Kept.putObj _ _ _ _ (fun x => ?_)
        rcases x with x | x
        · have := ho _ x; omega
        · have := hn0 _ x; omega
      have hi2 : I k (fun b => O b ∨ b = D ∨ b = D + 1) W2 := hI.same hi' hk12
      have hlow : ∀ b, (O b ∨ b = D ∨ b = D + 1) → w.heap.size ≤ b := fun b x => by
        rcases x with x | x
        · have := ho b x; omega
        · omega
      have hOb2 : ∀ b, (O b ∨ b = D ∨ b = D + 1) → NB W2 b := fun b z => by
        by_cases e : b = D + 1
        · exact ⟨_, e ▸ hl2, fun c fz e => by cases e⟩
        · have h1 := (hOb' b z).kept hKW trivial
          have h2 : Kept (fun b => b ≠ D + 1) W' W2 := by rw [← hW2]; exact Kept.putObj _ _ _ _ (fun x => x rfl)
          exact h1.kept h2 e
      rw [hW2]
      refine wpIn_mono (hbody _ k _ a' W' W2 hlen hax hk12 hOb2 hi2 hlow) ?_
      have fin : ∀ (jump : Option Code) (W3 : World), Kept (fun b => (O b ∨ b = D ∨ b = D + 1) ∨ Sb b) W2 W3 →
          ∃ W4, W4 = W3.putObj (D + 1) (.loop (rec (if jump.isNone then .ready else .done) jump)) ∧ (Instr.endRound (D + 1) jump).run P W3 = .ok (.bool jump.isNone) W4 ∧
          W4.heap[D + 1]? = some (.loop (rec (if jump.isNone then .ready else .done) jump)) ∧ W4.heap[D]? = some (.deferred (some [])) ∧
          Kept (fun b => O b ∨ Sb b) W W4 ∧ Kept (fun b => ¬ (O b ∨ b = D ∨ b = D + 1)) W3 W4 := fun jump W3 hk3 => by
        have hlt2 : D + 1 < W2.heap.size := (Array.getElem?_eq_some_iff.1 hl2).1
        have hl3 := (hk3.block (D + 1) hlt2 (.inl (.inr (.inr rfl)))).trans hl2
        have hkk3 := (hk3.block D (by omega) (.inl (.inr (.inl rfl)))).trans hk2
        have hlt3 : D + 1 < W3.heap.size := (Array.getElem?_eq_some_iff.1 hl3).1
        have hr := run_endRound (P := P) jump hl3
        refine ⟨_, rfl, ?_, World.putObj_heap_same hlt3, (World.putObj_heap_other (by omega)).trans hkk3, ?_, Kept.putObj _ _ _ _ (fun x => x (.inr (.inr rfl)))⟩
        · rw [hrec] at hr ⊢
          exact hr
        · refine (hkO.trans (hk3.mono (fun b _ x => ?_))).trans (Kept.putObj _ _ _ _ (fun x => ?_))
          · rcases x with x | x
            · exact .inl (.inl x)
            · exact .inr x
          · rcases x with x | x
            · have := ho _ x; omega
            · have := hn0 _ x; omega
      rintro e a3 W3 hp
      cases e with
      | normal =>
        obtain ⟨hk3, hi3⟩ := hp
        obtain ⟨W4, -, hr, hl4, hk4, hK4, hA4⟩ := fin none W3 hk3
        exact ⟨_, W4, hr, hK4, .inl ⟨rfl, hI.same hi3 hA4, hl4, hk4, ho⟩⟩
      | ret =>
        obtain ⟨hk3, hi3⟩ := hp
        obtain ⟨W4, -, hr, hl4, hk4, hK4, hA4⟩ := fin (some .ret) W3 hk3
        exact ⟨_, W4, hr, hK4, .inr ⟨rfl, .ret, (hIx _).same hi3 hA4, hl4, hk4, ho⟩⟩
      | exit id =>
        obtain ⟨hk3, hi3⟩ := hp
        obtain ⟨W4, -, hr, hl4, hk4, hK4, hA4⟩ := fin (some (.exit id)) W3 hk3
        exact ⟨_, W4, hr, hK4, .inr ⟨rfl, .exit id, (hIx _).same hi3 hA4, hl4, hk4, ho⟩⟩
      | goto t =>
        obtain ⟨hk3, hi3⟩ := hp
        obtain ⟨W4, -, hr, hl4, hk4, hK4, hA4⟩ := fin (some (.goto t)) W3 hk3
        exact ⟨_, W4, hr, hK4, .inr ⟨rfl, .goto t, (hIx _).same hi3 hA4, hl4, hk4, ho⟩⟩
      | panic ch => exact hp.elim
      | outgrown => exact hp.elim
    · have hlow : ∀ O : Nat → Prop, (∀ b, O b → D + 2 ≤ b) → ∀ b, (O b ∨ b = D ∨ b = D + 1) → w.heap.size ≤ b := fun O ho b x => by
        rcases x with x | x
        · have := ho b x; omega
        · omega
      rintro e W2 ⟨⟨v, rfl⟩, (⟨O, hi, hl, hk, ho⟩ | ⟨k, O, hk0, c, hi, hl, hk, ho⟩)⟩
      · exact ⟨none, _, by have := run_endLoop (P := P) hl (by rw [hrec]; simp); rw [hrec] at this; exact this,
          hdone D (fun b => O b ∨ b = D ∨ b = D + 1) _ (by omega) (.inr (.inl rfl)) (hlow O ho) (hI.same hi (Kept.putObj _ _ _ _ (fun x => x (.inr (.inr rfl))))) ((World.putObj_heap_other (by omega)).trans hk)⟩
      · exact ⟨some c, _, by have := run_endLoop (P := P) hl (by rw [hrec]; simp); rw [hrec] at this; exact this,
          hstop D c k (fun b => O b ∨ b = D ∨ b = D + 1) _ (by omega) (.inr (.inl rfl)) (hlow O ho) hk0 ((hIx c).same hi (Kept.putObj _ _ _ _ (fun x => x (.inr (.inr rfl))))) ((World.putObj_heap_other (by omega)).trans hk)⟩

end Go.Proofs.Ytcnokpaicnjkfaa
