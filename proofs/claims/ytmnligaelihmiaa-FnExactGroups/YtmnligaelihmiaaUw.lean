import Derived.Test.YtmnligaelihmiaaUt
namespace Go.Proofs.Ytmnligaelihmiaa
open Go.RowKit Go.Joins

theorem Fit.bounds {E : Nat → List Fld} {M : Nat} (hM : ∀ k, (E k).length ≤ M) : ∀ (F : Fo) (fs : List Fld), Fit E F fs → F.ct ≤ M * F.wt + F.len ∧ F.sct ≤ M * F.wt ∧ F.size ≤ M * F.wt + F.len
  | .nil, _, _ => ⟨Nat.zero_le _, Nat.zero_le _, Nat.zero_le _⟩
  | .v x r, fs, h => by
    have hr : ∃ gs, Fit E r gs := by
      cases fs with
      | nil => exact absurd (fit_nil h) (by simp)
      | cons f gs =>
        refine ⟨gs, ?_⟩
        cases f with
        | i => obtain ⟨_, _, e, _, hr⟩ := fit_i h; cases e; exact hr
        | b => obtain ⟨_, _, e, hr⟩ := fit_b h; cases e; exact hr
        | u => obtain ⟨_, _, e, _, hr⟩ := fit_u h; cases e; exact hr
        | t => obtain ⟨_, _, e, _, hr⟩ := fit_t h; cases e; exact hr
        | s k => obtain ⟨_, _, _, _, _, e, _, _⟩ := fit_s h; cases e
    obtain ⟨gs, hr⟩ := hr
    obtain ⟨h1, h2, h3⟩ := Fit.bounds hM r gs hr
    simp only [Fo.ct, Fo.sct, Fo.size, Fo.wt, Fo.len, Nat.mul_add]
    omega
  | .s a n cap ks r, fs, h => by
    have hr : ∃ k gs, Fit E ks (rep (E k) n) ∧ Fit E r gs := by
      cases fs with
      | nil => exact absurd (fit_nil h) (by simp)
      | cons f gs =>
        cases f with
        | i => obtain ⟨_, _, e, _, hr⟩ := fit_i h; cases e
        | b => obtain ⟨_, _, e, hr⟩ := fit_b h; cases e
        | u => obtain ⟨_, _, e, _, hr⟩ := fit_u h; cases e
        | t => obtain ⟨_, _, e, _, hr⟩ := fit_t h; cases e
        | s k => obtain ⟨_, _, _, _, _, e, hk, hr⟩ := fit_s h; cases e; exact ⟨k, gs, hk, hr⟩
    obtain ⟨k, gs, hk, hr⟩ := hr
    obtain ⟨h1, h2, h3⟩ := Fit.bounds hM r gs hr
    obtain ⟨k1, k2, k3⟩ := Fit.bounds hM ks _ hk
    have hl : ks.len ≤ M * n := by rw [hk.len, rep_len, Nat.mul_comm]; exact Nat.mul_le_mul_right _ (hM k)
    simp only [Fo.ct, Fo.sct, Fo.size, Fo.wt, Fo.len, Nat.mul_add]
    omega

/-- What a law's walk knows: boxes, rows of cells, rows of its own. -/
structure Law (W : World) (bs : List (Nat × List Value)) (fs : List Fo) (os : List (Nat × Fo)) (V : World) : Prop where
  be : Below W.heap.size W V
  bx : ∀ p ∈ bs, Bx V p.1 p.2
  fo : ∀ F ∈ fs, F.Subs V (fun c => c < V.heap.size)
  ow : ∀ p ∈ os, Own p.1 V p.2

theorem Law.start (W : World) : Law W [] [] [] W := ⟨Below.refl _ _, fun p hp => by simp at hp, fun p hp => by simp at hp, fun p hp => by simp at hp⟩

theorem Law.kept {W A B : World} {bs : List (Nat × List Value)} {fs : List Fo} {os : List (Nat × Fo)} {S : Nat → Prop} (h : Law W bs fs os A) (k : Kept S A B) (h0 : ∀ c, c < W.heap.size → S c) (h1 : ∀ p ∈ bs, S p.1) (h2 : ∀ F ∈ fs, ∀ c ∈ F.inn, S c) (h3 : ∀ p ∈ os, ∀ c, p.1 ≤ c → c < A.heap.size → S c) : Law W bs fs os B :=
  ⟨Below.kept h.be k h0 (Nat.le_refl _), fun p hp => (h.bx p hp).kept k (h1 p hp), fun F hF => by
    have hs := h.fo F hF
    have hz := k.size
    have hi := hs.inn_of
    exact (hs.own.kept k (fun c hc => ⟨h2 F hF c hc, hi c hc⟩)).mono (fun c hc => Nat.lt_of_lt_of_le (hi c hc) hz), fun p hp => (h.ow p hp).kept k (h3 p hp)⟩

theorem Law.below {W A B : World} {bs : List (Nat × List Value)} {fs : List Fo} {os : List (Nat × Fo)} (h : Law W bs fs os A) (k : Below A.heap.size A B) : Law W bs fs os B :=
  h.kept (kt (S := fun _ => True) k) (fun _ _ => trivial) (fun _ _ => trivial) (fun _ _ _ _ => trivial) (fun _ _ _ _ _ => trivial)

theorem Law.box {W A : World} {bs : List (Nat × List Value)} {fs : List Fo} {os : List (Nat × Fo)} (h : Law W bs fs os A) (L : List Value) (t : TypeId) : Law W ((A.heap.size, L) :: bs) fs os (A.alloc (.cells L.toArray t)) := by
  have h' := h.kept (Kept.alloc (fun _ => True) A (.cells L.toArray t)) (fun _ _ => trivial) (fun _ _ => trivial) (fun _ _ _ _ => trivial) (fun _ _ _ _ _ => trivial)
  refine ⟨h'.be, fun p hp => ?_, h'.fo, h'.ow⟩
  rcases List.mem_cons.1 hp with rfl | hp
  · exact Bx.new A L t
  · exact h'.bx p hp

theorem Law.add {W A : World} {bs : List (Nat × List Value)} {fs : List Fo} {os : List (Nat × Fo)} {F : Fo} (h : Law W bs fs os A) (hF : F.Subs A (fun c => c < A.heap.size)) : Law W bs (F :: fs) os A :=
  ⟨h.be, h.bx, fun G hG => by rcases List.mem_cons.1 hG with rfl | hG; exact hF; exact h.fo G hG, h.ow⟩

theorem Law.adds {W A : World} {bs : List (Nat × List Value)} {fs : List Fo} {os : List (Nat × Fo)} {lo : Nat} {F : Fo} (h : Law W bs fs os A) (hF : Own lo A F) : Law W bs (F :: fs) ((lo, F) :: os) A := by
  have h' := h.add (hF.subs.mono (fun _ x => x.2))
  refine ⟨h'.be, h'.bx, h'.fo, fun p hp => ?_⟩
  rcases List.mem_cons.1 hp with rfl | hp
  · exact hF
  · exact h.ow p hp

theorem Law.drop {W A : World} {bs cs : List (Nat × List Value)} {fs gs : List Fo} {os ps : List (Nat × Fo)} (h : Law W bs fs os A) (hb : ∀ p ∈ cs, p ∈ bs) (hs : ∀ G ∈ gs, G ∈ fs) (ho : ∀ p ∈ ps, p ∈ os) : Law W cs gs ps A := ⟨h.be, fun p hp => h.bx p (hb p hp), fun G hG => h.fo G (hs G hG), fun p hp => h.ow p (ho p hp)⟩

theorem Law.cell {W A : World} {bs : List (Nat × List Value)} {fs : List Fo} {os : List (Nat × Fo)} (h : Law W bs fs os A) (b : Nat) (L : List Value) (hb : (b, L) ∈ bs) (i : Nat) (v : Value) (hv : L[i]? = some v) : A.cell? ⟨b, i, none⟩ = some v :=
  (h.bx _ hb).cel i v hv

theorem Law.lt {W A : World} {bs : List (Nat × List Value)} {fs : List Fo} {os : List (Nat × Fo)} (h : Law W bs fs os A) (b : Nat) (L : List Value) (hb : (b, L) ∈ bs) : b < A.heap.size := (h.bx _ hb).lt

theorem all1 {α : Type} {p : α → Prop} {a : α} (h : p a) : ∀ x ∈ [a], p x := fun x hx => by rcases List.mem_cons.1 hx with rfl | hx; exact h; exact absurd hx List.not_mem_nil
theorem allc {α : Type} {p : α → Prop} {a : α} {l : List α} (h : p a) (hl : ∀ x ∈ l, p x) : ∀ x ∈ a :: l, p x := fun x hx => by rcases List.mem_cons.1 hx with rfl | hx; exact h; exact hl x hx

end Go.Proofs.Ytmnligaelihmiaa
