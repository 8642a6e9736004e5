import Derived.Test.YtfgmgbkiebeeoaaUt
import Derived.Test.YtfgmgbkiebeeoaaUr
import Derived.ProofKit
import Derived.OpenShut
import Derived.ShutString
import Derived.ChangeOld
import Derived.Test.YtfgmgbkiebeeoaaKa
namespace Go.Proofs.Ytfgmgbkiebeeoaa
open Go.RowKit Go.Joins

theorem Fit.bounds {E : Nat → List Fld} {M : Nat} (hM : ∀ k, (E k).length ≤ M) : ∀ (F : Fo) (fs : List Fld), Fit E F fs → F.ct ≤ M * F.wt + F.len ∧ F.sct ≤ M * F.wt ∧ F.size ≤ M * F.wt + F.len
  | .nil, _, _ => ⟨Nat.zero_le _, Nat.zero_le _, Nat.zero_le _⟩
  | .v x r, fs, h => by
    have hr : ∃ gs, Fit E r gs := by
      cases fs with
      | nil => exact absurd (fit_nil h) (by simp)
      | cons f gs =>
        refine ⟨gs, ?_⟩
        cases f with
        | i => obtain ⟨_, _, e, _, hr⟩ := fit_i h; cases e; exact hr
        | b => obtain ⟨_, _, e, hr⟩ := fit_b h; cases e; exact hr
        | u => obtain ⟨_, _, e, _, hr⟩ := fit_u h; cases e; exact hr
        | t => obtain ⟨_, _, e, _, hr⟩ := fit_t h; cases e; exact hr
        | s k => obtain ⟨_, _, _, _, _, e, _, _⟩ := fit_s h; cases e
    obtain ⟨gs, hr⟩ := hr
    obtain ⟨h1, h2, h3⟩ := Fit.bounds hM r gs hr
    simp only [Fo.ct, Fo.sct, Fo.size, Fo.wt, Fo.len, Nat.mul_add]
    omega
  | .s a n cap ks r, fs, h => by
    have hr : ∃ k gs, Fit E ks (rep (E k) n) ∧ Fit E r gs := by
      cases fs with
      | nil => exact absurd (fit_nil h) (by simp)
      | cons f gs =>
        cases f with
        | i => obtain ⟨_, _, e, _, hr⟩ := fit_i h; cases e
        | b => obtain ⟨_, _, e, hr⟩ := fit_b h; cases e
        | u => obtain ⟨_, _, e, _, hr⟩ := fit_u h; cases e
        | t => obtain ⟨_, _, e, _, hr⟩ := fit_t h; cases e
        | s k => obtain ⟨_, _, _, _, _, e, hk, hr⟩ := fit_s h; cases e; exact ⟨k, gs, hk, hr⟩
    obtain ⟨k, gs, hk, hr⟩ := hr
    obtain ⟨h1, h2, h3⟩ := Fit.bounds hM r gs hr
    obtain ⟨k1, k2, k3⟩ := Fit.bounds hM ks _ hk
    have hl : ks.len ≤ M * n := by rw [hk.len, rep_len, Nat.mul_comm]; exact Nat.mul_le_mul_right _ (hM k)
    simp only [Fo.ct, Fo.sct, Fo.size, Fo.wt, Fo.len, Nat.mul_add]
    omega

/-- What a law's walk knows: boxes, rows of cells, rows of its own. -/
structure Law (W : World) (bs : List (Nat × List Value)) (fs : List Fo) (os : List (Nat × Fo)) (V : World) : Prop where
  be : Below W.heap.size W V
  bx : ∀ p ∈ bs, Bx V p.1 p.2
  fo : ∀ F ∈ fs, F.Subs V (fun c => c < V.heap.size)
  ow : ∀ p ∈ os, Own p.1 V p.2

theorem Law.start (W : World) : Law W [] [] [] W := ⟨Below.refl _ _, fun p hp => by simp at hp, fun p hp => by simp at hp, fun p hp => by simp at hp⟩

theorem Law.kept {W A B : World} {bs : List (Nat × List Value)} {fs : List Fo} {os : List (Nat × Fo)} {S : Nat → Prop} (h : Law W bs fs os A) (k : Kept S A B) (h0 : ∀ c, c < W.heap.size → S c) (h1 : ∀ p ∈ bs, S p.1) (h2 : ∀ F ∈ fs, ∀ c ∈ F.inn, S c) (h3 : ∀ p ∈ os, ∀ c, p.1 ≤ c → c < A.heap.size → S c) : Law W bs fs os B :=
  ⟨Below.kept h.be k h0 (Nat.le_refl _), fun p hp => (h.bx p hp).kept k (h1 p hp), fun F hF => by
    have hs := h.fo F hF
    have hz := k.size
    have hi := hs.inn_of
    exact (hs.own.kept k (fun c hc => ⟨h2 F hF c hc, hi c hc⟩)).mono (fun c hc => Nat.lt_of_lt_of_le (hi c hc) hz), fun p hp => (h.ow p hp).kept k (h3 p hp)⟩

theorem Law.below {W A B : World} {bs : List (Nat × List Value)} {fs : List Fo} {os : List (Nat × Fo)} (h : Law W bs fs os A) (k : Below A.heap.size A B) : Law W bs fs os B :=
  h.kept (kt (S := fun _ => True) k) (fun _ _ => trivial) (fun _ _ => trivial) (fun _ _ _ _ => trivial) (fun _ _ _ _ _ => trivial)

theorem Law.box {W A : World} {bs : List (Nat × List Value)} {fs : List Fo} {os : List (Nat × Fo)} (h : Law W bs fs os A) (L : List Value) (t : TypeId) : Law W ((A.heap.size, L) :: bs) fs os (A.alloc (.cells L.toArray t)) := by
  have h' := h.kept (Kept.alloc (fun _ => True) A (.cells L.toArray t)) (fun _ _ => trivial) (fun _ _ => trivial) (fun _ _ _ _ => trivial) (fun _ _ _ _ _ => trivial)
  refine ⟨h'.be, fun p hp => ?_, h'.fo, h'.ow⟩
  rcases List.mem_cons.1 hp with rfl | hp
  · exact Bx.new A L t
  · exact h'.bx p hp

theorem Law.add {W A : World} {bs : List (Nat × List Value)} {fs : List Fo} {os : List (Nat × Fo)} {F : Fo} (h : Law W bs fs os A) (hF : F.Subs A (fun c => c < A.heap.size)) : Law W bs (F :: fs) os A :=
  ⟨h.be, h.bx, fun G hG => by rcases List.mem_cons.1 hG with rfl | hG; exact hF; exact h.fo G hG, h.ow⟩

theorem Law.adds {W A : World} {bs : List (Nat × List Value)} {fs : List Fo} {os : List (Nat × Fo)} {lo : Nat} {F : Fo} (h : Law W bs fs os A) (hF : Own lo A F) : Law W bs (F :: fs) ((lo, F) :: os) A := by
  have h' := h.add (hF.subs.mono (fun _ x => x.2))
  refine ⟨h'.be, h'.bx, h'.fo, fun p hp => ?_⟩
  rcases List.mem_cons.1 hp with rfl | hp
  · exact hF
  · exact h.ow p hp

theorem Law.drop {W A : World} {bs cs : List (Nat × List Value)} {fs gs : List Fo} {os ps : List (Nat × Fo)} (h : Law W bs fs os A) (hb : ∀ p ∈ cs, p ∈ bs) (hs : ∀ G ∈ gs, G ∈ fs) (ho : ∀ p ∈ ps, p ∈ os) : Law W cs gs ps A := ⟨h.be, fun p hp => h.bx p (hb p hp), fun G hG => h.fo G (hs G hG), fun p hp => h.ow p (ho p hp)⟩

theorem Law.cell {W A : World} {bs : List (Nat × List Value)} {fs : List Fo} {os : List (Nat × Fo)} (h : Law W bs fs os A) (b : Nat) (L : List Value) (hb : (b, L) ∈ bs) (i : Nat) (v : Value) (hv : L[i]? = some v) : A.cell? ⟨b, i, none⟩ = some v :=
  (h.bx _ hb).cel i v hv

theorem Law.lt {W A : World} {bs : List (Nat × List Value)} {fs : List Fo} {os : List (Nat × Fo)} (h : Law W bs fs os A) (b : Nat) (L : List Value) (hb : (b, L) ∈ bs) : b < A.heap.size := (h.bx _ hb).lt

theorem all1 {α : Type} {p : α → Prop} {a : α} (h : p a) : ∀ x ∈ [a], p x := fun x hx => by rcases List.mem_cons.1 hx with rfl | hx; exact h; exact absurd hx List.not_mem_nil
theorem allc {α : Type} {p : α → Prop} {a : α} {l : List α} (h : p a) (hl : ∀ x ∈ l, p x) : ∀ x ∈ a :: l, p x := fun x hx => by rcases List.mem_cons.1 hx with rfl | hx; exact h; exact hl x hx

end Go.Proofs.Ytfgmgbkiebeeoaa

namespace Go.Proofs.Ytfgmgbkiebeeoaa
open Go.ChangeShapes Go.WideShapes Go.ChangeAt Go.RowKit Go.Joins

/-- What the cells of a value say. -/
def Says (E : Nat → List Fld) (W : World) (fs : List Fld) (cs : List Value) : Prop := ∃ F : Fo, cs = F.vals ∧ Fit E F fs ∧ F.Subs W (fun c => c < W.heap.size)

theorem Says.cat {E : Nat → List Fld} {W : World} {fs gs : List Fld} {cs ds : List Value} (h : Says E W fs cs) (k : Says E W gs ds) : Says E W (fs ++ gs) (cs ++ ds) := by
  obtain ⟨F, rfl, h1, h2⟩ := h
  obtain ⟨G, rfl, k1, k2⟩ := k
  exact ⟨F.app G, (Fo.app_vals F G).symm, h1.app k1, h2.app k2⟩

theorem Says.one {E : Nat → List Fld} {W : World} {f : Fld} {gs : List Fld} {c : Value} {ds : List Value} (h : Says E W [f] [c]) (k : Says E W gs ds) : Says E W (f :: gs) (c :: ds) := h.cat k

theorem Says.none {E : Nat → List Fld} {W : World} : Says E W [] [] := ⟨.nil, rfl, trivial, trivial⟩

theorem says_int {E : Nat → List Fld} {H : Type} {enc : TypeId × Value → H} {P : Program} {W : World} {m : Nat} {t : TypeId} {cs : List Value} {x : DataW H × List MemPlace} (ht : P.underlying t = some (.int .i64)) (h : DataW.trod enc P W 0 (fun _ => true) true m t cs = some x) : Says E W [.i] cs := by
  obtain ⟨k, e, -, hk⟩ := DataW.trod_int ht h
  exact ⟨.v (.int .i64 k) .nil, e, ⟨hk, trivial⟩, trivial⟩

theorem says_text {E : Nat → List Fld} {H : Type} {enc : TypeId × Value → H} {P : Program} {W : World} {m : Nat} {t : TypeId} {cs : List Value} {x : DataW H × List MemPlace} (ht : P.underlying t = some .string) (h : DataW.trod enc P W 0 (fun _ => true) true m t cs = some x) : Says E W [.t] cs := by
  obtain ⟨k, e, -, hk⟩ := DataW.trod_string ht h
  exact ⟨.v (.string k) .nil, e, ⟨hk, trivial⟩, trivial⟩

theorem says_bool {E : Nat → List Fld} {H : Type} {enc : TypeId × Value → H} {P : Program} {W : World} {m : Nat} {t : TypeId} {cs : List Value} {x : DataW H × List MemPlace} (ht : P.underlying t = some .bool) (h : DataW.trod enc P W 0 (fun _ => true) true m t cs = some x) : Says E W [.b] cs := by
  obtain ⟨k, e, -⟩ := DataW.trod_bool ht h
  exact ⟨.v (.bool k) .nil, e, (show Fit E .nil [] from trivial), trivial⟩

theorem says_limb {E : Nat → List Fld} {H : Type} {enc : TypeId × Value → H} {P : Program} {W : World} {m : Nat} {t : TypeId} {cs : List Value} {x : DataW H × List MemPlace} (ht : P.underlying t = some (.int .u32)) (h : DataW.trod enc P W 0 (fun _ => true) true m t cs = some x) : Says E W [.u] cs := by
  obtain ⟨k, e, -, hk⟩ := DataW.trod_int ht h
  exact ⟨.v (.int .u32 k) .nil, e, ⟨hk, trivial⟩, trivial⟩

theorem Cel.of_cells {W : World} {b o n : Nat} {cs : List Value} (h : W.cells? 0 ⟨b, o, none⟩ n = some cs) : Cel W cs b o := fun i v hv => by
  obtain ⟨-, hl, hc⟩ := World.cells?_some h
  have hi : i < n := by rw [← hl]; exact (List.getElem?_eq_some_iff.1 hv).1
  have := hc i hi
  rw [addr_add] at this
  rw [this]
  exact hv

theorem rows_up {E : Nat → List Fld} {W : World} {fs : List Fld} {b o len : Nat} (h : ∀ i, i < len → ∃ cs, W.cells? 0 ⟨b, o + i * fs.length, none⟩ fs.length = some cs ∧ Says E W fs cs) :
    ∀ j, j ≤ len → ∃ F : Fo, Fit E F (rep fs j) ∧ Cel W F.vals b (o + (len - j) * fs.length) ∧ F.Subs W (fun c => c < W.heap.size) := by
  intro j
  induction j with
  | zero => intro _; exact ⟨.nil, trivial, Cel.nil _ _ _, trivial⟩
  | succ j ih =>
    intro hj
    obtain ⟨F, hF, hC, hS⟩ := ih (by omega)
    obtain ⟨cs, hc, G, rfl, hG, hGs⟩ := h (len - (j + 1)) (by omega)
    refine ⟨G.app F, hG.app hF, ?_, hGs.app hS⟩
    rw [Fo.app_vals]
    refine Cel.join (Cel.of_cells hc) ?_
    rw [Fo.vals_length, hG.len]
    have e : len - j = len - (j + 1) + 1 := by omega
    rw [e, Nat.add_mul, Nat.one_mul, ← Nat.add_assoc] at hC
    exact hC

theorem says_slice {E : Nat → List Fld} {H : Type} {enc : TypeId × Value → H} {P : Program} {W : World} {m k : Nat} {t e : TypeId} {cs : List Value} {x : DataW H × List MemPlace} (ht : P.underlying t = some (.slice e)) (hc : P.cellsOf e = (E k).length) (hw : 0 < (E k).length)
    (ih : ∀ m', m' < m → ∀ cs x, DataW.trod enc P W 0 (fun _ => true) true m' e cs = some x → Says E W (E k) cs) (h : DataW.trod enc P W 0 (fun _ => true) true m t cs = some x) : Says E W [.s k] cs := by
  rcases DataW.trod_slice ht h with ⟨e2, -⟩ | ⟨a, len, cap, elems, rest, n', hn', e2, -, -, hlc, hcm, hel, hE, -, -⟩
  · exact ⟨.s none 0 0 .nil .nil, e2, ⟨trivial, trivial⟩, ⟨⟨Nat.le_refl _, Nat.zero_le _, fun hl => by simp [Fo.len] at hl⟩, trivial⟩⟩
  · rw [hc] at hE
    obtain ⟨b, off, spot⟩ := a
    rcases Nat.eq_zero_or_pos len with h0 | hp
    · subst h0
      exact ⟨.s (some ⟨b, off, spot⟩) 0 cap .nil .nil, e2, ⟨trivial, trivial⟩, ⟨⟨Nat.zero_le _, hcm, fun hl => by simp [Fo.len] at hl⟩, trivial⟩⟩
    · have hel' : ∀ i, i < len → ∃ cs, W.cells? 0 ((⟨b, off, spot⟩ : Addr).add (i * (E k).length)) (E k).length = some cs ∧ Says E W (E k) cs := by
        intro i hi
        have h1 := hE i hi
        have h2 : ∃ y, elems[i]? = some y := ⟨elems[i], by simp [hel ▸ hi]⟩
        obtain ⟨y, hy⟩ := h2
        rw [hy, Option.bind_eq_some_iff] at h1
        obtain ⟨cs, hc, ht⟩ := h1
        exact ⟨cs, hc, ih n' (by omega) cs y ht⟩
      have hspot : spot = none := by
        obtain ⟨cs, hc, -⟩ := hel' 0 hp
        obtain ⟨-, hl, hcc⟩ := World.cells?_some hc
        have h1 := hcc 0 hw
        have h2 : ∃ u, cs[0]? = some u := ⟨cs[0], by simp [hl ▸ hw]⟩
        obtain ⟨u, hu⟩ := h2
        rw [hu] at h1
        simpa [Addr.add] using World.cell?_spot h1
      subst hspot
      have hel2 : ∀ i, i < len → ∃ cs, W.cells? 0 ⟨b, off + i * (E k).length, none⟩ (E k).length = some cs ∧ Says E W (E k) cs := fun i hi => by
        have := hel' i hi
        rwa [addr_add] at this
      obtain ⟨F, hF, hC, hS⟩ := rows_up hel2 len (Nat.le_refl _)
      refine ⟨.s (some ⟨b, off, none⟩) len cap F .nil, e2, ⟨hF, trivial⟩, ⟨⟨hlc, hcm, fun _ => ⟨b, off, rfl, ?_, by simpa using hC, hS⟩⟩, trivial⟩⟩
      obtain ⟨cs, hc, -⟩ := hel2 0 hp
      exact World.cells?_block hc hw

end Go.Proofs.Ytfgmgbkiebeeoaa

namespace Go.Proofs.Ytfgmgbkiebeeoaa
open Go.RowKit Go.Joins

/-! Places in lists. -/

theorem mem_0 {α : Type} {a : α} {l : List α} : a ∈ a :: l := List.mem_cons_self
theorem mem_1 {α : Type} {a : α} {b0 : α} {l : List α} : a ∈ b0 :: a :: l := List.mem_cons_of_mem _ (List.mem_cons_self)
theorem mem_2 {α : Type} {a : α} {b0 b1 : α} {l : List α} : a ∈ b0 :: b1 :: a :: l := List.mem_cons_of_mem _ (List.mem_cons_of_mem _ (List.mem_cons_self))
theorem mem_3 {α : Type} {a : α} {b0 b1 b2 : α} {l : List α} : a ∈ b0 :: b1 :: b2 :: a :: l := List.mem_cons_of_mem _ (List.mem_cons_of_mem _ (List.mem_cons_of_mem _ (List.mem_cons_self)))
theorem mem_4 {α : Type} {a : α} {b0 b1 b2 b3 : α} {l : List α} : a ∈ b0 :: b1 :: b2 :: b3 :: a :: l := List.mem_cons_of_mem _ (List.mem_cons_of_mem _ (List.mem_cons_of_mem _ (List.mem_cons_of_mem _ (List.mem_cons_self))))
theorem mem_5 {α : Type} {a : α} {b0 b1 b2 b3 b4 : α} {l : List α} : a ∈ b0 :: b1 :: b2 :: b3 :: b4 :: a :: l := List.mem_cons_of_mem _ (List.mem_cons_of_mem _ (List.mem_cons_of_mem _ (List.mem_cons_of_mem _ (List.mem_cons_of_mem _ (List.mem_cons_self)))))
theorem mem_6 {α : Type} {a : α} {b0 b1 b2 b3 b4 b5 : α} {l : List α} : a ∈ b0 :: b1 :: b2 :: b3 :: b4 :: b5 :: a :: l := List.mem_cons_of_mem _ (List.mem_cons_of_mem _ (List.mem_cons_of_mem _ (List.mem_cons_of_mem _ (List.mem_cons_of_mem _ (List.mem_cons_of_mem _ (List.mem_cons_self))))))
theorem mem_7 {α : Type} {a : α} {b0 b1 b2 b3 b4 b5 b6 : α} {l : List α} : a ∈ b0 :: b1 :: b2 :: b3 :: b4 :: b5 :: b6 :: a :: l := List.mem_cons_of_mem _ (List.mem_cons_of_mem _ (List.mem_cons_of_mem _ (List.mem_cons_of_mem _ (List.mem_cons_of_mem _ (List.mem_cons_of_mem _ (List.mem_cons_of_mem _ (List.mem_cons_self)))))))
theorem mem_8 {α : Type} {a : α} {b0 b1 b2 b3 b4 b5 b6 b7 : α} {l : List α} : a ∈ b0 :: b1 :: b2 :: b3 :: b4 :: b5 :: b6 :: b7 :: a :: l := List.mem_cons_of_mem _ (List.mem_cons_of_mem _ (List.mem_cons_of_mem _ (List.mem_cons_of_mem _ (List.mem_cons_of_mem _ (List.mem_cons_of_mem _ (List.mem_cons_of_mem _ (List.mem_cons_of_mem _ (List.mem_cons_self))))))))
theorem mem_9 {α : Type} {a : α} {b0 b1 b2 b3 b4 b5 b6 b7 b8 : α} {l : List α} : a ∈ b0 :: b1 :: b2 :: b3 :: b4 :: b5 :: b6 :: b7 :: b8 :: a :: l := List.mem_cons_of_mem _ (List.mem_cons_of_mem _ (List.mem_cons_of_mem _ (List.mem_cons_of_mem _ (List.mem_cons_of_mem _ (List.mem_cons_of_mem _ (List.mem_cons_of_mem _ (List.mem_cons_of_mem _ (List.mem_cons_of_mem _ (List.mem_cons_self)))))))))
theorem mem_10 {α : Type} {a : α} {b0 b1 b2 b3 b4 b5 b6 b7 b8 b9 : α} {l : List α} : a ∈ b0 :: b1 :: b2 :: b3 :: b4 :: b5 :: b6 :: b7 :: b8 :: b9 :: a :: l := List.mem_cons_of_mem _ (List.mem_cons_of_mem _ (List.mem_cons_of_mem _ (List.mem_cons_of_mem _ (List.mem_cons_of_mem _ (List.mem_cons_of_mem _ (List.mem_cons_of_mem _ (List.mem_cons_of_mem _ (List.mem_cons_of_mem _ (List.mem_cons_of_mem _ (List.mem_cons_self))))))))))
theorem mem_11 {α : Type} {a : α} {b0 b1 b2 b3 b4 b5 b6 b7 b8 b9 b10 : α} {l : List α} : a ∈ b0 :: b1 :: b2 :: b3 :: b4 :: b5 :: b6 :: b7 :: b8 :: b9 :: b10 :: a :: l := List.mem_cons_of_mem _ (List.mem_cons_of_mem _ (List.mem_cons_of_mem _ (List.mem_cons_of_mem _ (List.mem_cons_of_mem _ (List.mem_cons_of_mem _ (List.mem_cons_of_mem _ (List.mem_cons_of_mem _ (List.mem_cons_of_mem _ (List.mem_cons_of_mem _ (List.mem_cons_of_mem _ (List.mem_cons_self)))))))))))
theorem mem_12 {α : Type} {a : α} {b0 b1 b2 b3 b4 b5 b6 b7 b8 b9 b10 b11 : α} {l : List α} : a ∈ b0 :: b1 :: b2 :: b3 :: b4 :: b5 :: b6 :: b7 :: b8 :: b9 :: b10 :: b11 :: a :: l := List.mem_cons_of_mem _ (List.mem_cons_of_mem _ (List.mem_cons_of_mem _ (List.mem_cons_of_mem _ (List.mem_cons_of_mem _ (List.mem_cons_of_mem _ (List.mem_cons_of_mem _ (List.mem_cons_of_mem _ (List.mem_cons_of_mem _ (List.mem_cons_of_mem _ (List.mem_cons_of_mem _ (List.mem_cons_of_mem _ (List.mem_cons_self))))))))))))
theorem mem_13 {α : Type} {a : α} {b0 b1 b2 b3 b4 b5 b6 b7 b8 b9 b10 b11 b12 : α} {l : List α} : a ∈ b0 :: b1 :: b2 :: b3 :: b4 :: b5 :: b6 :: b7 :: b8 :: b9 :: b10 :: b11 :: b12 :: a :: l := List.mem_cons_of_mem _ (List.mem_cons_of_mem _ (List.mem_cons_of_mem _ (List.mem_cons_of_mem _ (List.mem_cons_of_mem _ (List.mem_cons_of_mem _ (List.mem_cons_of_mem _ (List.mem_cons_of_mem _ (List.mem_cons_of_mem _ (List.mem_cons_of_mem _ (List.mem_cons_of_mem _ (List.mem_cons_of_mem _ (List.mem_cons_of_mem _ (List.mem_cons_self)))))))))))))

/-! A slice as a record of one field. -/

theorem rec_of {a : Option Addr} {n c : Nat} {K Q : Fo} (h : Q.sim (.s a n c K .nil)) {d : Option Addr} {e : Nat} (hv : Q.vals = [.slice d n e]) : ∃ K', Q = .s d n e K' .nil ∧ K'.sim K := by
  obtain ⟨d', e', K', r, rfl, h1, h2⟩ := Fo.sim_s h
  obtain rfl := Fo.sim_nil h2
  simp only [Fo.vals, List.cons.injEq, Value.slice.injEq, true_and, and_true] at hv
  obtain ⟨rfl, rfl⟩ := hv
  exact ⟨K', rfl, h1⟩

theorem rec_vals {a : Option Addr} {n c : Nat} {K Q : Fo} (h : Q.sim (.s a n c K .nil)) : ∃ (d : Option Addr) (e : Nat), Q.vals = [.slice d n e] := by
  obtain ⟨d', e', K', r, rfl, h1, h2⟩ := Fo.sim_s h
  obtain rfl := Fo.sim_nil h2
  exact ⟨d', e', rfl⟩

variable {P : Program} {E : Nat → List Fld} {f : FuncId} {k : Nat}

theorem szR_rec (h : ∀ m, SzR P E f (E k) m) {F : Fo} {a : Option Addr} {n c : Nat} {K : Fo} (hF : F = .s a n c K .nil) (hf : Fit E F [.s k]) (left : Int) (h0 : 0 ≤ left) (h1 : left ≤ 1048576) (V : World) (hV : F.Subs V (fun c => c < V.heap.size)) :
    Calls P f #[.slice a n c, .int .i64 left] V fun e w' => e = .returned (.int .i64 (szV left F.wt)) ∧ Below V.heap.size V w' := by
  subst hF
  have := h K.size K n V.heap.size left V a c (Nat.le_refl _) hf.1 (Nat.le_refl _) h0 h1 hV.1
  simpa [Fo.wt] using this

theorem toR_rec (h : ∀ m, ToR P E f (E k) m) {F : Fo} {a : Option Addr} {n c : Nat} {K : Fo} (hF : F = .s a n c K .nil) (hf : Fit E F [.s k]) (hw : F.wt ≤ 1048576) (V : World) (hV : F.Subs V (fun c => c < V.heap.size)) :
    Calls P f #[.slice a n c] V fun e w' => ∃ (d : Option Addr) (e' : Nat) (G : Fo), e = .returned (.slice d n e') ∧ Hid (G.vals = [.slice d n e'] ∧ G.sim F ∧ Own V.heap.size w' G) ∧ Hid (Below V.heap.size V w') := by
  subst hF
  refine (h K.size K n V.heap.size V a c (Nat.le_refl _) hf.1 (Nat.le_refl _) (by simpa [Fo.wt] using hw) hV.1).mono ?_
  rintro e w' ⟨b, G, rfl, g1, g2, g3⟩
  exact ⟨_, _, .s (some ⟨b, 0, none⟩) n n G .nil, rfl, ⟨rfl, ⟨rfl, g1, trivial⟩, g3⟩, g2⟩

theorem eqR_rec (h : ∀ m, EqR P E f (E k) m) {F : Fo} {a : Option Addr} {n c : Nat} {K : Fo} (hF : F = .s a n c K .nil) (hf : Fit E F [.s k]) (V : World) (d : Option Addr) (e : Nat) (p : Option Addr) (q : Nat) (Q R : Fo)
    (hQ : Hid (Q.vals = [.slice d n e] ∧ Q.sim F ∧ Q.Subs V (fun c => c < V.heap.size))) (hR : Hid (R.vals = [.slice p n q] ∧ R.sim F ∧ R.Subs V (fun c => c < V.heap.size))) :
    Calls P f #[.slice d n e, .slice p n q] V fun x w' => x = .returned (.bool true) ∧ Hid (Below V.heap.size V w') := by
  subst hF
  obtain ⟨q1, q2, q3⟩ := hQ.out
  obtain ⟨r1, r2, r3⟩ := hR.out
  obtain ⟨K1, rfl, s1⟩ := rec_of q2 q1
  obtain ⟨K2, rfl, s2⟩ := rec_of r2 r1
  exact h K1.size K1 K2 n V.heap.size V d p e q (Nat.le_refl _) (s1.fit hf.1) (Nat.le_refl _) (s2.trans s1.symm) q3.1 r3.1

theorem mkR_rec (h : ∀ m, MkR P E f (E k) m) {F : Fo} {a : Option Addr} {n c : Nat} {K : Fo} (hF : F = .s a n c K .nil) (hf : Fit E F [.s k]) (V : World) (d : Option Addr) (e : Nat) (G : Fo) (lo j : Nat) (hj : 0 < j) (hb : j + F.sct ≤ 4294967296)
    (hv : G.vals = [.slice d n e]) (hs : G.sim F) (ho : Own lo V G) :
    Calls P f #[.slice d n e, .int .i64 j] V fun x w' => x = .returned (.int .i64 ((j + F.sct : Nat) : Int)) ∧ Hid ((G.mks j).Subs w' (fun c => c < w'.heap.size)) ∧ Hid (Kept (fun c => c ∉ G.inn) V w') := by
  subst hF
  obtain ⟨K1, rfl, s1⟩ := rec_of hs hv
  have e1 : K1.ct = Fo.sct (.s a n c K .nil) := by have := hs.sct; simpa [Fo.sct] using this
  have h1 := h (K1.size + 1) K1 n d e j V (Nat.lt_succ_self _) (s1.fit hf.1) hj (by rw [e1]; exact hb) (ho.subs.mono (fun _ x => x.2)) ho.nodup ho.live
  rw [e1] at h1
  exact h1.mono (fun x w' h => ⟨h.1, h.2.1.mono (fun c hc => Nat.lt_of_lt_of_le hc h.2.2.1.size), h.2.2.1⟩)

theorem hdR_rec (h : ∀ m, HdR P E f (E k) m) {F : Fo} {a : Option Addr} {n c : Nat} {K : Fo} (hF : F = .s a n c K .nil) (hf : Fit E F [.s k]) (V : World) (d : Option Addr) (e : Nat) (G : Fo) (j : Nat) (hj : 0 < j) (hb : j + F.sct ≤ 4294967296)
    (hv : G.vals = [.slice d n e]) (hs : G.sim F) (hm : (G.mks j).Subs V (fun c => c < V.heap.size)) :
    Calls P f #[.slice d n e, .int .i64 j] V fun x w' => x = .returned (.int .i64 ((j + F.sct : Nat) : Int)) ∧ Hid (Below V.heap.size V w') := by
  subst hF
  obtain ⟨K1, rfl, s1⟩ := rec_of hs hv
  have e1 : K1.ct = Fo.sct (.s a n c K .nil) := by have := hs.sct; simpa [Fo.sct] using this
  have h1 := h (K1.size + 1) K1 n V.heap.size d e j V (Nat.lt_succ_self _) (s1.fit hf.1) (Nat.le_refl _) hj (by rw [e1]; exact hb) hm.1
  rw [e1] at h1
  exact h1

/-! A struct, by its cells. -/

theorem szC_rec {fs : List Fld} (h : ∀ m, SzC P E f fs m) {F : Fo} {vs : List Value} (hv : F.vals = vs) (hf : Fit E F fs) (left : Int) (h0 : 0 ≤ left) (h1 : left ≤ 1048576) (V : World) (hV : F.Subs V (fun c => c < V.heap.size)) :
    Calls P f #[.agg vs.toArray, .int .i64 left] V fun e w' => e = .returned (.int .i64 (szV left F.wt)) ∧ Below V.heap.size V w' := by
  subst hv
  exact h F.size F V.heap.size left V (Nat.le_refl _) hf (Nat.le_refl _) h0 h1 hV

theorem toC_rec {fs : List Fld} (h : ∀ m, ToC P E f fs m) {F : Fo} {vs : List Value} (hv : F.vals = vs) (hf : Fit E F fs) (hw : F.wt ≤ 1048576) (V : World) (hV : F.Subs V (fun c => c < V.heap.size)) :
    Calls P f #[.agg vs.toArray] V fun e w' => ∃ G : Fo, e = .returned (.agg G.vals.toArray) ∧ G.sim F ∧ Own V.heap.size w' G ∧ Hid (Below V.heap.size V w') := by
  subst hv
  exact (h F.size F V.heap.size V (Nat.le_refl _) hf (Nat.le_refl _) hw hV).mono (fun e w' ⟨G, h1, h2, h3, h4⟩ => ⟨G, h1, h2, h4, h3⟩)

theorem eqC_rec {fs : List Fld} (h : ∀ m, EqC P E f fs m) {F : Fo} (hf : Fit E F fs) (V : World) (us vs : List Value) (Q R : Fo)
    (hQ : Hid (Q.vals = us ∧ Q.sim F ∧ Q.Subs V (fun c => c < V.heap.size))) (hR : Hid (R.vals = vs ∧ R.sim F ∧ R.Subs V (fun c => c < V.heap.size))) :
    Calls P f #[.agg us.toArray, .agg vs.toArray] V fun x w' => x = .returned (.bool true) ∧ Hid (Below V.heap.size V w') := by
  obtain ⟨rfl, q2, q3⟩ := hQ.out
  obtain ⟨rfl, r2, r3⟩ := hR.out
  exact h Q.size Q R V.heap.size V (Nat.le_refl _) (q2.fit hf) (Nat.le_refl _) (r2.trans q2.symm) q3 r3

theorem mkC_rec {fs : List Fld} (h : ∀ m, MkC P E f fs m) {F : Fo} (hf : Fit E F fs) (V : World) (us : List Value) (G : Fo) (lo j : Nat) (hj : 0 < j) (hb : j + F.sct ≤ 4294967296)
    (hv : G.vals = us) (hs : G.sim F) (ho : Own lo V G) :
    Calls P f #[.agg us.toArray, .int .i64 j] V fun x w' => x = .returned (.int .i64 ((j + F.sct : Nat) : Int)) ∧ Hid ((G.mks j).Subs w' (fun c => c < w'.heap.size)) ∧ Hid (Kept (fun c => c ∉ G.inn) V w') := by
  subst hv
  have h1 := h (G.size + 1) G j V (Nat.lt_succ_self _) (hs.fit hf) hj (by rw [hs.sct]; exact hb) (ho.subs.mono (fun _ x => x.2)) ho.nodup ho.live
  rw [hs.sct] at h1
  exact h1.mono (fun x w' h => ⟨h.1, h.2.1.mono (fun c hc => Nat.lt_of_lt_of_le hc h.2.2.1.size), h.2.2.1⟩)

theorem hdC_rec {fs : List Fld} (h : ∀ m, HdC P E f fs m) {F : Fo} (hf : Fit E F fs) (V : World) (us : List Value) (G : Fo) (j : Nat) (hj : 0 < j) (hb : j + F.sct ≤ 4294967296)
    (hv : G.vals = us) (hs : G.sim F) (hm : (G.mks j).Subs V (fun c => c < V.heap.size)) :
    Calls P f #[.agg us.toArray, .int .i64 j] V fun x w' => x = .returned (.int .i64 ((j + F.sct : Nat) : Int)) ∧ Hid (Below V.heap.size V w') := by
  subst hv
  have h1 := h (G.size + 1) G V.heap.size j V (Nat.lt_succ_self _) (hs.fit hf) (Nat.le_refl _) hj (by rw [hs.sct]; exact hb) hm
  rw [hs.sct] at h1
  exact h1

/-- A slice among the arguments. -/
theorem open_slice {H : Type} {enc : TypeId × Value → H} {W : World} {r : Reach} {base : Nat} {t e : TypeId} {v : Value} {d : DataW H} {p : List MemPlace} (ht : P.underlying t = some (.slice e)) (hc : P.cellsOf e = (E k).length) (hw : 0 < (E k).length)
    (ih : ∀ m cs x, DataW.trod enc P W 0 (fun _ => true) true m e cs = some x → Says E W (E k) cs) (hv : Value.okWide P W r base t v) (h : DataW.Trod enc P W 0 (fun _ => true) true t v d p) :
    ∃ (a : Option Addr) (n c : Nat) (K : Fo), v = .slice a n c ∧ Fit E (.s a n c K .nil) [.s k] ∧ Fo.Subs W (fun c => c < W.heap.size) (.s a n c K .nil) := by
  obtain ⟨a, n, c, rfl⟩ := WideShapes.okWide_slice ht hv
  obtain ⟨fuel, hf⟩ := h
  obtain ⟨F, e1, h1, h2⟩ := says_slice (E := E) (k := k) ht hc hw (fun m _ cs x h => ih m cs x h) hf
  obtain ⟨a', n', c', K, r', rfl, h3, h4⟩ := fit_s h1
  obtain rfl := fit_nil h4
  simp only [Value.cells, Fo.vals] at e1
  have e2 : Value.slice a n c = .slice a' n' c' := by simpa using e1
  simp only [Value.slice.injEq] at e2
  obtain ⟨rfl, rfl, rfl⟩ := e2
  exact ⟨a, n, c, K, rfl, h1, h2⟩

end Go.Proofs.Ytfgmgbkiebeeoaa

namespace Go.Proofs.Ytfgmgbkiebeeoaa
open Go.RowKit Go.Joins

theorem wt_Uint32S : ∀ (n : Nat) (F : Fo), Fit E F (rep (E 0) n) → F.wt = 0
  | 0, F, h => by rw [fit_nil h]; rfl
  | n + 1, F, h => by
    obtain ⟨x, r, rfl, -, hr⟩ := fit_u h
    simp only [Fo.wt, textSize, wt_Uint32S n r hr]
set_option maxHeartbeats 2000000 in
set_option maxRecDepth 100000 in
theorem sz_R_Uint32S (m : Nat) : SzR Try.prog E 31 (E 0) m := by
  intro F n nb left W a cap hm hf hn h0 h1 hs
  have hmx : n ≤ 9223372036854775807 := by have h2 := hs.1; have h3 := hs.2.1; simp only [maxLen] at h3; omega
  have hw := wt_Uint32S n F hf
  by_cases hlt : left < n
  · go_enter Try.func31, Try.ntmps31
    go_wp2_with fail
    go_ret
    exact ⟨by rw [szV_lt (by omega)]; rfl, Below.refl _ _⟩
  · go_enter Try.func31, Try.ntmps31
    go_wp2_with fail
    go_ret
    exact ⟨by rw [szV_ge (by omega)]; exact ret_int (by omega), Below.refl _ _⟩
set_option maxHeartbeats 2000000 in
set_option maxRecDepth 100000 in
theorem sz_C_Big (m : Nat) : SzC Try.prog E 12 [.b, .s 0] m := by
  intro F nb left W hm hf hn h0 h1 hs
  obtain ⟨x0, F0, rfl, hf⟩ := fit_b hf
  obtain ⟨a1, n1, c1, k1, F1, rfl, hf1, hf⟩ := fit_s hf
  obtain rfl := fit_nil hf
  obtain ⟨hs1, -⟩ := hs
  simp only [Fo.size] at hm
  simp only [Fo.vals, Fo.wt, textSize]
  have bA := below_alloc1 W (.cells #[.bool x0, .slice a1 n1 c1] 24)
  have zA : (W.alloc (.cells #[.bool x0, .slice a1 n1 c1] 24)).heap.size = W.heap.size + 1 := by simp
  have HS1 : Hid (Fo.Sub W (fun c => c < nb) a1 n1 c1 k1) := hs1
  have Q0 := hide (Bx.new W [.bool x0, .slice a1 n1 c1] 24)
  clear hs1
  have HbA := hide bA
  have HzA := hide zA
  clear bA zA
  go_enter Try.func12, Try.ntmps12
  go_wp2_with fail
  have HC1 := sz_R_Uint32S m k1 n1 nb (left) (W.alloc (.cells #[.bool x0, .slice a1 n1 c1] 24)) a1 c1 (by omega) hf1 (by have := HbA.out.size; omega) (by omega) (by omega) (HS1.out.below HbA.out (fun c hc => by omega))
  refine HC1.mono ?_
  clear HC1
  rintro e w1 ⟨rfl, b1⟩
  have B1 := hide (HbA.out.trans (b1.mono HbA.out.size))
  have Q1 := hide (Q0.out.below b1)
  clear b1
  by_cases g1 : left < (((n1 + k1.wt) : Nat) : Int)
  · rw [szV_lt (by omega)]
    go_wp2_with fail
    go_ret
    exact ⟨by rw [szV_lt (by omega)]; rfl, B1.out⟩
  rw [szV_ge (by omega)]
  obtain ⟨L1, hL1⟩ : ∃ L : Int, left - (((n1 + k1.wt) : Nat) : Int) = L := ⟨_, rfl⟩
  rw [hL1]
  have HL1 := hide hL1
  have HN1 := hide g1
  have hp1 : 0 ≤ L1 ∧ L1 ≤ 1048576 := by omega
  clear hL1 g1
  go_wp2_with fail
  go_ret
  exact ⟨by rw [szV_ge (by have := HL1.out; have := HN1.out; omega)]; exact ret_int (by have := HL1.out; have := HN1.out; omega), B1.out⟩

set_option maxHeartbeats 2000000 in
set_option maxRecDepth 100000 in
theorem sz_R_StringS (m : Nat) : SzR Try.prog E 13 (E 1) m := by
  intro F n nb left W a cap hm hf hn h0 h1 hs
  have hmx : n ≤ 9223372036854775807 := by have h2 := hs.1; have h3 := hs.2.1; simp only [maxLen] at h3; omega
  by_cases hlt : left < n
  · go_enter Try.func13, Try.ntmps13
    go_wp2_with fail
    go_ret
    exact ⟨by rw [szV_lt (by omega)]; rfl, Below.refl _ _⟩
  · have HR := hide (Rd.start hf hs)
    have HM := hide hm
    clear hf hs hm
    go_enter Try.func13, Try.ntmps13
    go_wp2_with fail
    go_loopw [1, 5] (fun s1 s5 wr => ∃ (M : Int) (i : Nat) (r : Fo), s1 = .int .i64 M ∧ s5 = .int .i64 i ∧ 0 ≤ M ∧ M ≤ 1048576 ∧ i ≤ n ∧ Hid (r.size ≤ F.size) ∧ Hid (M + n + F.wt = left + r.wt) ∧ Hid (Rd E (E 1) n nb a i r wr) ∧ Hid (Below W.heap.size W wr)) (fun _ s5 _ => n - (intOf s5).toNat)
    case atStart => exact ⟨left - n, 0, F, rfl, rfl, by omega, by omega, Nat.zero_le _, Nat.le_refl _, (by show (_ : Int) = _; omega), HR, Below.refl _ _⟩
    case round =>
      obtain ⟨M, i, r, rfl, rfl, hM0, hM1, hin, hrs, hMe, hR, hB⟩ := hrel
      by_cases hi : i < n
      · obtain ⟨x, q, b, o, rfl, hx, rfl, hb, hc, hxs, hR1⟩ := hR.out.next hi (by decide)
        have HR1 := hide hR1
        have HE := hMe.out
        have HZ := hrs.out
        rw [Fo.app_size] at HZ
        rw [Fo.app_wt] at HE
        have hbz := hB.out.size
        have hii : (i : Int) < n := by omega
        clear hR hMe hrs hR1
        replace hx : Fit E x [.t] := hx
        obtain ⟨x0, F0, rfl, hx0, hx⟩ := fit_t hx
        obtain rfl := fit_nil hx
        have p0 : wr.cell? ⟨b, o + i * 1, none⟩ = some (.string x0) := hc 0 _ rfl
        rw [Nat.mul_one] at p0
        have hy0 : x0.size ≤ 9223372036854775807 := by simp only [maxLen] at hx0; omega
        simp only [Fo.wt, textSize] at HE
        simp only [Fo.size] at HZ
        have HE1 := hide HE
        have HZ1 := hide HZ
        have HBZ := hide hbz
        clear HE HZ hxs hc hbz
        by_cases g : M < (x0.size : Int)
        · go_wp2_with fail
          go_ret
          exact ⟨by rw [szV_lt (by have := HE1.out; omega)]; rfl, hB.out⟩
        · go_wp2_with fail
          go_roundw
          case rel => exact ⟨M - x0.size, i + 1, q, by go_num, by go_num, by omega, by omega, by omega, (by show _ ≤ _; have := HZ1.out; omega), (by show (_ : Int) = _; have := HE1.out; omega), HR1.out, hB.out⟩
          case measure => simp [intOf]; omega
      · obtain ⟨rfl, rfl⟩ := hR.out.done hi
        have HE := hMe.out
        simp only [Fo.wt] at HE
        have HE1 := hide HE
        clear HE hMe hR hrs
        go_wp2_with fail
        go_ret
        exact ⟨by rw [szV_ge (by have := HE1.out; omega)]; exact ret_int (by have := HE1.out; omega), hB.out⟩

set_option maxHeartbeats 2000000 in
set_option maxRecDepth 100000 in
theorem sz_C_CoreAlt (m : Nat) (hcCore : SzC Try.prog E 5 (E 3) m) : SzC Try.prog E 32 (E 2) m := by
  intro F nb left W hm hf hn h0 h1 hs
  replace hf : Fit E F [.t, .s 1, .i, .t, .b, .s 0, .s 1, .s 3, .s 2] := hf
  obtain ⟨x0, F0, rfl, hx0, hf⟩ := fit_t hf
  obtain ⟨a1, n1, c1, k1, F1, rfl, hf1, hf⟩ := fit_s hf
  obtain ⟨x2, F2, rfl, hx2, hf⟩ := fit_i hf
  obtain ⟨x3, F3, rfl, hx3, hf⟩ := fit_t hf
  obtain ⟨x4, F4, rfl, hf⟩ := fit_b hf
  obtain ⟨a5, n5, c5, k5, F5, rfl, hf5, hf⟩ := fit_s hf
  obtain ⟨a6, n6, c6, k6, F6, rfl, hf6, hf⟩ := fit_s hf
  obtain ⟨a7, n7, c7, k7, F7, rfl, hf7, hf⟩ := fit_s hf
  obtain ⟨a8, n8, c8, k8, F8, rfl, hf8, hf⟩ := fit_s hf
  obtain rfl := fit_nil hf
  obtain ⟨hs1, hs5, hs6, hs7, hs8, -⟩ := hs
  simp only [Fo.size] at hm
  simp only [Fo.vals, Fo.wt, textSize]
  have hy0 : x0.size ≤ 9223372036854775807 := by simp only [maxLen] at hx0; omega
  have hy3 : x3.size ≤ 9223372036854775807 := by simp only [maxLen] at hx3; omega
  have bA := below_alloc1 W (.cells #[.string x0, .slice a1 n1 c1, .int .i64 x2, .string x3, .bool x4, .slice a5 n5 c5, .slice a6 n6 c6, .slice a7 n7 c7, .slice a8 n8 c8] 93)
  have zA : (W.alloc (.cells #[.string x0, .slice a1 n1 c1, .int .i64 x2, .string x3, .bool x4, .slice a5 n5 c5, .slice a6 n6 c6, .slice a7 n7 c7, .slice a8 n8 c8] 93)).heap.size = W.heap.size + 1 := by simp
  have HS1 : Hid (Fo.Sub W (fun c => c < nb) a1 n1 c1 k1) := hs1
  have HS5 : Hid (Fo.Sub W (fun c => c < nb) a5 n5 c5 k5) := hs5
  have HS6 : Hid (Fo.Sub W (fun c => c < nb) a6 n6 c6 k6) := hs6
  have HS7 : Hid (Fo.Sub W (fun c => c < nb) a7 n7 c7 k7) := hs7
  have HS8 : Hid (Fo.Sub W (fun c => c < nb) a8 n8 c8 k8) := hs8
  have Q0 := hide (Bx.new W [.string x0, .slice a1 n1 c1, .int .i64 x2, .string x3, .bool x4, .slice a5 n5 c5, .slice a6 n6 c6, .slice a7 n7 c7, .slice a8 n8 c8] 93)
  clear hs1 hs5 hs6 hs7 hs8
  have HbA := hide bA
  have HzA := hide zA
  clear bA zA
  go_enter Try.func32, Try.ntmps32
  by_cases g0 : left < (x0.size : Int)
  · go_wp2_with fail
    go_ret
    exact ⟨by rw [szV_lt (by omega)]; rfl, HbA.out⟩
  go_wp2_with fail
  have HC1 := sz_R_StringS m k1 n1 nb (left - (x0.size : Int)) (W.alloc (.cells #[.string x0, .slice a1 n1 c1, .int .i64 x2, .string x3, .bool x4, .slice a5 n5 c5, .slice a6 n6 c6, .slice a7 n7 c7, .slice a8 n8 c8] 93)) a1 c1 (by omega) hf1 (by have := HbA.out.size; omega) (by omega) (by omega) (HS1.out.below HbA.out (fun c hc => by omega))
  refine HC1.mono ?_
  clear HC1
  rintro e w1 ⟨rfl, b1⟩
  have B1 := hide (HbA.out.trans (b1.mono HbA.out.size))
  have Q1 := hide (Q0.out.below b1)
  clear b1
  by_cases g1 : left - (x0.size : Int) < (((n1 + k1.wt) : Nat) : Int)
  · rw [szV_lt (by omega)]
    go_wp2_with fail
    go_ret
    exact ⟨by rw [szV_lt (by omega)]; rfl, B1.out⟩
  rw [szV_ge (by omega)]
  obtain ⟨L1, hL1⟩ : ∃ L : Int, left - (x0.size : Int) - (((n1 + k1.wt) : Nat) : Int) = L := ⟨_, rfl⟩
  rw [hL1]
  have HL1 := hide hL1
  have HN1 := hide g1
  have hp1 : 0 ≤ L1 ∧ L1 ≤ 1048576 := by omega
  clear hL1 g1
  have y12 : w1.cell? ⟨W.heap.size, 2, none⟩ = some (.int .i64 x2) := Q1.out.cel 2 _ rfl
  have y13 : w1.cell? ⟨W.heap.size, 3, none⟩ = some (.string x3) := Q1.out.cel 3 _ rfl
  have y14 : w1.cell? ⟨W.heap.size, 4, none⟩ = some (.bool x4) := Q1.out.cel 4 _ rfl
  have y15 : w1.cell? ⟨W.heap.size, 5, none⟩ = some (.slice a5 n5 c5) := Q1.out.cel 5 _ rfl
  have y16 : w1.cell? ⟨W.heap.size, 6, none⟩ = some (.slice a6 n6 c6) := Q1.out.cel 6 _ rfl
  have y17 : w1.cell? ⟨W.heap.size, 7, none⟩ = some (.slice a7 n7 c7) := Q1.out.cel 7 _ rfl
  have y18 : w1.cell? ⟨W.heap.size, 8, none⟩ = some (.slice a8 n8 c8) := Q1.out.cel 8 _ rfl
  go_wp2_with fail
  have HC2 := hcCore (.v (.int .i64 x2) (.v (.string x3) (.v (.bool x4) (.s a5 n5 c5 k5 (.s a6 n6 c6 k6 (.s a7 n7 c7 k7 (.s a8 n8 c8 k8 .nil))))))) nb (L1) w1 (by simp only [Fo.size]; omega) ⟨hx2, hx3, hf5, hf6, hf7, hf8, trivial⟩ (by have := B1.out.size; omega) (by have := HL1.out; have := HN1.out; omega) (by have := HL1.out; have := HN1.out; omega) ⟨(HS5.out.below B1.out (fun c hc => by omega)), (HS6.out.below B1.out (fun c hc => by omega)), (HS7.out.below B1.out (fun c hc => by omega)), (HS8.out.below B1.out (fun c hc => by omega)), trivial⟩
  simp only [Fo.vals, Fo.wt, textSize] at HC2
  refine HC2.mono ?_
  clear HC2
  rintro e w2 ⟨rfl, b2⟩
  have B2 := hide (B1.out.trans (b2.mono B1.out.size))
  have Q2 := hide (Q1.out.below b2)
  clear b2
  by_cases g2 : L1 < ((0 + (x3.size + (0 + (n5 + k5.wt + (n6 + k6.wt + (n7 + k7.wt + (n8 + k8.wt + (0))))))) : Nat) : Int)
  · rw [szV_lt (by have := HL1.out; have := HN1.out; omega)]
    go_wp2_with fail
    go_ret
    exact ⟨by rw [szV_lt (by have := HL1.out; have := HN1.out; omega)]; rfl, B2.out⟩
  rw [szV_ge (by have := HL1.out; have := HN1.out; omega)]
  obtain ⟨L2, hL2⟩ : ∃ L : Int, L1 - ((0 + (x3.size + (0 + (n5 + k5.wt + (n6 + k6.wt + (n7 + k7.wt + (n8 + k8.wt + (0))))))) : Nat) : Int) = L := ⟨_, rfl⟩
  rw [hL2]
  have HL2 := hide hL2
  have HN2 := hide g2
  have hp2 : 0 ≤ L2 ∧ L2 ≤ 1048576 := by have := HL1.out; have := HN1.out; omega
  clear hL2 g2
  go_wp2_with fail
  go_ret
  exact ⟨by rw [szV_ge (by have := HL1.out; have := HN1.out; have := HL2.out; have := HN2.out; omega)]; exact ret_int (by have := HL1.out; have := HN1.out; have := HL2.out; have := HN2.out; omega), B2.out⟩

set_option maxHeartbeats 2000000 in
set_option maxRecDepth 100000 in
theorem sz_R_CoreAltS_of (m : Nat) (h : SzC Try.prog E 32 (E 2) m) : SzR Try.prog E 15 (E 2) m := by
  intro F n nb left W a cap hm hf hn h0 h1 hs
  have hmx : n ≤ 9223372036854775807 := by have h2 := hs.1; have h3 := hs.2.1; simp only [maxLen] at h3; omega
  by_cases hlt : left < n
  · go_enter Try.func15, Try.ntmps15
    go_wp2_with fail
    go_ret
    exact ⟨by rw [szV_lt (by omega)]; rfl, Below.refl _ _⟩
  · have HR := hide (Rd.start hf hs)
    have HM := hide hm
    clear hf hs hm
    go_enter Try.func15, Try.ntmps15
    go_wp2_with fail
    go_loopw [1, 5] (fun s1 s5 wr => ∃ (M : Int) (i : Nat) (r : Fo), s1 = .int .i64 M ∧ s5 = .int .i64 i ∧ 0 ≤ M ∧ M ≤ 1048576 ∧ i ≤ n ∧ Hid (r.size ≤ F.size) ∧ Hid (M + n + F.wt = left + r.wt) ∧ Hid (Rd E (E 2) n nb a i r wr) ∧ Hid (Below W.heap.size W wr)) (fun _ s5 _ => n - (intOf s5).toNat)
    case atStart => exact ⟨left - n, 0, F, rfl, rfl, by omega, by omega, Nat.zero_le _, Nat.le_refl _, (by show (_ : Int) = _; omega), HR, Below.refl _ _⟩
    case round =>
      obtain ⟨M, i, r, rfl, rfl, hM0, hM1, hin, hrs, hMe, hR, hB⟩ := hrel
      by_cases hi : i < n
      · obtain ⟨x, q, b, o, rfl, hx, rfl, hb, hc, hxs, hR1⟩ := hR.out.next hi (by decide)
        have HR1 := hide hR1
        have HE := hMe.out
        have HZ := hrs.out
        rw [Fo.app_size] at HZ
        rw [Fo.app_wt] at HE
        have hbz := hB.out.size
        have hii : (i : Int) < n := by omega
        clear hR hMe hrs hR1
        have HC := hide (h x nb M wr (by have := HM.out; omega) hx (by omega) hM0 hM1 hxs)
        obtain ⟨wx, hwx⟩ : ∃ wx, x.wt = wx := ⟨_, rfl⟩
        rw [hwx] at HE HC
        have HE1 := hide HE
        have HZ1 := hide HZ
        have HBZ := hide hbz
        clear hwx HE HZ hxs hbz
        replace hx : Fit E x [.t, .s 1, .i, .t, .b, .s 0, .s 1, .s 3, .s 2] := hx
        obtain ⟨x0, F0, rfl, hx0, hx⟩ := fit_t hx
        obtain ⟨a1, n1, c1, k1, F1, rfl, hf1, hx⟩ := fit_s hx
        obtain ⟨x2, F2, rfl, hx2, hx⟩ := fit_i hx
        obtain ⟨x3, F3, rfl, hx3, hx⟩ := fit_t hx
        obtain ⟨x4, F4, rfl, hx⟩ := fit_b hx
        obtain ⟨a5, n5, c5, k5, F5, rfl, hf5, hx⟩ := fit_s hx
        obtain ⟨a6, n6, c6, k6, F6, rfl, hf6, hx⟩ := fit_s hx
        obtain ⟨a7, n7, c7, k7, F7, rfl, hf7, hx⟩ := fit_s hx
        obtain ⟨a8, n8, c8, k8, F8, rfl, hf8, hx⟩ := fit_s hx
        obtain rfl := fit_nil hx
        simp only [Fo.vals] at HC hc
        have p0 : wr.cell? ⟨b, o + i * 9, none⟩ = some (.string x0) := hc 0 _ rfl
        have p1 : wr.cell? ⟨b, o + i * 9 + 1, none⟩ = some (.slice a1 n1 c1) := hc 1 _ rfl
        have p2 : wr.cell? ⟨b, o + i * 9 + 2, none⟩ = some (.int .i64 x2) := hc 2 _ rfl
        have p3 : wr.cell? ⟨b, o + i * 9 + 3, none⟩ = some (.string x3) := hc 3 _ rfl
        have p4 : wr.cell? ⟨b, o + i * 9 + 4, none⟩ = some (.bool x4) := hc 4 _ rfl
        have p5 : wr.cell? ⟨b, o + i * 9 + 5, none⟩ = some (.slice a5 n5 c5) := hc 5 _ rfl
        have p6 : wr.cell? ⟨b, o + i * 9 + 6, none⟩ = some (.slice a6 n6 c6) := hc 6 _ rfl
        have p7 : wr.cell? ⟨b, o + i * 9 + 7, none⟩ = some (.slice a7 n7 c7) := hc 7 _ rfl
        have p8 : wr.cell? ⟨b, o + i * 9 + 8, none⟩ = some (.slice a8 n8 c8) := hc 8 _ rfl
        clear hc
        by_cases g : M < (wx : Int)
        · go_wp2_with fail
          refine HC.out.mono ?_
          rintro e w1 ⟨rfl, b1⟩
          rw [szV_lt (by omega)]
          go_wp2_with fail
          go_ret
          exact ⟨by rw [szV_lt (by have := HE1.out; omega)]; rfl, hB.out.trans (b1.mono HBZ.out)⟩
        · go_wp2_with fail
          refine HC.out.mono ?_
          rintro e w1 ⟨rfl, b1⟩
          rw [szV_ge (by omega)]
          have HB1 := hide b1
          clear b1
          go_wp2_with fail
          go_roundw
          case rel => exact ⟨M - wx, i + 1, q, by go_num, by go_num, by omega, by omega, by omega, (by show _ ≤ _; have := HZ1.out; simp only [Fo.size] at this ⊢; omega), (by show (_ : Int) = _; have := HE1.out; omega), HR1.out.below HB1.out (by have := HBZ.out; omega), hB.out.trans (HB1.out.mono HBZ.out)⟩
          case measure => simp [intOf]; omega
      · obtain ⟨rfl, rfl⟩ := hR.out.done hi
        have HE := hMe.out
        simp only [Fo.wt] at HE
        have HE1 := hide HE
        clear HE hMe hR hrs
        go_wp2_with fail
        go_ret
        exact ⟨by rw [szV_ge (by have := HE1.out; omega)]; exact ret_int (by have := HE1.out; omega), hB.out⟩

set_option maxHeartbeats 2000000 in
set_option maxRecDepth 100000 in
theorem sz_C_Core (m : Nat) (hCore : SzR Try.prog E 14 (E 3) m) (hCoreAlt : SzR Try.prog E 15 (E 2) m) : SzC Try.prog E 5 (E 3) (m + 1) := by
  intro F nb left W hm hf hn h0 h1 hs
  replace hf : Fit E F [.i, .t, .b, .s 0, .s 1, .s 3, .s 2] := hf
  obtain ⟨x0, F0, rfl, hx0, hf⟩ := fit_i hf
  obtain ⟨x1, F1, rfl, hx1, hf⟩ := fit_t hf
  obtain ⟨x2, F2, rfl, hf⟩ := fit_b hf
  obtain ⟨a3, n3, c3, k3, F3, rfl, hf3, hf⟩ := fit_s hf
  obtain ⟨a4, n4, c4, k4, F4, rfl, hf4, hf⟩ := fit_s hf
  obtain ⟨a5, n5, c5, k5, F5, rfl, hf5, hf⟩ := fit_s hf
  obtain ⟨a6, n6, c6, k6, F6, rfl, hf6, hf⟩ := fit_s hf
  obtain rfl := fit_nil hf
  obtain ⟨hs3, hs4, hs5, hs6, -⟩ := hs
  simp only [Fo.size] at hm
  simp only [Fo.vals, Fo.wt, textSize]
  have hy1 : x1.size ≤ 9223372036854775807 := by simp only [maxLen] at hx1; omega
  have bA := below_alloc1 W (.cells #[.int .i64 x0, .string x1, .bool x2, .slice a3 n3 c3, .slice a4 n4 c4, .slice a5 n5 c5, .slice a6 n6 c6] 29)
  have zA : (W.alloc (.cells #[.int .i64 x0, .string x1, .bool x2, .slice a3 n3 c3, .slice a4 n4 c4, .slice a5 n5 c5, .slice a6 n6 c6] 29)).heap.size = W.heap.size + 1 := by simp
  have HS3 : Hid (Fo.Sub W (fun c => c < nb) a3 n3 c3 k3) := hs3
  have HS4 : Hid (Fo.Sub W (fun c => c < nb) a4 n4 c4 k4) := hs4
  have HS5 : Hid (Fo.Sub W (fun c => c < nb) a5 n5 c5 k5) := hs5
  have HS6 : Hid (Fo.Sub W (fun c => c < nb) a6 n6 c6 k6) := hs6
  have Q0 := hide (Bx.new W [.int .i64 x0, .string x1, .bool x2, .slice a3 n3 c3, .slice a4 n4 c4, .slice a5 n5 c5, .slice a6 n6 c6] 29)
  clear hs3 hs4 hs5 hs6
  have HbA := hide bA
  have HzA := hide zA
  clear bA zA
  go_enter Try.func5, Try.ntmps5
  by_cases g1 : left < (x1.size : Int)
  · go_wp2_with fail
    go_ret
    exact ⟨by rw [szV_lt (by omega)]; rfl, HbA.out⟩
  go_wp2_with fail
  have HC1 := sz_C_Big m (.v (.bool x2) (.s a3 n3 c3 k3 .nil)) nb (left - (x1.size : Int)) (W.alloc (.cells #[.int .i64 x0, .string x1, .bool x2, .slice a3 n3 c3, .slice a4 n4 c4, .slice a5 n5 c5, .slice a6 n6 c6] 29)) (by simp only [Fo.size]; omega) ⟨hf3, trivial⟩ (by have := HbA.out.size; omega) (by omega) (by omega) ⟨(HS3.out.below HbA.out (fun c hc => by omega)), trivial⟩
  simp only [Fo.vals, Fo.wt, textSize] at HC1
  refine HC1.mono ?_
  clear HC1
  rintro e w1 ⟨rfl, b1⟩
  have B1 := hide (HbA.out.trans (b1.mono HbA.out.size))
  have Q1 := hide (Q0.out.below b1)
  clear b1
  by_cases g2 : left - (x1.size : Int) < ((0 + (n3 + k3.wt + (0)) : Nat) : Int)
  · rw [szV_lt (by omega)]
    go_wp2_with fail
    go_ret
    exact ⟨by rw [szV_lt (by omega)]; rfl, B1.out⟩
  rw [szV_ge (by omega)]
  obtain ⟨L1, hL1⟩ : ∃ L : Int, left - (x1.size : Int) - ((0 + (n3 + k3.wt + (0)) : Nat) : Int) = L := ⟨_, rfl⟩
  rw [hL1]
  have HL1 := hide hL1
  have HN1 := hide g2
  have hp1 : 0 ≤ L1 ∧ L1 ≤ 1048576 := by omega
  clear hL1 g2
  have y14 : w1.cell? ⟨W.heap.size, 4, none⟩ = some (.slice a4 n4 c4) := Q1.out.cel 4 _ rfl
  have y15 : w1.cell? ⟨W.heap.size, 5, none⟩ = some (.slice a5 n5 c5) := Q1.out.cel 5 _ rfl
  have y16 : w1.cell? ⟨W.heap.size, 6, none⟩ = some (.slice a6 n6 c6) := Q1.out.cel 6 _ rfl
  go_wp2_with fail
  have HC2 := sz_R_StringS m k4 n4 nb (L1) w1 a4 c4 (by omega) hf4 (by have := B1.out.size; omega) (by have := HL1.out; have := HN1.out; omega) (by have := HL1.out; have := HN1.out; omega) (HS4.out.below B1.out (fun c hc => by omega))
  refine HC2.mono ?_
  clear HC2
  rintro e w2 ⟨rfl, b2⟩
  have B2 := hide (B1.out.trans (b2.mono B1.out.size))
  have Q2 := hide (Q1.out.below b2)
  clear b2
  by_cases g4 : L1 < (((n4 + k4.wt) : Nat) : Int)
  · rw [szV_lt (by have := HL1.out; have := HN1.out; omega)]
    go_wp2_with fail
    go_ret
    exact ⟨by rw [szV_lt (by have := HL1.out; have := HN1.out; omega)]; rfl, B2.out⟩
  rw [szV_ge (by have := HL1.out; have := HN1.out; omega)]
  obtain ⟨L2, hL2⟩ : ∃ L : Int, L1 - (((n4 + k4.wt) : Nat) : Int) = L := ⟨_, rfl⟩
  rw [hL2]
  have HL2 := hide hL2
  have HN2 := hide g4
  have hp2 : 0 ≤ L2 ∧ L2 ≤ 1048576 := by have := HL1.out; have := HN1.out; omega
  clear hL2 g4
  have y25 : w2.cell? ⟨W.heap.size, 5, none⟩ = some (.slice a5 n5 c5) := Q2.out.cel 5 _ rfl
  have y26 : w2.cell? ⟨W.heap.size, 6, none⟩ = some (.slice a6 n6 c6) := Q2.out.cel 6 _ rfl
  go_wp2_with fail
  have HC3 := hCore k5 n5 nb (L2) w2 a5 c5 (by omega) hf5 (by have := B2.out.size; omega) (by have := HL1.out; have := HN1.out; have := HL2.out; have := HN2.out; omega) (by have := HL1.out; have := HN1.out; have := HL2.out; have := HN2.out; omega) (HS5.out.below B2.out (fun c hc => by omega))
  refine HC3.mono ?_
  clear HC3
  rintro e w3 ⟨rfl, b3⟩
  have B3 := hide (B2.out.trans (b3.mono B2.out.size))
  have Q3 := hide (Q2.out.below b3)
  clear b3
  by_cases g5 : L2 < (((n5 + k5.wt) : Nat) : Int)
  · rw [szV_lt (by have := HL1.out; have := HN1.out; have := HL2.out; have := HN2.out; omega)]
    go_wp2_with fail
    go_ret
    exact ⟨by rw [szV_lt (by have := HL1.out; have := HN1.out; have := HL2.out; have := HN2.out; omega)]; rfl, B3.out⟩
  rw [szV_ge (by have := HL1.out; have := HN1.out; have := HL2.out; have := HN2.out; omega)]
  obtain ⟨L3, hL3⟩ : ∃ L : Int, L2 - (((n5 + k5.wt) : Nat) : Int) = L := ⟨_, rfl⟩
  rw [hL3]
  have HL3 := hide hL3
  have HN3 := hide g5
  have hp3 : 0 ≤ L3 ∧ L3 ≤ 1048576 := by have := HL1.out; have := HN1.out; have := HL2.out; have := HN2.out; omega
  clear hL3 g5
  have y36 : w3.cell? ⟨W.heap.size, 6, none⟩ = some (.slice a6 n6 c6) := Q3.out.cel 6 _ rfl
  go_wp2_with fail
  have HC4 := hCoreAlt k6 n6 nb (L3) w3 a6 c6 (by omega) hf6 (by have := B3.out.size; omega) (by have := HL1.out; have := HN1.out; have := HL2.out; have := HN2.out; have := HL3.out; have := HN3.out; omega) (by have := HL1.out; have := HN1.out; have := HL2.out; have := HN2.out; have := HL3.out; have := HN3.out; omega) (HS6.out.below B3.out (fun c hc => by omega))
  refine HC4.mono ?_
  clear HC4
  rintro e w4 ⟨rfl, b4⟩
  have B4 := hide (B3.out.trans (b4.mono B3.out.size))
  have Q4 := hide (Q3.out.below b4)
  clear b4
  by_cases g6 : L3 < (((n6 + k6.wt) : Nat) : Int)
  · rw [szV_lt (by have := HL1.out; have := HN1.out; have := HL2.out; have := HN2.out; have := HL3.out; have := HN3.out; omega)]
    go_wp2_with fail
    go_ret
    exact ⟨by rw [szV_lt (by have := HL1.out; have := HN1.out; have := HL2.out; have := HN2.out; have := HL3.out; have := HN3.out; omega)]; rfl, B4.out⟩
  rw [szV_ge (by have := HL1.out; have := HN1.out; have := HL2.out; have := HN2.out; have := HL3.out; have := HN3.out; omega)]
  obtain ⟨L4, hL4⟩ : ∃ L : Int, L3 - (((n6 + k6.wt) : Nat) : Int) = L := ⟨_, rfl⟩
  rw [hL4]
  have HL4 := hide hL4
  have HN4 := hide g6
  have hp4 : 0 ≤ L4 ∧ L4 ≤ 1048576 := by have := HL1.out; have := HN1.out; have := HL2.out; have := HN2.out; have := HL3.out; have := HN3.out; omega
  clear hL4 g6
  go_wp2_with fail
  go_ret
  exact ⟨by rw [szV_ge (by have := HL1.out; have := HN1.out; have := HL2.out; have := HN2.out; have := HL3.out; have := HN3.out; have := HL4.out; have := HN4.out; omega)]; exact ret_int (by have := HL1.out; have := HN1.out; have := HL2.out; have := HN2.out; have := HL3.out; have := HN3.out; have := HL4.out; have := HN4.out; omega), B4.out⟩

set_option maxHeartbeats 2000000 in
set_option maxRecDepth 100000 in
theorem sz_R_CoreS_of (m : Nat) (h : SzC Try.prog E 5 (E 3) m) : SzR Try.prog E 14 (E 3) m := by
  intro F n nb left W a cap hm hf hn h0 h1 hs
  have hmx : n ≤ 9223372036854775807 := by have h2 := hs.1; have h3 := hs.2.1; simp only [maxLen] at h3; omega
  by_cases hlt : left < n
  · go_enter Try.func14, Try.ntmps14
    go_wp2_with fail
    go_ret
    exact ⟨by rw [szV_lt (by omega)]; rfl, Below.refl _ _⟩
  · have HR := hide (Rd.start hf hs)
    have HM := hide hm
    clear hf hs hm
    go_enter Try.func14, Try.ntmps14
    go_wp2_with fail
    go_loopw [1, 5] (fun s1 s5 wr => ∃ (M : Int) (i : Nat) (r : Fo), s1 = .int .i64 M ∧ s5 = .int .i64 i ∧ 0 ≤ M ∧ M ≤ 1048576 ∧ i ≤ n ∧ Hid (r.size ≤ F.size) ∧ Hid (M + n + F.wt = left + r.wt) ∧ Hid (Rd E (E 3) n nb a i r wr) ∧ Hid (Below W.heap.size W wr)) (fun _ s5 _ => n - (intOf s5).toNat)
    case atStart => exact ⟨left - n, 0, F, rfl, rfl, by omega, by omega, Nat.zero_le _, Nat.le_refl _, (by show (_ : Int) = _; omega), HR, Below.refl _ _⟩
    case round =>
      obtain ⟨M, i, r, rfl, rfl, hM0, hM1, hin, hrs, hMe, hR, hB⟩ := hrel
      by_cases hi : i < n
      · obtain ⟨x, q, b, o, rfl, hx, rfl, hb, hc, hxs, hR1⟩ := hR.out.next hi (by decide)
        have HR1 := hide hR1
        have HE := hMe.out
        have HZ := hrs.out
        rw [Fo.app_size] at HZ
        rw [Fo.app_wt] at HE
        have hbz := hB.out.size
        have hii : (i : Int) < n := by omega
        clear hR hMe hrs hR1
        have HC := hide (h x nb M wr (by have := HM.out; omega) hx (by omega) hM0 hM1 hxs)
        obtain ⟨wx, hwx⟩ : ∃ wx, x.wt = wx := ⟨_, rfl⟩
        rw [hwx] at HE HC
        have HE1 := hide HE
        have HZ1 := hide HZ
        have HBZ := hide hbz
        clear hwx HE HZ hxs hbz
        replace hx : Fit E x [.i, .t, .b, .s 0, .s 1, .s 3, .s 2] := hx
        obtain ⟨x0, F0, rfl, hx0, hx⟩ := fit_i hx
        obtain ⟨x1, F1, rfl, hx1, hx⟩ := fit_t hx
        obtain ⟨x2, F2, rfl, hx⟩ := fit_b hx
        obtain ⟨a3, n3, c3, k3, F3, rfl, hf3, hx⟩ := fit_s hx
        obtain ⟨a4, n4, c4, k4, F4, rfl, hf4, hx⟩ := fit_s hx
        obtain ⟨a5, n5, c5, k5, F5, rfl, hf5, hx⟩ := fit_s hx
        obtain ⟨a6, n6, c6, k6, F6, rfl, hf6, hx⟩ := fit_s hx
        obtain rfl := fit_nil hx
        simp only [Fo.vals] at HC hc
        have p0 : wr.cell? ⟨b, o + i * 7, none⟩ = some (.int .i64 x0) := hc 0 _ rfl
        have p1 : wr.cell? ⟨b, o + i * 7 + 1, none⟩ = some (.string x1) := hc 1 _ rfl
        have p2 : wr.cell? ⟨b, o + i * 7 + 2, none⟩ = some (.bool x2) := hc 2 _ rfl
        have p3 : wr.cell? ⟨b, o + i * 7 + 3, none⟩ = some (.slice a3 n3 c3) := hc 3 _ rfl
        have p4 : wr.cell? ⟨b, o + i * 7 + 4, none⟩ = some (.slice a4 n4 c4) := hc 4 _ rfl
        have p5 : wr.cell? ⟨b, o + i * 7 + 5, none⟩ = some (.slice a5 n5 c5) := hc 5 _ rfl
        have p6 : wr.cell? ⟨b, o + i * 7 + 6, none⟩ = some (.slice a6 n6 c6) := hc 6 _ rfl
        clear hc
        by_cases g : M < (wx : Int)
        · go_wp2_with fail
          refine HC.out.mono ?_
          rintro e w1 ⟨rfl, b1⟩
          rw [szV_lt (by omega)]
          go_wp2_with fail
          go_ret
          exact ⟨by rw [szV_lt (by have := HE1.out; omega)]; rfl, hB.out.trans (b1.mono HBZ.out)⟩
        · go_wp2_with fail
          refine HC.out.mono ?_
          rintro e w1 ⟨rfl, b1⟩
          rw [szV_ge (by omega)]
          have HB1 := hide b1
          clear b1
          go_wp2_with fail
          go_roundw
          case rel => exact ⟨M - wx, i + 1, q, by go_num, by go_num, by omega, by omega, by omega, (by show _ ≤ _; have := HZ1.out; simp only [Fo.size] at this ⊢; omega), (by show (_ : Int) = _; have := HE1.out; omega), HR1.out.below HB1.out (by have := HBZ.out; omega), hB.out.trans (HB1.out.mono HBZ.out)⟩
          case measure => simp [intOf]; omega
      · obtain ⟨rfl, rfl⟩ := hR.out.done hi
        have HE := hMe.out
        simp only [Fo.wt] at HE
        have HE1 := hide HE
        clear HE hMe hR hrs
        go_wp2_with fail
        go_ret
        exact ⟨by rw [szV_ge (by have := HE1.out; omega)]; exact ret_int (by have := HE1.out; omega), hB.out⟩

theorem sz_group_CoreAlt : ∀ m : Nat, (SzC Try.prog E 32 (E 2) m ∧ SzR Try.prog E 15 (E 2) m) ∧ (SzC Try.prog E 5 (E 3) m ∧ SzR Try.prog E 14 (E 3) m)
  | 0 => by
    have cCoreAlt : SzC Try.prog E 32 (E 2) 0 := (fun F _ _ _ hm hf => absurd (Fit.len hf) (by have := F.len_le; show ¬ F.len = 9; omega))
    have rCoreAlt := sz_R_CoreAltS_of 0 cCoreAlt
    have cCore : SzC Try.prog E 5 (E 3) 0 := (fun F _ _ _ hm hf => absurd (Fit.len hf) (by have := F.len_le; show ¬ F.len = 7; omega))
    have rCore := sz_R_CoreS_of 0 cCore
    exact ⟨⟨cCoreAlt, rCoreAlt⟩, ⟨cCore, rCore⟩⟩
  | m + 1 => by
    have ih := sz_group_CoreAlt m
    have cCore := sz_C_Core m ih.2.2 ih.1.2 
    have rCore := sz_R_CoreS_of (m + 1) cCore
    have cCoreAlt := sz_C_CoreAlt (m + 1) cCore
    have rCoreAlt := sz_R_CoreAltS_of (m + 1) cCoreAlt
    exact ⟨⟨cCoreAlt, rCoreAlt⟩, ⟨cCore, rCore⟩⟩
theorem sz_R_CoreAltS (m : Nat) : SzR Try.prog E 15 (E 2) m := (sz_group_CoreAlt m).1.2
theorem sz_C_CoreAlt_all (m : Nat) : SzC Try.prog E 32 (E 2) m := (sz_group_CoreAlt m).1.1
theorem sz_R_CoreS (m : Nat) : SzR Try.prog E 14 (E 3) m := (sz_group_CoreAlt m).2.2
theorem sz_C_Core_all (m : Nat) : SzC Try.prog E 5 (E 3) m := (sz_group_CoreAlt m).2.1
end Go.Proofs.Ytfgmgbkiebeeoaa
