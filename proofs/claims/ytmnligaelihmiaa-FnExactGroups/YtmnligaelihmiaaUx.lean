import Derived.Test.YtmnligaelihmiaaUw
import Derived.Test.YtmnligaelihmiaaUs
namespace Go.Proofs.Ytmnligaelihmiaa
open Go.RowKit Go.Joins

/-! Places in lists. -/

theorem mem_0 {α : Type} {a : α} {l : List α} : a ∈ a :: l := List.mem_cons_self
theorem mem_1 {α : Type} {a : α} {b0 : α} {l : List α} : a ∈ b0 :: a :: l := List.mem_cons_of_mem _ (List.mem_cons_self)
theorem mem_2 {α : Type} {a : α} {b0 b1 : α} {l : List α} : a ∈ b0 :: b1 :: a :: l := List.mem_cons_of_mem _ (List.mem_cons_of_mem _ (List.mem_cons_self))
theorem mem_3 {α : Type} {a : α} {b0 b1 b2 : α} {l : List α} : a ∈ b0 :: b1 :: b2 :: a :: l := List.mem_cons_of_mem _ (List.mem_cons_of_mem _ (List.mem_cons_of_mem _ (List.mem_cons_self)))
theorem mem_4 {α : Type} {a : α} {b0 b1 b2 b3 : α} {l : List α} : a ∈ b0 :: b1 :: b2 :: b3 :: a :: l := List.mem_cons_of_mem _ (List.mem_cons_of_mem _ (List.mem_cons_of_mem _ (List.mem_cons_of_mem _ (List.mem_cons_self))))
theorem mem_5 {α : Type} {a : α} {b0 b1 b2 b3 b4 : α} {l : List α} : a ∈ b0 :: b1 :: b2 :: b3 :: b4 :: a :: l := List.mem_cons_of_mem _ (List.mem_cons_of_mem _ (List.mem_cons_of_mem _ (List.mem_cons_of_mem _ (List.mem_cons_of_mem _ (List.mem_cons_self)))))
theorem mem_6 {α : Type} {a : α} {b0 b1 b2 b3 b4 b5 : α} {l : List α} : a ∈ b0 :: b1 :: b2 :: b3 :: b4 :: b5 :: a :: l := List.mem_cons_of_mem _ (List.mem_cons_of_mem _ (List.mem_cons_of_mem _ (List.mem_cons_of_mem _ (List.mem_cons_of_mem _ (List.mem_cons_of_mem _ (List.mem_cons_self))))))
theorem mem_7 {α : Type} {a : α} {b0 b1 b2 b3 b4 b5 b6 : α} {l : List α} : a ∈ b0 :: b1 :: b2 :: b3 :: b4 :: b5 :: b6 :: a :: l := List.mem_cons_of_mem _ (List.mem_cons_of_mem _ (List.mem_cons_of_mem _ (List.mem_cons_of_mem _ (List.mem_cons_of_mem _ (List.mem_cons_of_mem _ (List.mem_cons_of_mem _ (List.mem_cons_self)))))))
theorem mem_8 {α : Type} {a : α} {b0 b1 b2 b3 b4 b5 b6 b7 : α} {l : List α} : a ∈ b0 :: b1 :: b2 :: b3 :: b4 :: b5 :: b6 :: b7 :: a :: l := List.mem_cons_of_mem _ (List.mem_cons_of_mem _ (List.mem_cons_of_mem _ (List.mem_cons_of_mem _ (List.mem_cons_of_mem _ (List.mem_cons_of_mem _ (List.mem_cons_of_mem _ (List.mem_cons_of_mem _ (List.mem_cons_self))))))))
theorem mem_9 {α : Type} {a : α} {b0 b1 b2 b3 b4 b5 b6 b7 b8 : α} {l : List α} : a ∈ b0 :: b1 :: b2 :: b3 :: b4 :: b5 :: b6 :: b7 :: b8 :: a :: l := List.mem_cons_of_mem _ (List.mem_cons_of_mem _ (List.mem_cons_of_mem _ (List.mem_cons_of_mem _ (List.mem_cons_of_mem _ (List.mem_cons_of_mem _ (List.mem_cons_of_mem _ (List.mem_cons_of_mem _ (List.mem_cons_of_mem _ (List.mem_cons_self)))))))))
theorem mem_10 {α : Type} {a : α} {b0 b1 b2 b3 b4 b5 b6 b7 b8 b9 : α} {l : List α} : a ∈ b0 :: b1 :: b2 :: b3 :: b4 :: b5 :: b6 :: b7 :: b8 :: b9 :: a :: l := List.mem_cons_of_mem _ (List.mem_cons_of_mem _ (List.mem_cons_of_mem _ (List.mem_cons_of_mem _ (List.mem_cons_of_mem _ (List.mem_cons_of_mem _ (List.mem_cons_of_mem _ (List.mem_cons_of_mem _ (List.mem_cons_of_mem _ (List.mem_cons_of_mem _ (List.mem_cons_self))))))))))
theorem mem_11 {α : Type} {a : α} {b0 b1 b2 b3 b4 b5 b6 b7 b8 b9 b10 : α} {l : List α} : a ∈ b0 :: b1 :: b2 :: b3 :: b4 :: b5 :: b6 :: b7 :: b8 :: b9 :: b10 :: a :: l := List.mem_cons_of_mem _ (List.mem_cons_of_mem _ (List.mem_cons_of_mem _ (List.mem_cons_of_mem _ (List.mem_cons_of_mem _ (List.mem_cons_of_mem _ (List.mem_cons_of_mem _ (List.mem_cons_of_mem _ (List.mem_cons_of_mem _ (List.mem_cons_of_mem _ (List.mem_cons_of_mem _ (List.mem_cons_self)))))))))))
theorem mem_12 {α : Type} {a : α} {b0 b1 b2 b3 b4 b5 b6 b7 b8 b9 b10 b11 : α} {l : List α} : a ∈ b0 :: b1 :: b2 :: b3 :: b4 :: b5 :: b6 :: b7 :: b8 :: b9 :: b10 :: b11 :: a :: l := List.mem_cons_of_mem _ (List.mem_cons_of_mem _ (List.mem_cons_of_mem _ (List.mem_cons_of_mem _ (List.mem_cons_of_mem _ (List.mem_cons_of_mem _ (List.mem_cons_of_mem _ (List.mem_cons_of_mem _ (List.mem_cons_of_mem _ (List.mem_cons_of_mem _ (List.mem_cons_of_mem _ (List.mem_cons_of_mem _ (List.mem_cons_self))))))))))))
theorem mem_13 {α : Type} {a : α} {b0 b1 b2 b3 b4 b5 b6 b7 b8 b9 b10 b11 b12 : α} {l : List α} : a ∈ b0 :: b1 :: b2 :: b3 :: b4 :: b5 :: b6 :: b7 :: b8 :: b9 :: b10 :: b11 :: b12 :: a :: l := List.mem_cons_of_mem _ (List.mem_cons_of_mem _ (List.mem_cons_of_mem _ (List.mem_cons_of_mem _ (List.mem_cons_of_mem _ (List.mem_cons_of_mem _ (List.mem_cons_of_mem _ (List.mem_cons_of_mem _ (List.mem_cons_of_mem _ (List.mem_cons_of_mem _ (List.mem_cons_of_mem _ (List.mem_cons_of_mem _ (List.mem_cons_of_mem _ (List.mem_cons_self)))))))))))))

/-! A slice as a record of one field. -/

theorem rec_of {a : Option Addr} {n c : Nat} {K Q : Fo} (h : Q.sim (.s a n c K .nil)) {d : Option Addr} {e : Nat} (hv : Q.vals = [.slice d n e]) : ∃ K', Q = .s d n e K' .nil ∧ K'.sim K := by
  obtain ⟨d', e', K', r, rfl, h1, h2⟩ := Fo.sim_s h
  obtain rfl := Fo.sim_nil h2
  simp only [Fo.vals, List.cons.injEq, Value.slice.injEq, true_and, and_true] at hv
  obtain ⟨rfl, rfl⟩ := hv
  exact ⟨K', rfl, h1⟩

theorem rec_vals {a : Option Addr} {n c : Nat} {K Q : Fo} (h : Q.sim (.s a n c K .nil)) : ∃ (d : Option Addr) (e : Nat), Q.vals = [.slice d n e] := by
  obtain ⟨d', e', K', r, rfl, h1, h2⟩ := Fo.sim_s h
  obtain rfl := Fo.sim_nil h2
  exact ⟨d', e', rfl⟩

variable {P : Program} {E : Nat → List Fld} {f : FuncId} {k : Nat}

theorem szR_rec (h : ∀ m, SzR P E f (E k) m) {F : Fo} {a : Option Addr} {n c : Nat} {K : Fo} (hF : F = .s a n c K .nil) (hf : Fit E F [.s k]) (left : Int) (h0 : 0 ≤ left) (h1 : left ≤ 1048576) (V : World) (hV : F.Subs V (fun c => c < V.heap.size)) :
    Calls P f #[.slice a n c, .int .i64 left] V fun e w' => e = .returned (.int .i64 (szV left F.wt)) ∧ Below V.heap.size V w' := by
  subst hF
  have := h K.size K n V.heap.size left V a c (Nat.le_refl _) hf.1 (Nat.le_refl _) h0 h1 hV.1
  simpa [Fo.wt] using this

theorem toR_rec (h : ∀ m, ToR P E f (E k) m) {F : Fo} {a : Option Addr} {n c : Nat} {K : Fo} (hF : F = .s a n c K .nil) (hf : Fit E F [.s k]) (hw : F.wt ≤ 1048576) (V : World) (hV : F.Subs V (fun c => c < V.heap.size)) :
    Calls P f #[.slice a n c] V fun e w' => ∃ (d : Option Addr) (e' : Nat) (G : Fo), e = .returned (.slice d n e') ∧ Hid (G.vals = [.slice d n e'] ∧ G.sim F ∧ Own V.heap.size w' G) ∧ Hid (Below V.heap.size V w') := by
  subst hF
  refine (h K.size K n V.heap.size V a c (Nat.le_refl _) hf.1 (Nat.le_refl _) (by simpa [Fo.wt] using hw) hV.1).mono ?_
  rintro e w' ⟨b, G, rfl, g1, g2, g3⟩
  exact ⟨_, _, .s (some ⟨b, 0, none⟩) n n G .nil, rfl, ⟨rfl, ⟨rfl, g1, trivial⟩, g3⟩, g2⟩

theorem eqR_rec (h : ∀ m, EqR P E f (E k) m) {F : Fo} {a : Option Addr} {n c : Nat} {K : Fo} (hF : F = .s a n c K .nil) (hf : Fit E F [.s k]) (V : World) (d : Option Addr) (e : Nat) (p : Option Addr) (q : Nat) (Q R : Fo)
    (hQ : Hid (Q.vals = [.slice d n e] ∧ Q.sim F ∧ Q.Subs V (fun c => c < V.heap.size))) (hR : Hid (R.vals = [.slice p n q] ∧ R.sim F ∧ R.Subs V (fun c => c < V.heap.size))) :
    Calls P f #[.slice d n e, .slice p n q] V fun x w' => x = .returned (.bool true) ∧ Hid (Below V.heap.size V w') := by
  subst hF
  obtain ⟨q1, q2, q3⟩ := hQ.out
  obtain ⟨r1, r2, r3⟩ := hR.out
  obtain ⟨K1, rfl, s1⟩ := rec_of q2 q1
  obtain ⟨K2, rfl, s2⟩ := rec_of r2 r1
  exact h K1.size K1 K2 n V.heap.size V d p e q (Nat.le_refl _) (s1.fit hf.1) (Nat.le_refl _) (s2.trans s1.symm) q3.1 r3.1

theorem mkR_rec (h : ∀ m, MkR P E f (E k) m) {F : Fo} {a : Option Addr} {n c : Nat} {K : Fo} (hF : F = .s a n c K .nil) (hf : Fit E F [.s k]) (V : World) (d : Option Addr) (e : Nat) (G : Fo) (lo j : Nat) (hj : 0 < j) (hb : j + F.sct ≤ 4294967296)
    (hv : G.vals = [.slice d n e]) (hs : G.sim F) (ho : Own lo V G) :
    Calls P f #[.slice d n e, .int .i64 j] V fun x w' => x = .returned (.int .i64 ((j + F.sct : Nat) : Int)) ∧ Hid ((G.mks j).Subs w' (fun c => c < w'.heap.size)) ∧ Hid (Kept (fun c => c ∉ G.inn) V w') := by
  subst hF
  obtain ⟨K1, rfl, s1⟩ := rec_of hs hv
  have e1 : K1.ct = Fo.sct (.s a n c K .nil) := by have := hs.sct; simpa [Fo.sct] using this
  have h1 := h (K1.size + 1) K1 n d e j V (Nat.lt_succ_self _) (s1.fit hf.1) hj (by rw [e1]; exact hb) (ho.subs.mono (fun _ x => x.2)) ho.nodup ho.live
  rw [e1] at h1
  exact h1.mono (fun x w' h => ⟨h.1, h.2.1.mono (fun c hc => Nat.lt_of_lt_of_le hc h.2.2.1.size), h.2.2.1⟩)

theorem hdR_rec (h : ∀ m, HdR P E f (E k) m) {F : Fo} {a : Option Addr} {n c : Nat} {K : Fo} (hF : F = .s a n c K .nil) (hf : Fit E F [.s k]) (V : World) (d : Option Addr) (e : Nat) (G : Fo) (j : Nat) (hj : 0 < j) (hb : j + F.sct ≤ 4294967296)
    (hv : G.vals = [.slice d n e]) (hs : G.sim F) (hm : (G.mks j).Subs V (fun c => c < V.heap.size)) :
    Calls P f #[.slice d n e, .int .i64 j] V fun x w' => x = .returned (.int .i64 ((j + F.sct : Nat) : Int)) ∧ Hid (Below V.heap.size V w') := by
  subst hF
  obtain ⟨K1, rfl, s1⟩ := rec_of hs hv
  have e1 : K1.ct = Fo.sct (.s a n c K .nil) := by have := hs.sct; simpa [Fo.sct] using this
  have h1 := h (K1.size + 1) K1 n V.heap.size d e j V (Nat.lt_succ_self _) (s1.fit hf.1) (Nat.le_refl _) hj (by rw [e1]; exact hb) hm.1
  rw [e1] at h1
  exact h1

/-! A struct, by its cells. -/

theorem szC_rec {fs : List Fld} (h : ∀ m, SzC P E f fs m) {F : Fo} {vs : List Value} (hv : F.vals = vs) (hf : Fit E F fs) (left : Int) (h0 : 0 ≤ left) (h1 : left ≤ 1048576) (V : World) (hV : F.Subs V (fun c => c < V.heap.size)) :
    Calls P f #[.agg vs.toArray, .int .i64 left] V fun e w' => e = .returned (.int .i64 (szV left F.wt)) ∧ Below V.heap.size V w' := by
  subst hv
  exact h F.size F V.heap.size left V (Nat.le_refl _) hf (Nat.le_refl _) h0 h1 hV

theorem toC_rec {fs : List Fld} (h : ∀ m, ToC P E f fs m) {F : Fo} {vs : List Value} (hv : F.vals = vs) (hf : Fit E F fs) (hw : F.wt ≤ 1048576) (V : World) (hV : F.Subs V (fun c => c < V.heap.size)) :
    Calls P f #[.agg vs.toArray] V fun e w' => ∃ G : Fo, e = .returned (.agg G.vals.toArray) ∧ G.sim F ∧ Own V.heap.size w' G ∧ Hid (Below V.heap.size V w') := by
  subst hv
  exact (h F.size F V.heap.size V (Nat.le_refl _) hf (Nat.le_refl _) hw hV).mono (fun e w' ⟨G, h1, h2, h3, h4⟩ => ⟨G, h1, h2, h4, h3⟩)

theorem eqC_rec {fs : List Fld} (h : ∀ m, EqC P E f fs m) {F : Fo} (hf : Fit E F fs) (V : World) (us vs : List Value) (Q R : Fo)
    (hQ : Hid (Q.vals = us ∧ Q.sim F ∧ Q.Subs V (fun c => c < V.heap.size))) (hR : Hid (R.vals = vs ∧ R.sim F ∧ R.Subs V (fun c => c < V.heap.size))) :
    Calls P f #[.agg us.toArray, .agg vs.toArray] V fun x w' => x = .returned (.bool true) ∧ Hid (Below V.heap.size V w') := by
  obtain ⟨rfl, q2, q3⟩ := hQ.out
  obtain ⟨rfl, r2, r3⟩ := hR.out
  exact h Q.size Q R V.heap.size V (Nat.le_refl _) (q2.fit hf) (Nat.le_refl _) (r2.trans q2.symm) q3 r3

theorem mkC_rec {fs : List Fld} (h : ∀ m, MkC P E f fs m) {F : Fo} (hf : Fit E F fs) (V : World) (us : List Value) (G : Fo) (lo j : Nat) (hj : 0 < j) (hb : j + F.sct ≤ 4294967296)
    (hv : G.vals = us) (hs : G.sim F) (ho : Own lo V G) :
    Calls P f #[.agg us.toArray, .int .i64 j] V fun x w' => x = .returned (.int .i64 ((j + F.sct : Nat) : Int)) ∧ Hid ((G.mks j).Subs w' (fun c => c < w'.heap.size)) ∧ Hid (Kept (fun c => c ∉ G.inn) V w') := by
  subst hv
  have h1 := h (G.size + 1) G j V (Nat.lt_succ_self _) (hs.fit hf) hj (by rw [hs.sct]; exact hb) (ho.subs.mono (fun _ x => x.2)) ho.nodup ho.live
  rw [hs.sct] at h1
  exact h1.mono (fun x w' h => ⟨h.1, h.2.1.mono (fun c hc => Nat.lt_of_lt_of_le hc h.2.2.1.size), h.2.2.1⟩)

theorem hdC_rec {fs : List Fld} (h : ∀ m, HdC P E f fs m) {F : Fo} (hf : Fit E F fs) (V : World) (us : List Value) (G : Fo) (j : Nat) (hj : 0 < j) (hb : j + F.sct ≤ 4294967296)
    (hv : G.vals = us) (hs : G.sim F) (hm : (G.mks j).Subs V (fun c => c < V.heap.size)) :
    Calls P f #[.agg us.toArray, .int .i64 j] V fun x w' => x = .returned (.int .i64 ((j + F.sct : Nat) : Int)) ∧ Hid (Below V.heap.size V w') := by
  subst hv
  have h1 := h (G.size + 1) G V.heap.size j V (Nat.lt_succ_self _) (hs.fit hf) (Nat.le_refl _) hj (by rw [hs.sct]; exact hb) hm
  rw [hs.sct] at h1
  exact h1

/-- A slice among the arguments. -/
theorem open_slice {H : Type} {enc : TypeId × Value → H} {W : World} {r : Reach} {base : Nat} {t e : TypeId} {v : Value} {d : DataW H} {p : List MemPlace} (ht : P.underlying t = some (.slice e)) (hc : P.cellsOf e = (E k).length) (hw : 0 < (E k).length)
    (ih : ∀ m cs x, DataW.trod enc P W 0 (fun _ => true) true m e cs = some x → Says E W (E k) cs) (hv : Value.okWide P W r base t v) (h : DataW.Trod enc P W 0 (fun _ => true) true t v d p) :
    ∃ (a : Option Addr) (n c : Nat) (K : Fo), v = .slice a n c ∧ Fit E (.s a n c K .nil) [.s k] ∧ Fo.Subs W (fun c => c < W.heap.size) (.s a n c K .nil) := by
  obtain ⟨a, n, c, rfl⟩ := WideShapes.okWide_slice ht hv
  obtain ⟨fuel, hf⟩ := h
  obtain ⟨F, e1, h1, h2⟩ := says_slice (E := E) (k := k) ht hc hw (fun m _ cs x h => ih m cs x h) hf
  obtain ⟨a', n', c', K, r', rfl, h3, h4⟩ := fit_s h1
  obtain rfl := fit_nil h4
  simp only [Value.cells, Fo.vals] at e1
  have e2 : Value.slice a n c = .slice a' n' c' := by simpa using e1
  simp only [Value.slice.injEq] at e2
  obtain ⟨rfl, rfl, rfl⟩ := e2
  exact ⟨a, n, c, K, rfl, h1, h2⟩

end Go.Proofs.Ytmnligaelihmiaa
