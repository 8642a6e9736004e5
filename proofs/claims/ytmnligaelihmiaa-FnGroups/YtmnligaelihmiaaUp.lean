import Derived.Test.YtmnligaelihmiaaUo
namespace Go.Proofs.Ytmnligaelihmiaa
open Go.RowKit Go.Joins

theorem ret_int {k : IntKind} {a b : Int} (h : a = b) : Ending.returned (.int k a) = .returned (.int k b) := by rw [h]

/-- The law's own reckoning of sizes. -/
def szV (left : Int) (n : Nat) : Int := if left < n then -1 else left - n
theorem szV_lt {left : Int} {n : Nat} (h : left < n) : szV left n = -1 := if_pos h
theorem szV_ge {left : Int} {n : Nat} (h : ¬ left < n) : szV left n = left - n := if_neg h

/-- A box of our own. -/
structure Bx (W : World) (b : Nat) (L : List Value) : Prop where
  lt : b < W.heap.size
  cel : ∀ i v, L[i]? = some v → W.cell? ⟨b, i, none⟩ = some v
  live : ∀ j, W.frozen? ⟨b, j, none⟩ = false

theorem Bx.new (W : World) (L : List Value) (t : TypeId) : Bx (W.alloc (.cells L.toArray t)) W.heap.size L :=
  ⟨by simp, fun i v hv => by
    obtain ⟨hi, e⟩ := List.getElem?_eq_some_iff.1 hv
    simp [hi, e], fun j => by simp⟩

theorem Bx.kept {A B : World} {b : Nat} {L : List Value} {S : Nat → Prop} (h : Bx A b L) (k : Kept S A B) (hb : S b) : Bx B b L :=
  ⟨Nat.lt_of_lt_of_le h.lt k.size, fun i v hv => (k.cell (p := ⟨b, i, none⟩) h.lt hb).trans (h.cel i v hv), fun j => (k.frozen (p := ⟨b, j, none⟩) h.lt hb).trans (h.live j)⟩

theorem Bx.below {A B : World} {b : Nat} {L : List Value} (h : Bx A b L) (k : Below A.heap.size A B) : Bx B b L := h.kept (kt (S := fun _ => True) k) trivial
theorem Bx.belown {A B : World} {b n : Nat} {L : List Value} (h : Bx A b L) (k : Below n A B) (hb : b < n) : Bx B b L := h.kept (Kept.of_below (S := fun c => c = b) k (fun c _ e => by omega)) rfl

/-- Room for n cells. -/
def Room (W : World) (g n : Nat) : Prop := ∀ j, j < n → (∃ v, W.cell? ⟨g, j, none⟩ = some v) ∧ W.frozen? ⟨g, j, none⟩ = false

theorem Room.below {A B : World} {n g m : Nat} (h : Room A g m) (k : Below n A B) (hg : g < n) : Room B g m := fun j hj => by
  obtain ⟨⟨v, hv⟩, hf⟩ := h j hj
  exact ⟨⟨v, (k.cell (p := ⟨g, j, none⟩) hg).trans hv⟩, (k.frozen (p := ⟨g, j, none⟩) hg).trans hf⟩

theorem Room.set {A : World} {g m : Nat} (h : Room A g m) (p : Addr) (v : Value) : Room (A.setCell p v) g m := fun j hj => by
  obtain ⟨⟨u, hu⟩, hf⟩ := h j hj
  refine ⟨?_, by rw [World.frozen?_setCell]; exact hf⟩
  by_cases e : (⟨g, j, none⟩ : Addr) = p
  · subst e
    exact ⟨v, World.cell?_setCell_same' _ _ _ (by rw [hu]; rfl)⟩
  · exact ⟨u, by rw [World.cell?_setCell_other _ _ _ _ (fun h => e h.symm)]; exact hu⟩

theorem Room.made (w : World) (cur : Array Value) (t : TypeId) : Room (w.alloc (.cells cur t)) w.heap.size cur.size := fun j hj =>
  ⟨⟨cur[j], by simp [hj]⟩, by simp⟩

/-- Values stored one behind the other. -/
def setL (W : World) (b o : Nat) : List Value → World
  | [] => W
  | v :: L => setL (W.setCell ⟨b, o, none⟩ v) b (o + 1) L

theorem setL_kept : ∀ (L : List Value) (W : World) (b o : Nat), Kept (fun c => c ≠ b) W (setL W b o L)
  | [], W, _, _ => Kept.refl _ W
  | v :: L, W, b, o => (Kept.setCell _ W ⟨b, o, none⟩ v (by simp)).trans (setL_kept L _ b (o + 1))

theorem setL_size : ∀ (L : List Value) (W : World) (b o : Nat), (setL W b o L).heap.size = W.heap.size
  | [], _, _, _ => rfl
  | v :: L, W, b, o => by rw [setL, setL_size L]; simp [World.setCell]

theorem setL_live : ∀ (L : List Value) {W : World} (b o : Nat) {M : List Nat}, Live W M → Live (setL W b o L) M
  | [], _, _, _, _, h => h
  | _ :: L, _, b, o, _, h => setL_live L b (o + 1) (h.set _ _)

theorem setL_room : ∀ (L : List Value) {W : World} (b o : Nat) {g m : Nat}, Room W g m → Room (setL W b o L) g m
  | [], _, _, _, _, _, h => h
  | _ :: L, _, b, o, _, _, h => setL_room L b (o + 1) (h.set _ _)

theorem setL_out : ∀ (L : List Value) (W : World) (b o j : Nat), (j < o ∨ o + L.length ≤ j) → (setL W b o L).cell? ⟨b, j, none⟩ = W.cell? ⟨b, j, none⟩
  | [], _, _, _, _, _ => rfl
  | v :: L, W, b, o, j, h => by
    simp only [List.length_cons] at h
    rw [setL, setL_out L _ b (o + 1) j (by omega), World.cell?_setCell_other _ _ _ _ (fun e => by have := congrArg Addr.off e; simp at this; omega)]

theorem setL_in : ∀ (L : List Value) (W : World) (b o : Nat), (∀ j, j < L.length → ∃ u, W.cell? ⟨b, o + j, none⟩ = some u) → Cel (setL W b o L) L b o
  | [], W, b, o, _ => Cel.nil _ b o
  | v :: L, W, b, o, h => by
    obtain ⟨u, hu⟩ := h 0 (by simp)
    have h0 : (setL W b o (v :: L)).cell? ⟨b, o, none⟩ = some v := by
      rw [setL, setL_out L _ b (o + 1) o (.inl (by omega))]
      exact World.cell?_setCell_same' _ _ _ (by rw [show W.cell? ⟨b, o, none⟩ = some u from hu]; rfl)
    have h1 := setL_in L (W.setCell ⟨b, o, none⟩ v) b (o + 1) (fun j hj => by
      obtain ⟨u, hu⟩ := h (j + 1) (by simp only [List.length_cons]; omega)
      refine ⟨u, ?_⟩
      rw [World.cell?_setCell_other _ _ _ _ (fun e => by have := congrArg Addr.off e; simp at this; omega)]
      have e : o + 1 + j = o + (j + 1) := by omega
      rw [e]
      exact hu)
    intro i x hx
    cases i with
    | zero => simp only [List.getElem?_cons_zero, Option.some.injEq] at hx; subst hx; exact h0
    | succ i =>
      simp only [List.getElem?_cons_succ] at hx
      have := h1 i x hx
      have e : o + 1 + i = o + (i + 1) := by omega
      rw [e] at this
      exact this

/-- A row that is gone through: what is left of it. -/
structure Rd (E : Nat → List Fld) (fs : List Fld) (n n0 : Nat) (a : Option Addr) (i : Nat) (r : Fo) (wr : World) : Prop where
  le : i ≤ n
  fit : Fit E r (rep fs (n - i))
  at_ : 0 < r.len → ∃ b o, a = some ⟨b, o, none⟩ ∧ b < n0 ∧ Cel wr r.vals b (o + i * fs.length) ∧ r.Subs wr (fun c => c < n0)

theorem Rd.start {E : Nat → List Fld} {fs : List Fld} {n n0 : Nat} {a : Option Addr} {cap : Nat} {F : Fo} {W : World} (hf : Fit E F (rep fs n)) (h : F.Sub W (fun c => c < n0) a n cap) : Rd E fs n n0 a 0 F W :=
  ⟨Nat.zero_le _, hf, fun hl => by obtain ⟨b, o, e, s, c, x⟩ := h.2.2 hl; exact ⟨b, o, e, s, by simpa using c, x⟩⟩

theorem Rd.below {E : Nat → List Fld} {fs : List Fld} {n n0 i m : Nat} {a : Option Addr} {r : Fo} {A B : World} (h : Rd E fs n n0 a i r A) (k : Below m A B) (hm : n0 ≤ m) : Rd E fs n n0 a i r B :=
  ⟨h.le, h.fit, fun hl => by obtain ⟨b, o, e, s, c, x⟩ := h.at_ hl; exact ⟨b, o, e, s, c.below k (by omega), x.below k (fun c hc => by omega)⟩⟩

theorem Rd.kept {E : Nat → List Fld} {fs : List Fld} {n n0 i : Nat} {S : Nat → Prop} {a : Option Addr} {r : Fo} {A B : World} (h : Rd E fs n n0 a i r A) (k : Kept S A B) (hm : n0 ≤ A.heap.size) (hS : ∀ c, c < n0 → S c) : Rd E fs n n0 a i r B :=
  ⟨h.le, h.fit, fun hl => by obtain ⟨b, o, e, s, c, x⟩ := h.at_ hl; exact ⟨b, o, e, s, c.kept k (by omega) (hS b s), x.kept k (fun c hc => ⟨hS c hc, by omega⟩)⟩⟩

theorem Rd.next {E : Nat → List Fld} {fs : List Fld} {n n0 i : Nat} {a : Option Addr} {r : Fo} {wr : World} (h : Rd E fs n n0 a i r wr) (hi : i < n) (hw : 0 < fs.length) :
    ∃ (x q : Fo) (b o : Nat), r = x.app q ∧ Fit E x fs ∧ a = some ⟨b, o, none⟩ ∧ b < n0 ∧ Cel wr x.vals b (o + i * fs.length) ∧ x.Subs wr (fun c => c < n0) ∧ Rd E fs n n0 a (i + 1) q wr := by
  obtain ⟨x, q, rfl, hx, hq, hl⟩ := h.fit.next hi
  obtain ⟨b, o, e, s, c, u⟩ := h.at_ (by rw [Fo.app_len]; omega)
  rw [Fo.app_vals] at c
  refine ⟨x, q, b, o, rfl, hx, e, s, c.left, u.left, ⟨hi, hq, fun _ => ⟨b, o, e, s, ?_, u.right⟩⟩⟩
  have := c.right
  rw [Fo.vals_length, hl] at this
  have e2 : o + i * fs.length + fs.length = o + (i + 1) * fs.length := by rw [Nat.add_mul]; omega
  rwa [e2] at this

theorem Rd.done {E : Nat → List Fld} {fs : List Fld} {n n0 i : Nat} {a : Option Addr} {r : Fo} {wr : World} (h : Rd E fs n n0 a i r wr) (hi : ¬ i < n) : r = .nil ∧ i = n :=
  ⟨h.fit.done hi, by have := h.le; omega⟩

/-- The same of a marked row. -/
structure RdM (E : Nat → List Fld) (fs : List Fld) (n n0 : Nat) (a : Option Addr) (i q : Nat) (r : Fo) (wr : World) : Prop where
  le : i ≤ n
  fit : Fit E r (rep fs (n - i))
  at_ : 0 < r.len → ∃ b o, a = some ⟨b, o, none⟩ ∧ b < n0 ∧ Cel wr (r.mk q).vals b (o + i * fs.length) ∧ (r.mk q).Subs wr (fun c => c < n0)

theorem RdM.start {E : Nat → List Fld} {fs : List Fld} {n n0 k : Nat} {a : Option Addr} {cap : Nat} {F : Fo} {W : World} (hf : Fit E F (rep fs n)) (h : (F.mk k).Sub W (fun c => c < n0) a n cap) : RdM E fs n n0 a 0 k F W :=
  ⟨Nat.zero_le _, hf, fun hl => by obtain ⟨b, o, e, s, c, x⟩ := h.2.2 (by rw [Fo.mk_len]; exact hl); exact ⟨b, o, e, s, by simpa using c, x⟩⟩

theorem RdM.below {E : Nat → List Fld} {fs : List Fld} {n n0 i q m : Nat} {a : Option Addr} {r : Fo} {A B : World} (h : RdM E fs n n0 a i q r A) (k : Below m A B) (hm : n0 ≤ m) : RdM E fs n n0 a i q r B :=
  ⟨h.le, h.fit, fun hl => by obtain ⟨b, o, e, s, c, x⟩ := h.at_ hl; exact ⟨b, o, e, s, c.below k (by omega), x.below k (fun c hc => by omega)⟩⟩

theorem RdM.next {E : Nat → List Fld} {fs : List Fld} {n n0 i q : Nat} {a : Option Addr} {r : Fo} {wr : World} (h : RdM E fs n n0 a i q r wr) (hi : i < n) (hw : 0 < fs.length) :
    ∃ (x y : Fo) (b o : Nat), r = x.app y ∧ Fit E x fs ∧ a = some ⟨b, o, none⟩ ∧ b < n0 ∧ Cel wr (x.mk q).vals b (o + i * fs.length) ∧ (x.mk q).Subs wr (fun c => c < n0) ∧ RdM E fs n n0 a (i + 1) (q + x.ct) y wr := by
  obtain ⟨x, y, rfl, hx, hq, hl⟩ := h.fit.next hi
  obtain ⟨b, o, e, s, c, u⟩ := h.at_ (by rw [Fo.app_len]; omega)
  rw [Fo.mk_app] at u
  rw [Fo.mk_app, Fo.app_vals] at c
  refine ⟨x, y, b, o, rfl, hx, e, s, c.left, u.left, ⟨hi, hq, fun _ => ⟨b, o, e, s, ?_, u.right⟩⟩⟩
  have := c.right
  rw [Fo.vals_length, Fo.mk_len, hl] at this
  have e2 : o + i * fs.length + fs.length = o + (i + 1) * fs.length := by rw [Nat.add_mul]; omega
  rwa [e2] at this

theorem RdM.done {E : Nat → List Fld} {fs : List Fld} {n n0 i q : Nat} {a : Option Addr} {r : Fo} {wr : World} (h : RdM E fs n n0 a i q r wr) (hi : ¬ i < n) : r = .nil ∧ i = n :=
  ⟨h.fit.done hi, by have := h.le; omega⟩

/-- A copy that is made, element by element. -/
structure ToI (fs : List Fld) (n : Nat) (F : Fo) (W : World) (i : Nat) (r Fp Gp : Fo) (wr : World) : Prop where
  eq : Fp.app r = F
  len : Fp.len = i * fs.length
  sim : Gp.sim Fp
  nodup : (W.heap.size :: Gp.inn).Nodup
  live : Live wr (W.heap.size :: Gp.inn)
  cel : Cel wr Gp.vals W.heap.size 0
  subs : Gp.Subs wr (fun c => W.heap.size + 1 ≤ c ∧ c < wr.heap.size)
  room : Room wr W.heap.size (n * fs.length)
  bel : Below W.heap.size W wr
  size : W.heap.size + 1 ≤ wr.heap.size

theorem ToI.start {fs : List Fld} {n : Nat} {F : Fo} {W : World} (cur : Array Value) (t : TypeId) (h : cur.size = n * fs.length) : ToI fs n F W 0 F .nil .nil (W.alloc (.cells cur t)) :=
  ⟨rfl, by simp [Fo.len], trivial, by simp [Fo.inn], fun c hc j => by simp only [Fo.inn, List.mem_singleton] at hc; subst hc; simp, Cel.nil _ _ _, trivial, by rw [← h]; exact Room.made W cur t, below_alloc1 _ _, by simp⟩

theorem ToI.step {fs : List Fld} {n i : Nat} {F x q Fp Gp G : Fo} {W wr w1 : World} (h : ToI fs n F W i (x.app q) Fp Gp wr) (hi : i < n) (hx : x.len = fs.length) (b1 : Below wr.heap.size wr w1) (hs : G.sim x) (ho : Own wr.heap.size w1 G) :
    ToI fs n F W (i + 1) q (Fp.app x) (Gp.app G) (setL w1 W.heap.size (i * fs.length) G.vals) := by
  have z1 := b1.size
  have zz := setL_size G.vals w1 W.heap.size (i * fs.length)
  have k4 := setL_kept G.vals w1 W.heap.size (i * fs.length)
  have hsz := h.size
  have hgl : Gp.len = i * fs.length := by rw [h.sim.len, h.len]
  have hGl : G.len = fs.length := by rw [hs.len, hx]
  have hnm : i * fs.length + fs.length ≤ n * fs.length := by
    have : (i + 1) * fs.length ≤ n * fs.length := Nat.mul_le_mul_right _ hi
    rw [Nat.add_mul] at this; omega
  refine ⟨by rw [Fo.app_assoc]; exact h.eq, by rw [Fo.app_len, h.len, hx, Nat.add_mul]; omega, h.sim.app hs, ?_, ?_, ?_, ?_, setL_room _ _ _ (h.room.below b1 (by omega)), ?_, by omega⟩
  · rw [Fo.inn_app, ← List.cons_append, List.nodup_append]
    refine ⟨h.nodup, ho.nodup, fun y hy z hz e => ?_⟩
    subst e
    have h1 := (ho.subs.inn_of y hz).1
    rcases List.mem_cons.1 hy with e | e
    · omega
    · have := (h.subs.inn_of y e).2; omega
  · rw [Fo.inn_app, ← List.cons_append]
    refine setL_live _ _ _ (Live.app (h.live.below b1 (fun c hc => ?_)) ho.live)
    rcases List.mem_cons.1 hc with e | e
    · omega
    · exact (h.subs.inn_of c e).2
  · rw [Fo.app_vals]
    refine Cel.join ?_ ?_
    · refine (h.cel.below b1 (by omega)).keep (fun j _ hj v hv => ?_)
      rw [Fo.vals_length, hgl] at hj
      rw [setL_out _ _ _ _ _ (.inl (by omega))]
      exact hv
    · rw [Fo.vals_length, hgl, Nat.zero_add]
      refine setL_in _ _ _ _ (fun j hj => ?_)
      rw [Fo.vals_length, hGl] at hj
      exact ((h.room.below b1 (by omega)) (i * fs.length + j) (by omega)).1
  · refine Fo.Subs.app ?_ ?_
    · exact ((h.subs.below b1 (fun c hc => hc.2)).kept k4 (fun c hc => ⟨by omega, by omega⟩)).mono (fun c hc => ⟨hc.1, by omega⟩)
    · exact (ho.subs.kept k4 (fun c hc => ⟨by omega, hc.2⟩)).mono (fun c hc => ⟨by omega, by omega⟩)
  · exact (h.bel.trans (b1.mono (by omega))).trans (k4.below (fun c hc => by show c ≠ _; omega) (by omega))

theorem blk_sub (b n : Nat) (L : List Nat) : (blk (some ⟨b, 0, none⟩) n ++ L).Sublist (b :: L) := by
  cases n with
  | zero => exact List.sublist_cons_self b L
  | succ n => exact List.Sublist.refl _

theorem ToI.finish {fs : List Fld} {n i : Nat} {F Fp Gp : Fo} {W wr : World} (h : ToI fs n F W i .nil Fp Gp wr) (hn : n ≤ 1048576) :
    Gp.sim F ∧ Below W.heap.size W wr ∧ Own W.heap.size wr (.s (some ⟨W.heap.size, 0, none⟩) n n Gp .nil) := by
  have e := h.eq
  rw [Fo.app_nil] at e
  subst e
  refine ⟨h.sim, h.bel, ⟨⟨⟨Nat.le_refl _, by simp only [maxLen]; omega, fun _ => ⟨_, _, rfl, ⟨Nat.le_refl _, by have := h.size; omega⟩, h.cel, h.subs.mono (fun c hc => ⟨by omega, hc.2⟩)⟩⟩, trivial⟩, ?_, ?_⟩⟩
  · simp only [Fo.inn, List.append_nil]; exact h.nodup.sublist (blk_sub _ _ _)
  · simp only [Fo.inn, List.append_nil]; exact h.live.sub (fun c hc => (blk_sub _ _ _).subset hc)

end Go.Proofs.Ytmnligaelihmiaa
