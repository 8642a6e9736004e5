import Derived.Test.YtmnligaelihmiaaUp
namespace Go.Proofs.Ytmnligaelihmiaa
open Go.RowKit Go.Joins

theorem Bx.put {W : World} {b : Nat} {L : List Value} (h : Bx W b L) (i : Nat) (v : Value) (hi : i < L.length) : Bx (W.setCell ⟨b, i, none⟩ v) b (L.set i v) :=
  ⟨by simpa [World.setCell] using h.lt, fun j u hu => by
    by_cases e : j = i
    · subst e
      rw [List.getElem?_set_self hi] at hu
      simp only [Option.some.injEq] at hu
      subst hu
      exact World.cell?_setCell_same' _ _ _ (by rw [h.cel j _ (List.getElem?_eq_getElem hi)]; rfl)
    · rw [List.getElem?_set_ne (fun x => e x.symm)] at hu
      rw [World.cell?_setCell_other _ _ _ _ (fun x => by have := congrArg Addr.off x; simp at this; omega)]
      exact h.cel j u hu, fun j => by rw [World.frozen?_setCell]; exact h.live j⟩

/-- A row that is marked, cell by cell. -/
structure MkI (b o : Nat) (F : Fo) (k0 : Nat) (W : World) (Fp r : Fo) (wr : World) : Prop where
  eq : Fp.app r = F
  cel : Cel wr ((Fp.mk k0).app r).vals b o
  subs : ((Fp.mk k0).app r).Subs wr (fun c => c ∈ F.inn)
  kept : Kept (fun c => c ∉ b :: F.inn) W wr
  live : Live wr (b :: F.inn)
  lt : ∀ c, c ∈ b :: F.inn → c < W.heap.size
  nodup : (b :: F.inn).Nodup

theorem MkI.start {b o k0 n cap : Nat} {F : Fo} {W : World} (hl : 0 < F.len) (h : F.Sub W (fun c => c < W.heap.size) (some ⟨b, o, none⟩) n cap) (hnd : (blk (some ⟨b, o, none⟩) F.len ++ F.inn).Nodup) (hlv : Live W (blk (some ⟨b, o, none⟩) F.len ++ F.inn)) :
    MkI b o F k0 W .nil F W := by
  rw [blk_pos hl] at hnd hlv
  obtain ⟨b', o', e, hb, hc, hs⟩ := h.2.2 hl
  cases e
  exact ⟨rfl, hc, hs.own, Kept.refl _ _, hlv, fun c hc => by
    rcases List.mem_cons.1 hc with e | e
    · omega
    · exact hs.inn_of c e, hnd⟩

theorem MkI.below {b o k0 : Nat} {F Fp r : Fo} {W wr w1 : World} (h : MkI b o F k0 W Fp r wr) (k : Below wr.heap.size wr w1) : MkI b o F k0 W Fp r w1 := by
  have hz := h.kept.size
  have hlt : ∀ c, c ∈ b :: F.inn → c < wr.heap.size := fun c hc => by have := h.lt c hc; omega
  exact ⟨h.eq, h.cel.below k (hlt b List.mem_cons_self), h.subs.below k (fun c hc => hlt c (List.mem_cons_of_mem _ hc)), h.kept.trans (kt k), h.live.below k hlt, h.lt, h.nodup⟩

theorem MkI.cell {b o k0 p : Nat} {F Fp r : Fo} {x : Value} {W wr : World} (h : MkI b o F k0 W Fp (.v x r) wr) (hp : o + Fp.len = p) : wr.cell? ⟨b, p, none⟩ = some x := by
  have := h.cel Fp.len x (by rw [Fo.app_vals, List.getElem?_append_right (by rw [Fo.vals_length, Fo.mk_len]; omega), Fo.vals_length, Fo.mk_len, Nat.sub_self]; rfl)
  rwa [hp] at this

theorem MkI.slice {b o k0 p n cap : Nat} {F Fp ks r : Fo} {a : Option Addr} {W wr : World} (h : MkI b o F k0 W Fp (.s a n cap ks r) wr) (hp : o + Fp.len = p) : wr.cell? ⟨b, p, none⟩ = some (.slice a n cap) := by
  have := h.cel Fp.len (.slice a n cap) (by rw [Fo.app_vals, List.getElem?_append_right (by rw [Fo.vals_length, Fo.mk_len]; omega), Fo.vals_length, Fo.mk_len, Nat.sub_self]; rfl)
  rwa [hp] at this

theorem MkI.at_ {b o k0 p : Nat} {F Fp r : Fo} {W wr : World} (h : MkI b o F k0 W Fp r wr) (j : Nat) (x : Value) (hx : r.vals[j]? = some x) (hp : o + Fp.len + j = p) : wr.cell? ⟨b, p, none⟩ = some x := by
  have := h.cel (Fp.len + j) x (by rw [Fo.app_vals, List.getElem?_append_right (by rw [Fo.vals_length, Fo.mk_len]; omega), Fo.vals_length, Fo.mk_len, Nat.add_sub_cancel_left]; exact hx)
  rw [← Nat.add_assoc] at this
  rwa [hp] at this

theorem MkI.free {b o k0 : Nat} {F Fp r : Fo} {W wr : World} (h : MkI b o F k0 W Fp r wr) (p : Nat) : wr.frozen? ⟨b, p, none⟩ = false := h.live b List.mem_cons_self p

theorem MkI.blk_lt {b o k0 : Nat} {F Fp r : Fo} {W wr : World} (h : MkI b o F k0 W Fp r wr) : b < wr.heap.size := Nat.lt_of_lt_of_le (h.lt b List.mem_cons_self) h.kept.size

theorem MkI.set {b o k0 p q : Nat} {F Fp r : Fo} {x y : Value} {W wr : World} (h : MkI b o F k0 W Fp (.v x r) wr) (hp : o + Fp.len = p) (hq : k0 + Fp.ct = q) (hy : y = mkV x q) :
    MkI b o F k0 W (Fp.app (.v x .nil)) r (wr.setCell ⟨b, p, none⟩ y) := by
  subst hy
  have hz := h.kept.size
  have hc := h.cell hp
  have hbn : b ∉ F.inn := (List.nodup_cons.1 h.nodup).1
  have e1 : (((Fp.app (.v x .nil)).mk k0).app r) = (Fp.mk k0).app (.v (mkV x q) r) := by
    rw [Fo.mk_app, Fo.app_assoc, hq]; rfl
  refine ⟨by rw [Fo.app_assoc]; exact h.eq, ?_, ?_, h.kept.set (by simp), h.live.set _ _, h.lt, h.nodup⟩
  · rw [e1]
    intro i v hv
    rw [Fo.app_vals] at hv
    by_cases hi : i = Fp.len
    · subst hi
      rw [List.getElem?_append_right (by rw [Fo.vals_length, Fo.mk_len]; omega), Fo.vals_length, Fo.mk_len, Nat.sub_self] at hv
      simp only [Fo.vals, List.getElem?_cons_zero, Option.some.injEq] at hv
      subst hv
      rw [hp]
      exact World.cell?_setCell_same' _ _ _ (by rw [hc]; rfl)
    · rw [World.cell?_setCell_other _ _ _ _ (fun e => by have := congrArg Addr.off e; simp at this; omega)]
      refine h.cel i v ?_
      rw [Fo.app_vals]
      by_cases hl : i < Fp.len
      · rw [List.getElem?_append_left (by rw [Fo.vals_length, Fo.mk_len]; exact hl)] at hv ⊢
        exact hv
      · rw [List.getElem?_append_right (by rw [Fo.vals_length, Fo.mk_len]; omega)] at hv ⊢
        rw [Fo.vals_length, Fo.mk_len] at hv ⊢
        obtain ⟨m, hm⟩ : ∃ m, i - Fp.len = m + 1 := ⟨i - Fp.len - 1, by omega⟩
        rw [hm] at hv ⊢
        exact hv
  · rw [e1]
    have h1 : ((Fp.mk k0).app (.v (mkV x q) r)).Subs wr (fun c => c ∈ F.inn) := Fo.Subs.app h.subs.left (show r.Subs wr _ from h.subs.right)
    exact h1.keep (fun _ y => y) (fun p' hp' v hv => by
      rw [World.cell?_setCell_other _ _ _ _ (fun e => hbn (by have := congrArg Addr.block e; simp at this; rw [this]; exact hp'))]
      exact hv)

/-- What the call for a slice in the row wants. -/
theorem MkI.sub {b o k0 n cap : Nat} {F Fp ks r : Fo} {a : Option Addr} {W wr : World} (h : MkI b o F k0 W Fp (.s a n cap ks r) wr) :
    Fo.Subs wr (fun c => c < wr.heap.size) (.s a n cap ks .nil) ∧ (Fo.inn (.s a n cap ks .nil)).Nodup ∧ Live wr (Fo.inn (.s a n cap ks .nil)) := by
  have hz := h.kept.size
  have hs := h.subs.right
  have e := congrArg Fo.inn h.eq
  rw [Fo.inn_app] at e
  simp only [Fo.inn] at e
  have hnd := (List.nodup_cons.1 h.nodup).2
  rw [← e] at hnd
  simp only [Fo.inn, List.append_nil]
  refine ⟨⟨hs.1, trivial⟩ |> Fo.Subs.mono (F := .s a n cap ks .nil) (S := fun c => c ∈ F.inn) (fun c hc => by have := h.lt c (List.mem_cons_of_mem _ hc); omega), ?_, ?_⟩
  · exact (List.nodup_append.1 (List.nodup_append.1 hnd).2.1).1
  · exact h.live.sub (fun c hc => List.mem_cons_of_mem _ (by rw [← e]; exact List.mem_append.2 (.inr (List.mem_append.2 (.inl hc)))))

theorem MkI.call {b o k0 n cap q : Nat} {F Fp ks r : Fo} {a : Option Addr} {W wr w1 : World} (h : MkI b o F k0 W Fp (.s a n cap ks r) wr) (hq : k0 + Fp.ct = q)
    (k : Kept (fun c => c ∉ Fo.inn (.s a n cap ks .nil)) wr w1) (hs : Fo.Subs w1 (fun c => c < wr.heap.size) (Fo.mks (.s a n cap ks .nil) q)) (hl : Live w1 (Fo.inn (.s a n cap ks .nil))) :
    MkI b o F k0 W (Fp.app (.s a n cap ks .nil)) r w1 := by
  have hz := h.kept.size
  have e := congrArg Fo.inn h.eq
  rw [Fo.inn_app] at e
  simp only [Fo.inn] at e
  simp only [Fo.inn, List.append_nil] at k hl
  have hnd := h.nodup
  have hbn : b ∉ F.inn := (List.nodup_cons.1 hnd).1
  have hnd2 := (List.nodup_cons.1 hnd).2
  rw [← e] at hnd2
  obtain ⟨hn1, hn2, hn3⟩ := List.nodup_append.1 hnd2
  obtain ⟨hn4, hn5, hn6⟩ := List.nodup_append.1 hn2
  have hsub : ∀ c, c ∈ blk a ks.len ++ ks.inn → c ∈ F.inn := fun c hc => by rw [← e]; exact List.mem_append.2 (.inr (List.mem_append.2 (.inl hc)))
  have hlt : ∀ c, c ∈ b :: F.inn → c < wr.heap.size := fun c hc => by have := h.lt c hc; omega
  have e1 : (((Fp.app (.s a n cap ks .nil)).mk k0).app r) = (Fp.mk k0).app (.s a n cap (ks.mk q) r) := by
    rw [Fo.mk_app, Fo.app_assoc, hq]; rfl
  have e2 : ((Fp.mk k0).app (.s a n cap (ks.mk q) r)).vals = ((Fp.mk k0).app (.s a n cap ks r)).vals := by simp only [Fo.app_vals, Fo.vals]
  have hb : b ∉ blk a ks.len ++ ks.inn := fun hc => hbn (hsub b hc)
  refine ⟨by rw [Fo.app_assoc]; exact h.eq, ?_, ?_, h.kept.trans (k.mono (fun c _ hc hx => hc (List.mem_cons_of_mem _ (hsub c hx)))), ?_, h.lt, h.nodup⟩
  · rw [e1, e2]
    exact h.cel.kept k (hlt b List.mem_cons_self) hb
  · rw [e1]
    refine Fo.Subs.app ?_ ⟨?_, ?_⟩
    · have h1 := h.subs.left.own
      rw [Fo.mk_inn] at h1
      refine (h1.kept k (fun c hc => ⟨fun hx => hn3 c hc c (List.mem_append.2 (.inl hx)) rfl, hlt c (List.mem_cons_of_mem _ (by rw [← e]; exact List.mem_append.2 (.inl hc)))⟩)).mono (fun c hc => by rw [← e]; exact List.mem_append.2 (.inl hc))
    · have h2 := hs.own
      rw [Fo.mks_inn] at h2
      simp only [Fo.mks, Fo.inn, List.append_nil] at h2
      exact (h2.mono (T := fun c => c ∈ F.inn) hsub).1
    · have h3 : r.Subs wr (fun c => c ∈ F.inn) := h.subs.right.2
      refine (h3.own.kept k (fun c hc => ⟨fun hx => hn6 c hx c hc rfl, hlt c (List.mem_cons_of_mem _ (by rw [← e]; exact List.mem_append.2 (.inr (List.mem_append.2 (.inr hc)))))⟩)).mono (fun c hc => by rw [← e]; exact List.mem_append.2 (.inr (List.mem_append.2 (.inr hc))))
  · intro c hc j
    by_cases hx : c ∈ blk a ks.len ++ ks.inn
    · exact hl c hx j
    · exact (k.frozen (p := ⟨c, j, none⟩) (hlt c hc) hx).trans (h.live c hc j)

theorem MkI.finish {b o k0 n cap : Nat} {F Fp : Fo} {W wr : World} (h : MkI b o F k0 W Fp .nil wr) (hn : n ≤ cap) (hc : cap ≤ maxLen) (hl : 0 < F.len) :
    Fp = F ∧ Fo.Subs wr (fun c => c < W.heap.size) (Fo.mks (.s (some ⟨b, o, none⟩) n cap F .nil) k0) ∧ Kept (fun c => c ∉ Fo.inn (.s (some ⟨b, o, none⟩) n cap F .nil)) W wr ∧ Live wr (Fo.inn (.s (some ⟨b, o, none⟩) n cap F .nil)) := by
  have e := h.eq
  rw [Fo.app_nil] at e
  subst e
  have hce := h.cel
  have hsu := h.subs
  rw [Fo.app_nil] at hce hsu
  simp only [Fo.inn, blk_pos hl, List.append_nil, List.singleton_append]
  exact ⟨trivial, ⟨⟨hn, hc, fun _ => ⟨b, o, rfl, h.lt b List.mem_cons_self, hce, hsu.mono (fun c hc => h.lt c (List.mem_cons_of_mem _ hc))⟩⟩, trivial⟩, h.kept, h.live⟩

theorem mt_size (k : Nat) (h0 : 0 < k) (hk : k ≤ 4294967296) : (mt k).size ≤ maxLen := by
  have key : ∀ (n j : Nat) (o : ByteArray), j ≤ n → (dg j o).size ≤ j + o.size := by
    intro n
    induction n with
    | zero => intro j o hj; rw [dg.eq_def, dif_pos (by omega)]; omega
    | succ n ih =>
      intro j o hj
      rw [dg.eq_def]
      split
      · omega
      · have := ih (j / 10) (⟨#[UInt8.ofNat (48 + j % 10)]⟩ ++ o) (by omega)
        rw [ByteArray.size_append] at this
        have e : (⟨#[UInt8.ofNat (48 + j % 10)]⟩ : ByteArray).size = 1 := rfl
        omega
  have h1 := key k k ⟨#[]⟩ (Nat.le_refl _)
  unfold mt
  rw [ByteArray.size_append]
  have e : (⟨#[109]⟩ : ByteArray).size = 1 := rfl
  have e2 : (⟨#[]⟩ : ByteArray).size = 0 := rfl
  unfold maxLen
  omega

/-- The laws' own functions: sizes. -/
def SzC (P : Program) (E : Nat → List Fld) (f : FuncId) (fs : List Fld) (m : Nat) : Prop := ∀ (F : Fo) (n0 : Nat) (left : Int) (W : World), F.size ≤ m → Fit E F fs → n0 ≤ W.heap.size → 0 ≤ left → left ≤ 1048576 → F.Subs W (fun c => c < n0) →
  Calls P f #[.agg F.vals.toArray, .int .i64 left] W fun e W' => e = .returned (.int .i64 (szV left F.wt)) ∧ Below W.heap.size W W'
def SzR (P : Program) (E : Nat → List Fld) (f : FuncId) (fs : List Fld) (m : Nat) : Prop := ∀ (F : Fo) (n n0 : Nat) (left : Int) (W : World) (a : Option Addr) (cap : Nat), F.size ≤ m → Fit E F (rep fs n) → n0 ≤ W.heap.size → 0 ≤ left → left ≤ 1048576 → F.Sub W (fun c => c < n0) a n cap →
  Calls P f #[.slice a n cap, .int .i64 left] W fun e W' => e = .returned (.int .i64 (szV left (n + F.wt))) ∧ Below W.heap.size W W'
/-- .. copies. -/
def ToC (P : Program) (E : Nat → List Fld) (f : FuncId) (fs : List Fld) (m : Nat) : Prop := ∀ (F : Fo) (n0 : Nat) (W : World), F.size ≤ m → Fit E F fs → n0 ≤ W.heap.size → F.wt ≤ 1048576 → F.Subs W (fun c => c < n0) →
  Calls P f #[.agg F.vals.toArray] W fun e W' => ∃ G : Fo, e = .returned (.agg G.vals.toArray) ∧ G.sim F ∧ Below W.heap.size W W' ∧ Own W.heap.size W' G
def ToR (P : Program) (E : Nat → List Fld) (f : FuncId) (fs : List Fld) (m : Nat) : Prop := ∀ (F : Fo) (n n0 : Nat) (W : World) (a : Option Addr) (cap : Nat), F.size ≤ m → Fit E F (rep fs n) → n0 ≤ W.heap.size → n + F.wt ≤ 1048576 → F.Sub W (fun c => c < n0) a n cap →
  Calls P f #[.slice a n cap] W fun e W' => ∃ (b : Nat) (G : Fo), e = .returned (.slice (some ⟨b, 0, none⟩) n n) ∧ G.sim F ∧ Below W.heap.size W W' ∧ Own W.heap.size W' (.s (some ⟨b, 0, none⟩) n n G .nil)
/-- .. sameness. -/
def EqC (P : Program) (E : Nat → List Fld) (f : FuncId) (fs : List Fld) (m : Nat) : Prop := ∀ (F G : Fo) (n0 : Nat) (W : World), F.size ≤ m → Fit E F fs → n0 ≤ W.heap.size → G.sim F → F.Subs W (fun c => c < n0) → G.Subs W (fun c => c < n0) →
  Calls P f #[.agg F.vals.toArray, .agg G.vals.toArray] W fun e W' => e = .returned (.bool true) ∧ Below W.heap.size W W'
def EqR (P : Program) (E : Nat → List Fld) (f : FuncId) (fs : List Fld) (m : Nat) : Prop := ∀ (F G : Fo) (n n0 : Nat) (W : World) (a b : Option Addr) (cap dap : Nat), F.size ≤ m → Fit E F (rep fs n) → n0 ≤ W.heap.size → G.sim F → F.Sub W (fun c => c < n0) a n cap → G.Sub W (fun c => c < n0) b n dap →
  Calls P f #[.slice a n cap, .slice b n dap] W fun e W' => e = .returned (.bool true) ∧ Below W.heap.size W W'
/-- .. marks: of what the slices hold. -/
def MkC (P : Program) (E : Nat → List Fld) (f : FuncId) (fs : List Fld) (m : Nat) : Prop := ∀ (F : Fo) (k : Nat) (W : World), F.size < m → Fit E F fs → 0 < k → k + F.sct ≤ 4294967296 → F.Subs W (fun c => c < W.heap.size) → F.inn.Nodup → Live W F.inn →
  Calls P f #[.agg F.vals.toArray, .int .i64 k] W fun e W' => e = .returned (.int .i64 ((k + F.sct : Nat) : Int)) ∧ (F.mks k).Subs W' (fun c => c < W.heap.size) ∧ Kept (fun c => c ∉ F.inn) W W' ∧ Live W' F.inn
def MkR (P : Program) (E : Nat → List Fld) (f : FuncId) (fs : List Fld) (m : Nat) : Prop := ∀ (F : Fo) (n : Nat) (a : Option Addr) (cap k : Nat) (W : World), F.size < m → Fit E F (rep fs n) → 0 < k → k + F.ct ≤ 4294967296 → Fo.Subs W (fun c => c < W.heap.size) (.s a n cap F .nil) → (Fo.inn (.s a n cap F .nil)).Nodup → Live W (Fo.inn (.s a n cap F .nil)) →
  Calls P f #[.slice a n cap, .int .i64 k] W fun e W' => e = .returned (.int .i64 ((k + F.ct : Nat) : Int)) ∧ Fo.Subs W' (fun c => c < W.heap.size) (Fo.mks (.s a n cap F .nil) k) ∧ Kept (fun c => c ∉ Fo.inn (.s a n cap F .nil)) W W' ∧ Live W' (Fo.inn (.s a n cap F .nil))
/-- .. and whether they are there still. -/
def HdC (P : Program) (E : Nat → List Fld) (f : FuncId) (fs : List Fld) (m : Nat) : Prop := ∀ (F : Fo) (n0 k : Nat) (W : World), F.size < m → Fit E F fs → n0 ≤ W.heap.size → 0 < k → k + F.sct ≤ 4294967296 → (F.mks k).Subs W (fun c => c < n0) →
  Calls P f #[.agg F.vals.toArray, .int .i64 k] W fun e W' => e = .returned (.int .i64 ((k + F.sct : Nat) : Int)) ∧ Below W.heap.size W W'
def HdR (P : Program) (E : Nat → List Fld) (f : FuncId) (fs : List Fld) (m : Nat) : Prop := ∀ (F : Fo) (n n0 : Nat) (a : Option Addr) (cap k : Nat) (W : World), F.size < m → Fit E F (rep fs n) → n0 ≤ W.heap.size → 0 < k → k + F.ct ≤ 4294967296 → (F.mk k).Sub W (fun c => c < n0) a n cap →
  Calls P f #[.slice a n cap, .int .i64 k] W fun e W' => e = .returned (.int .i64 ((k + F.ct : Nat) : Int)) ∧ Below W.heap.size W W'

end Go.Proofs.Ytmnligaelihmiaa
