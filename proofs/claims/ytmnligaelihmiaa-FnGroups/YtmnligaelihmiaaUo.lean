import Derived.Test.YtmnligaelihmiaaUn
namespace Go.Proofs.Ytmnligaelihmiaa
open Go.RowKit Go.Joins

theorem Fit.split {E : Nat → List Fld} : ∀ {F : Fo} {fs gs : List Fld}, Fit E F (fs ++ gs) → ∃ x r, F = x.app r ∧ Fit E x fs ∧ Fit E r gs ∧ x.len = fs.length := by
  intro F fs
  induction fs generalizing F with
  | nil => intro gs h; exact ⟨.nil, F, rfl, trivial, h, rfl⟩
  | cons f fs ih =>
    intro gs h
    cases f with
    | i =>
      obtain ⟨x, r, rfl, hx, hr⟩ := fit_i h
      obtain ⟨y, q, rfl, h1, h2, h3⟩ := ih hr
      exact ⟨.v (.int .i64 x) y, q, rfl, ⟨hx, h1⟩, h2, by simp only [Fo.len, h3, List.length_cons]⟩
    | u =>
      obtain ⟨x, r, rfl, hx, hr⟩ := fit_u h
      obtain ⟨y, q, rfl, h1, h2, h3⟩ := ih hr
      exact ⟨.v (.int .u32 x) y, q, rfl, ⟨hx, h1⟩, h2, by simp only [Fo.len, h3, List.length_cons]⟩
    | b =>
      obtain ⟨x, r, rfl, hr⟩ := fit_b h
      obtain ⟨y, q, rfl, h1, h2, h3⟩ := ih hr
      exact ⟨.v (.bool x) y, q, rfl, h1, h2, by simp only [Fo.len, h3, List.length_cons]⟩
    | t =>
      obtain ⟨x, r, rfl, hx, hr⟩ := fit_t h
      obtain ⟨y, q, rfl, h1, h2, h3⟩ := ih hr
      exact ⟨.v (.string x) y, q, rfl, ⟨hx, h1⟩, h2, by simp only [Fo.len, h3, List.length_cons]⟩
    | s k =>
      obtain ⟨a, n, cap, ks, r, rfl, hx, hr⟩ := fit_s h
      obtain ⟨y, q, rfl, h1, h2, h3⟩ := ih hr
      exact ⟨.s a n cap ks y, q, rfl, ⟨hx, h1⟩, h2, by simp only [Fo.len, h3, List.length_cons]⟩

theorem Fit.next {E : Nat → List Fld} {r : Fo} {fs : List Fld} {n i : Nat} (h : Fit E r (rep fs (n - i))) (hi : i < n) : ∃ x q, r = x.app q ∧ Fit E x fs ∧ Fit E q (rep fs (n - (i + 1))) ∧ x.len = fs.length := by
  have e : n - i = (n - (i + 1)) + 1 := by omega
  rw [e] at h
  exact Fit.split h

theorem Fit.done {E : Nat → List Fld} {r : Fo} {fs : List Fld} {n i : Nat} (h : Fit E r (rep fs (n - i))) (hi : ¬ i < n) : r = .nil := by
  have e : n - i = 0 := by omega
  rw [e] at h
  exact fit_nil h

theorem Fit.app {E : Nat → List Fld} : ∀ {F G : Fo} {fs gs : List Fld}, Fit E F fs → Fit E G gs → Fit E (F.app G) (fs ++ gs) := by
  intro F G fs
  induction fs generalizing F with
  | nil => intro gs h k; rw [fit_nil h]; exact k
  | cons f fs ih =>
    intro gs h k
    cases f with
    | i => obtain ⟨x, r, rfl, hx, hr⟩ := fit_i h; exact ⟨hx, ih hr k⟩
    | b => obtain ⟨x, r, rfl, hr⟩ := fit_b h; exact ih hr k
    | u => obtain ⟨x, r, rfl, hx, hr⟩ := fit_u h; exact ⟨hx, ih hr k⟩
    | t => obtain ⟨x, r, rfl, hx, hr⟩ := fit_t h; exact ⟨hx, ih hr k⟩
    | s k' => obtain ⟨a, n, cap, ks, r, rfl, hx, hr⟩ := fit_s h; exact ⟨hx, ih hr k⟩

theorem rep_snoc (fs : List Fld) : ∀ n, rep fs n ++ fs = rep fs (n + 1)
  | 0 => by simp [rep]
  | n + 1 => by rw [rep, List.append_assoc, rep_snoc fs n]; rfl

theorem rep_len (fs : List Fld) : ∀ n, (rep fs n).length = n * fs.length
  | 0 => by simp [rep]
  | n + 1 => by rw [rep, List.length_append, rep_len fs n, Nat.add_mul]; omega

theorem Fit.len {E : Nat → List Fld} : ∀ {F : Fo} {fs : List Fld}, Fit E F fs → F.len = fs.length := by
  intro F fs h
  have := Fit.split (F := F) (fs := fs) (gs := []) (by rw [List.append_nil]; exact h)
  obtain ⟨x, r, rfl, -, h2, h3⟩ := this
  rw [fit_nil h2, Fo.app_nil]
  exact h3

theorem Fo.sim.fit {E : Nat → List Fld} : ∀ {F G : Fo} {fs : List Fld}, G.sim F → Fit E F fs → Fit E G fs := by
  intro F
  induction F with
  | nil => intro G fs hs h; rw [Fo.sim_nil hs]; exact h
  | v x r ih =>
    intro G fs hs h
    obtain ⟨q, rfl, hq⟩ := Fo.sim_v hs
    cases fs with
    | nil => exact absurd (fit_nil h) (by simp)
    | cons f fs =>
      cases f with
      | i => obtain ⟨y, r', e, hy, hr⟩ := fit_i h; cases e; exact ⟨hy, ih hq hr⟩
      | b => obtain ⟨y, r', e, hr⟩ := fit_b h; cases e; exact (show Fit E q fs from ih hq hr)
      | u => obtain ⟨y, r', e, hy, hr⟩ := fit_u h; cases e; exact ⟨hy, ih hq hr⟩
      | t => obtain ⟨y, r', e, hy, hr⟩ := fit_t h; cases e; exact ⟨hy, ih hq hr⟩
      | s k => obtain ⟨a, n, cap, ks, r', e, -⟩ := fit_s h; cases e
  | s a n cap ks r ihk ih =>
    intro G fs hs h
    obtain ⟨a', cap', js, q, rfl, hj, hq⟩ := Fo.sim_s hs
    cases fs with
    | nil => exact absurd (fit_nil h) (by simp)
    | cons f fs =>
      cases f with
      | i => obtain ⟨y, r', e, -⟩ := fit_i h; cases e
      | b => obtain ⟨y, r', e, -⟩ := fit_b h; cases e
      | u => obtain ⟨y, r', e, -⟩ := fit_u h; cases e
      | t => obtain ⟨y, r', e, -⟩ := fit_t h; cases e
      | s k => obtain ⟨a1, n1, cap1, ks1, r', e, hk, hr⟩ := fit_s h; cases e; exact ⟨ihk hj hk, ih hq hr⟩

theorem Fo.size_app_lt {F x r : Fo} (h : F = x.app r) : x.size ≤ F.size ∧ r.size ≤ F.size := by rw [h, Fo.app_size]; omega

/-- The block of a row that is not empty. -/
def blk : Option Addr → Nat → List Nat
  | some a, _ + 1 => [a.block]
  | _, _ => []

theorem blk_pos {a : Addr} {n : Nat} (h : 0 < n) : blk (some a) n = [a.block] := by
  cases n with
  | zero => omega
  | succ n => rfl

theorem blk_zero (a : Option Addr) : blk a 0 = [] := by cases a <;> rfl

/-- The blocks of the rows within a row. -/
def Fo.inn : Fo → List Nat
  | .nil => []
  | .v _ r => r.inn
  | .s a _ _ ks r => (blk a ks.len ++ ks.inn) ++ r.inn

theorem Fo.inn_app : ∀ F G : Fo, (F.app G).inn = F.inn ++ G.inn
  | .nil, _ => rfl
  | .v _ r, G => by simp only [Fo.app, Fo.inn, r.inn_app]
  | .s _ _ _ _ r, G => by simp only [Fo.app, Fo.inn, r.inn_app, List.append_assoc]

theorem Fo.len_zero : ∀ {F : Fo}, ¬ 0 < F.len → F = .nil
  | .nil, _ => rfl
  | .v _ _, h => by simp [Fo.len] at h
  | .s _ _ _ _ _, h => by simp [Fo.len] at h

theorem Fo.Subs.own {W : World} {S : Nat → Prop} : ∀ {F : Fo}, F.Subs W S → F.Subs W (fun c => c ∈ F.inn)
  | .nil, _ => trivial
  | .v _ r, h => Fo.Subs.own (F := r) h
  | .s a n cap ks r, ⟨⟨h1, h2, h3⟩, h4⟩ => by
    refine ⟨⟨h1, h2, fun hl => ?_⟩, (Fo.Subs.own h4).mono (fun c hc => by simp only [Fo.inn, List.mem_append]; exact .inr hc)⟩
    obtain ⟨b, o, rfl, -, c, x⟩ := h3 hl
    exact ⟨b, o, rfl, by simp [Fo.inn, blk_pos hl], c, (Fo.Subs.own x).mono (fun c hc => by simp only [Fo.inn, List.mem_append]; exact .inl (.inr hc))⟩

/-- All blocks of a row lie where S says. -/
theorem Fo.Subs.inn_of {W : World} {S : Nat → Prop} : ∀ {F : Fo}, F.Subs W S → ∀ c, c ∈ F.inn → S c
  | .nil, _, c, hc => by simp [Fo.inn] at hc
  | .v _ r, h, c, hc => Fo.Subs.inn_of (F := r) h c hc
  | .s a n cap ks r, ⟨⟨h1, h2, h3⟩, h4⟩, c, hc => by
    simp only [Fo.inn, List.mem_append] at hc
    by_cases hl : 0 < ks.len
    · obtain ⟨b, o, rfl, s, -, x⟩ := h3 hl
      rcases hc with (hc | hc) | hc
      · rw [blk_pos hl] at hc
        simp at hc
        rw [hc]
        exact s
      · exact Fo.Subs.inn_of x c hc
      · exact Fo.Subs.inn_of h4 c hc
    · rw [Fo.len_zero hl] at hc
      simp only [Fo.len, blk_zero, Fo.inn, List.not_mem_nil, false_or] at hc
      exact Fo.Subs.inn_of h4 c hc

/-- Blocks that may be written. -/
def Live (W : World) (L : List Nat) : Prop := ∀ c, c ∈ L → ∀ j, W.frozen? ⟨c, j, none⟩ = false

theorem Live.kept {A B : World} {L : List Nat} {S : Nat → Prop} (h : Live A L) (k : Kept S A B) (hS : ∀ c, c ∈ L → S c ∧ c < A.heap.size) : Live B L := fun c hc j =>
  (k.frozen (p := ⟨c, j, none⟩) (hS c hc).2 (hS c hc).1).trans (h c hc j)

theorem Live.below {A B : World} {L : List Nat} {n : Nat} (h : Live A L) (k : Below n A B) (hS : ∀ c, c ∈ L → c < n) : Live B L := fun c hc j =>
  (k.frozen (p := ⟨c, j, none⟩) (hS c hc)).trans (h c hc j)

theorem Live.sub {A : World} {L M : List Nat} (h : Live A L) (hs : ∀ c, c ∈ M → c ∈ L) : Live A M := fun c hc j => h c (hs c hc) j

theorem Live.set {A : World} {L : List Nat} (h : Live A L) (p : Addr) (v : Value) : Live (A.setCell p v) L := fun c hc j => by
  rw [World.frozen?_setCell]; exact h c hc j

theorem Live.app {A : World} {L M : List Nat} (h : Live A L) (k : Live A M) : Live A (L ++ M) := fun c hc j => by
  rcases List.mem_append.1 hc with x | x
  · exact h c x j
  · exact k c x j

/-- What is held lies in blocks of its own, from lo on. -/
structure Own (lo : Nat) (W : World) (F : Fo) : Prop where
  subs : F.Subs W (fun c => lo ≤ c ∧ c < W.heap.size)
  nodup : F.inn.Nodup
  live : Live W F.inn

theorem Own.nil (lo : Nat) (W : World) : Own lo W .nil := ⟨trivial, List.nodup_nil, fun c hc => by simp [Fo.inn] at hc⟩
theorem Own.v {lo : Nat} {W : World} {F : Fo} (x : Value) (h : Own lo W F) : Own lo W (.v x F) := ⟨h.subs, h.nodup, h.live⟩

theorem Own.kept {lo : Nat} {A B : World} {S : Nat → Prop} {F : Fo} (h : Own lo A F) (k : Kept S A B) (hS : ∀ c, lo ≤ c → c < A.heap.size → S c) : Own lo B F :=
  ⟨(h.subs.kept k (fun c x => ⟨hS c x.1 x.2, x.2⟩)).mono (fun _ x => ⟨x.1, Nat.lt_of_lt_of_le x.2 k.size⟩), h.nodup, h.live.kept k (fun c hc => have x := h.subs.inn_of c hc; ⟨hS c x.1 x.2, x.2⟩)⟩

theorem Own.below {lo : Nat} {A B : World} {F : Fo} (h : Own lo A F) (k : Below A.heap.size A B) : Own lo B F := h.kept (kt (S := fun _ => True) k) (fun _ _ _ => trivial)

theorem Own.mono {lo lo' : Nat} {A : World} {F : Fo} (h : Own lo A F) (hl : lo' ≤ lo) : Own lo' A F := ⟨h.subs.mono (fun _ x => ⟨Nat.le_trans hl x.1, x.2⟩), h.nodup, h.live⟩

theorem Own.app {lo : Nat} {A B : World} {F G : Fo} (h : Own lo A F) (k : Below A.heap.size A B) (hlo : lo ≤ A.heap.size) (g : Own A.heap.size B G) : Own lo B (F.app G) := by
  have h' := h.below k
  refine ⟨h'.subs.app (g.mono hlo).subs, ?_, by rw [Fo.inn_app]; exact h'.live.app g.live⟩
  rw [Fo.inn_app, List.nodup_append]
  refine ⟨h.nodup, g.nodup, fun x hx y hy e => ?_⟩
  subst e
  have h1 := (h.subs.inn_of x hx).2
  have h2 := (g.subs.inn_of x hy).1
  omega

theorem Own.appk {lo : Nat} {A B : World} {S : Nat → Prop} {F G : Fo} (h : Own lo A F) (k : Kept S A B) (hS : ∀ c, lo ≤ c → c < A.heap.size → S c) (hlo : lo ≤ A.heap.size) (g : Own A.heap.size B G) : Own lo B (F.app G) := by
  have h' := h.kept k hS
  refine ⟨h'.subs.app (g.mono hlo).subs, ?_, by rw [Fo.inn_app]; exact h'.live.app g.live⟩
  rw [Fo.inn_app, List.nodup_append]
  refine ⟨h.nodup, g.nodup, fun x hx y hy e => ?_⟩
  subst e
  have h1 := (h.subs.inn_of x hx).2
  have h2 := (g.subs.inn_of x hy).1
  omega

theorem Own.cons {lo : Nat} {A B : World} {a : Option Addr} {n cap : Nat} {ks G : Fo} (h : Own lo A (.s a n cap ks .nil)) (k : Below A.heap.size A B) (hlo : lo ≤ A.heap.size) (g : Own A.heap.size B G) : Own lo B (.s a n cap ks G) := h.app k hlo g

/-- The digits of a number ahead of a text. -/
def dg (k : Nat) (o : ByteArray) : ByteArray := if _h : k = 0 then o else dg (k / 10) (⟨#[UInt8.ofNat (48 + k % 10)]⟩ ++ o)
termination_by k
decreasing_by omega
def mt (k : Nat) : ByteArray := ⟨#[109]⟩ ++ dg k ⟨#[]⟩

/-- A cell's mark. -/
def mkV : Value → Nat → Value
  | .int t _, k => .int t (k : Int)
  | .string _, k => .string (mt k)
  | .bool _, k => .bool (decide (k % 3 = 0))
  | x, _ => x

/-- A row marked, from k on. -/
def Fo.mk : Fo → Nat → Fo
  | .nil, _ => .nil
  | .v x r, k => .v (mkV x k) (r.mk (k + 1))
  | .s a n cap ks r, k => .s a n cap (ks.mk k) (r.mk (k + ks.ct))

/-- What slices hold, marked. -/
def Fo.mks : Fo → Nat → Fo
  | .nil, _ => .nil
  | .v x r, k => .v x (r.mks k)
  | .s a n cap ks r, k => .s a n cap (ks.mk k) (r.mks (k + ks.ct))

theorem Fo.mk_len : ∀ (F : Fo) (k : Nat), (F.mk k).len = F.len
  | .nil, _ => rfl
  | .v _ r, k => by simp only [Fo.mk, Fo.len, r.mk_len]
  | .s _ _ _ _ r, k => by simp only [Fo.mk, Fo.len, r.mk_len]

theorem Fo.mk_app : ∀ (F G : Fo) (k : Nat), (F.app G).mk k = (F.mk k).app (G.mk (k + F.ct))
  | .nil, _, _ => rfl
  | .v _ r, G, k => by
    simp only [Fo.app, Fo.mk, Fo.ct, r.mk_app]
    congr 3
    omega
  | .s _ _ _ ks r, G, k => by
    simp only [Fo.app, Fo.mk, Fo.ct, r.mk_app]
    congr 3
    omega

theorem Fo.mk_inn : ∀ (F : Fo) (k : Nat), (F.mk k).inn = F.inn
  | .nil, _ => rfl
  | .v _ r, k => by simp only [Fo.mk, Fo.inn, r.mk_inn]
  | .s _ _ _ ks r, k => by simp only [Fo.mk, Fo.inn, ks.mk_inn, r.mk_inn, ks.mk_len]

theorem Fo.mks_inn : ∀ (F : Fo) (k : Nat), (F.mks k).inn = F.inn
  | .nil, _ => rfl
  | .v _ r, k => by simp only [Fo.mks, Fo.inn, r.mks_inn]
  | .s _ _ _ ks r, k => by simp only [Fo.mks, Fo.inn, ks.mk_inn, r.mks_inn, ks.mk_len]

end Go.Proofs.Ytmnligaelihmiaa
