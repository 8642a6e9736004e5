import Derived.Test.YtjlefdalobgdfaaNodes
namespace Go.Proofs.Ytjlefdalobgdfaa
open Go.RowKit Go.Shelf Go.Joins

attribute [local go_sem] Oper.semAt_some

/-- A variable of one cell, of the caller's own. -/
def Hold (w : World) (c : Nat) (v : Value) (O : Nat → Prop) (W : World) : Prop :=
  W.cell? ⟨c, 0, none⟩ = some v ∧ W.frozen? ⟨c, 0, none⟩ = false ∧ ¬ O c ∧ Below w.heap.size w W ∧ ∀ b, O b → w.heap.size ≤ b

theorem Hold.abid {w : World} {c : Nat} {O O' : Nat → Prop} {A B : World} {v : Value} (h : Hold w c v O A) (hK : Kept (fun b => ¬ O b) A B) (hn : ∀ b, O' b → O b ∨ A.heap.size ≤ b) : Hold w c v O' B := by
  obtain ⟨h1, h2, h3, h4, h5⟩ := h
  have hl : c < A.heap.size := block_lt_of_cell h1
  refine ⟨(hK.cell (p := ⟨c, 0, none⟩) hl h3).trans h1, (hK.frozen (p := ⟨c, 0, none⟩) hl h3).trans h2, fun x => ?_, Below.kept h4 hK (fun b hb x => ?_) (Nat.le_refl _), fun b x => ?_⟩
  · rcases hn c x with y | y
    · exact h3 y
    · omega
  · have := h5 b x; omega
  · rcases hn b x with y | y
    · exact h5 b y
    · have := h4.size; omega

theorem Hold.set {w : World} {c : Nat} {O : Nat → Prop} {A : World} {v : Value} (h : Hold w c v O A) (u : Value) (hc : w.heap.size ≤ c) : Hold w c u O (A.setCell ⟨c, 0, none⟩ u) :=
  ⟨World.cell?_setCell_same' _ _ _ (by rw [h.1]; rfl), by rw [World.frozen?_setCell]; exact h.2.1, h.2.2.1, h.2.2.2.1.setCell hc _, h.2.2.2.2⟩

theorem Hold.other {w : World} {c d : Nat} {O : Nat → Prop} {A : World} {v : Value} (h : Hold w c v O A) (u : Value) (hd : w.heap.size ≤ d) (hcd : c ≠ d) : Hold w c v O (A.setCell ⟨d, 0, none⟩ u) :=
  ⟨(World.cell?_setCell_other _ _ _ _ (by simp)).trans h.1, by rw [World.frozen?_setCell]; exact h.2.1, h.2.2.1, h.2.2.2.1.setCell hd _, h.2.2.2.2⟩

theorem Hold.next {w : World} {c : Nat} {O : Nat → Prop} {A B : World} {v : Value} (h : Hold w c v O A) (k : Below A.heap.size A B) : Hold w c v O B := by
  obtain ⟨h1, h2, h3, h4, h5⟩ := h
  have hl : c < A.heap.size := block_lt_of_cell h1
  exact ⟨(k.cell (p := ⟨c, 0, none⟩) hl).trans h1, (k.frozen (p := ⟨c, 0, none⟩) hl).trans h2, h3, h4.trans (k.mono h4.size), h5⟩

/-- A type of a row, with how deep it stands. -/
structure El where
  d : Nat
  k : Int
  ix : Int
  nm : ByteArray
  a : Option Addr
  len : Nat
  cap : Nat

def El.v (x : El) : Value := nodeV x.k x.ix x.nm x.a x.len x.cap

def Fo.els : Fo → Nat → List El
  | .nil, _ => []
  | .cons k ix nm a cap ks r, d => ⟨d, k, ix, nm, a, ks.len, cap⟩ :: (ks.els (d + 1) ++ r.els d)

theorem Fo.els_pre : ∀ (F : Fo) (d : Nat), F.pre d = (F.els d).map (fun x => (x.d, x.v))
  | .nil, _ => rfl
  | .cons k ix nm a cap ks r, d => by simp only [Fo.pre, Fo.els, List.map_cons, List.map_append, ks.els_pre, r.els_pre]; rfl

theorem Fo.els_length (F : Fo) (d : Nat) : (F.els d).length = F.size := by
  have := F.pre_length d
  rw [F.els_pre, List.length_map] at this
  exact this

def El.ok (x : El) : Prop := x.d ≤ 200 ∧ okT x.k x.ix x.nm x.len

theorem Fo.good_els : ∀ (F : Fo) (d : Nat), F.good d ↔ ∀ x, x ∈ F.els d → x.ok
  | .nil, _ => ⟨fun _ x hx => absurd hx (by simp [Fo.els]), fun _ => trivial⟩
  | .cons k ix nm a cap ks r, d => by
    simp only [Fo.good, Fo.els, List.mem_cons, List.mem_append, ks.good_els, r.good_els]
    constructor
    · rintro ⟨h1, h2, h3, h4⟩ x (rfl | hx | hx)
      · exact ⟨h1, h2⟩
      · exact h3 x hx
      · exact h4 x hx
    · intro h
      exact ⟨(h _ (.inl rfl)).1, (h _ (.inl rfl)).2, fun x hx => h x (.inr (.inl hx)), fun x hx => h x (.inr (.inr hx))⟩

theorem Fo.sim.good : ∀ {F G : Fo}, F.sim G → ∀ d, F.good d → G.good d
  | .nil, .nil, _, _, _ => trivial
  | .cons _ _ _ _ _ _ _, .cons _ _ _ _ _ _ _, ⟨a, z, b, c, e⟩, d, ⟨h1, h2, h3, h4⟩ => by subst a z b; exact ⟨h1, by rw [← c.len]; exact h2, c.good _ h3, e.good _ h4⟩
  | .nil, .cons _ _ _ _ _ _ _, h, _, _ => h.elim
  | .cons _ _ _ _ _ _ _, .nil, h, _, _ => h.elim

/-- The whole type has no fault. -/
def TG (k ix : Int) (nm : ByteArray) (ks : Fo) : Prop := (Fo.cons k ix nm none 0 ks .nil).good 1 ∧ 1 + ks.size ≤ 20000

theorem TG.sim {k ix : Int} {nm : ByteArray} {F G : Fo} (h : F.sim G) (t : TG k ix nm F) : TG k ix nm G :=
  ⟨⟨t.1.1, by rw [← h.len]; exact t.1.2.1, h.good _ t.1.2.2.1, trivial⟩, by rw [← h.size]; exact t.2⟩

set_option maxHeartbeats 1000000 in
set_option maxRecDepth 100000 in
theorem sound_any (k ix : Int) (nm : ByteArray) (a : Option Addr) (len cap : Nat) (w : World) :
    Calls Try.prog 76 #[.agg #[.int .i64 k, .int .i64 ix, .string nm, .slice a len cap]] w fun e w' => (okT k ix nm len → e = .returned (.bool true)) ∧ (¬ okT k ix nm len → e = .returned (.bool false)) ∧ Below w.heap.size w w' := by
  have hb := below_alloc1 w (.cells #[.int .i64 k, .int .i64 ix, .string nm, .slice a len cap] 29)
  by_cases hk12 : k = 1 ∨ k = 2
  · by_cases hix : 0 ≤ ix
    · by_cases hnm : nm.toList = []
      · by_cases hln : len = 0
        · have hyes : okT k ix nm len := .inl ⟨hk12, hix, hnm, hln⟩
          have HY := hide hyes
          clear hyes
          subst hln
          rcases hk12 with rfl | rfl
          all_goals
            go_enter Try.func76, Try.ntmps76
            go_wp2_with fail
            go_ret
            exact ⟨fun _ => rfl, fun h => absurd HY.out h, hb⟩
        · have hno : ¬ okT k ix nm len := by rintro (⟨_, _, _, h⟩ | ⟨h, _⟩) <;> omega
          have HN := hide hno
          clear hno
          have hlb : ((len : Int) == 0) = false := by simp; omega
          rcases hk12 with rfl | rfl
          all_goals
            go_enter Try.func76, Try.ntmps76
            go_wp2_with fail
            go_ret
            exact ⟨fun h => absurd h HN.out, fun _ => rfl, hb⟩
      · have hno : ¬ okT k ix nm len := by rintro (⟨_, _, h, _⟩ | ⟨h, _⟩); exact hnm h; omega
        have HN := hide hno
        clear hno
        have hnb : (nm.toList == []) = false := by simpa using hnm
        rcases hk12 with rfl | rfl
        all_goals
          go_enter Try.func76, Try.ntmps76
          go_wp2_with fail
          go_ret
          exact ⟨fun h => absurd h HN.out, fun _ => rfl, hb⟩
    · have hno : ¬ okT k ix nm len := by rintro (⟨_, h, _⟩ | ⟨h, _⟩) <;> omega
      have HN := hide hno
      clear hno
      rcases hk12 with rfl | rfl
      all_goals
        go_enter Try.func76, Try.ntmps76
        go_wp2_with fail
        go_ret
        exact ⟨fun h => absurd h HN.out, fun _ => rfl, hb⟩
  have hk1 : ¬ k = 1 := fun h => hk12 (.inl h)
  have hk2 : ¬ k = 2 := fun h => hk12 (.inr h)
  by_cases hk3 : k = 3
  · by_cases hix : ix = 0
    · by_cases hnm : nm.toList = []
      · have hno : ¬ okT k ix nm len := by rintro (⟨h, _⟩ | ⟨_, _, h⟩); omega; exact h hnm
        have HN := hide hno
        clear hno hk1 hk2 hk12
        subst hk3 hix
        go_enter Try.func76, Try.ntmps76
        go_wp2_with fail
        go_ret
        exact ⟨fun h => absurd h HN.out, fun _ => rfl, hb⟩
      · have hyes : okT k ix nm len := .inr ⟨hk3, hix, hnm⟩
        have HY := hide hyes
        clear hyes hk1 hk2 hk12
        have hnb : nm.toList.isEmpty = false := by simpa using hnm
        subst hk3 hix
        go_enter Try.func76, Try.ntmps76
        go_wp2_with fail
        go_ret
        exact ⟨fun _ => rfl, fun h => absurd HY.out h, hb⟩
    · have hno : ¬ okT k ix nm len := by rintro (⟨h, _⟩ | ⟨_, h, _⟩) <;> omega
      have HN := hide hno
      clear hno hk1 hk2 hk12
      subst hk3
      go_enter Try.func76, Try.ntmps76
      go_wp2_with fail
      go_ret
      exact ⟨fun h => absurd h HN.out, fun _ => rfl, hb⟩
  · have hno : ¬ okT k ix nm len := by rintro (⟨h, _⟩ | ⟨h, _⟩) <;> omega
    have HN := hide hno
    clear hno hk12
    go_enter Try.func76, Try.ntmps76
    go_wp2_with fail
    go_ret
    exact ⟨fun h => absurd h HN.out, fun _ => rfl, hb⟩

set_option maxHeartbeats 1000000 in
theorem partsOf_in (F : Fence) (n : Nat) (h77 : F.fn 77) (hro : F.round = none) (k ix : Int) (nm : ByteArray) (a : Option Addr) (len cap : Nat) (w : World) :
    CallsIn F n Try.prog 77 #[.agg #[.int .i64 k, .int .i64 ix, .string nm, .slice a len cap], .func (.func 78) #[] #[]] w fun e w' => e = .returned (.func (.func 84) #[] #[.pointer (some ⟨w.heap.size, 0, none⟩), .pointer (some ⟨w.heap.size + 1, 0, none⟩)]) ∧
      w' = (w.alloc (.cells #[.int .i64 k, .int .i64 ix, .string nm, .slice a len cap] 29)).alloc (.cells #[.func (.func 78) #[] #[]] 128) := by
  refine callsIn_of_wp Try.func77 rfl h77 ?_ hro
  simp only [Try.ntmps77, List.size_toArray, List.length_cons, List.length_nil, Nat.reduceAdd, Nat.reduceSub, Array.replicate_succ, Array.replicate_zero, List.push_toArray, List.append_toArray, List.nil_append, List.cons_append]
  gi_wp2_with fail
  exact bodyPost_ret (results_tmp rfl _ _ _) rfl ⟨rfl, rfl⟩

set_option maxHeartbeats 1000000 in
theorem typesOf_in (F : Fence) (n : Nat) (h50 : F.fn 50) (h77 : F.fn 77) (hro : F.round = none) (hn : 1 ≤ n) (k ix : Int) (nm : ByteArray) (a : Option Addr) (len cap : Nat) (w : World) :
    CallsIn F n Try.prog 50 #[.agg #[.int .i64 k, .int .i64 ix, .string nm, .slice a len cap]] w fun e w' => e = .returned (.func (.func 84) #[] #[.pointer (some ⟨w.heap.size + 1, 0, none⟩), .pointer (some ⟨w.heap.size + 1 + 1, 0, none⟩)]) ∧
      w' = ((w.alloc (.cells #[.int .i64 k, .int .i64 ix, .string nm, .slice a len cap] 29)).alloc (.cells #[.int .i64 k, .int .i64 ix, .string nm, .slice a len cap] 29)).alloc (.cells #[.func (.func 78) #[] #[]] 128) := by
  refine callsIn_of_wp Try.func50 rfl h50 ?_ hro
  simp only [Try.ntmps50, List.size_toArray, List.length_cons, List.length_nil, Nat.reduceAdd, Nat.reduceSub, Array.replicate_succ, Array.replicate_zero, List.push_toArray, List.append_toArray, List.nil_append, List.cons_append]
  gi_wp2_with (gi_at_call 77; refine (partsOf_in F (n - 1) h77 hro _ _ _ _ _ _ _).mono ?_; rintro e w' ⟨rfl, rfl⟩)
  exact bodyPost_ret (results_tmp rfl _ _ _) rfl ⟨by simp, rfl⟩

end Go.Proofs.Ytjlefdalobgdfaa
