import Derived.Test.YtcnokpaicnjkfaaJP
import Derived.Test.YtcnokpaicnjkfaaUv
namespace Go.Proofs.Ytcnokpaicnjkfaa.F
open Go.RowKit Go.Joins

/-- What the book's map has. -/
def kvF : List ByteArray → Nat → List (ByteArray × Value)
  | [], _ => []
  | t :: r, n => (t, .int .i64 (n : Int)) :: kvF r (n + 1)

theorem kv_none {x : ByteArray} : ∀ (T : List ByteArray) (n : Nat), ¬ x ∈ T → getK x (kvF T n) = none
  | [], _, _ => rfl
  | t :: r, n, h => by
    have h1 : ¬ t = x := fun e => h (by rw [e]; exact List.mem_cons_self)
    simp only [kvF, getK, if_neg h1]
    exact kv_none r (n + 1) (fun e => h (List.mem_cons_of_mem _ e))

theorem kv_some {x : ByteArray} : ∀ (T : List ByteArray) (n i : Nat), T.Nodup → T[i]? = some x → getK x (kvF T n) = some (.int .i64 ((n + i : Nat) : Int))
  | [], _, _, _, h => by simp at h
  | t :: r, n, 0, _, h => by
    have e : t = x := by simpa using h
    simp only [kvF, getK, if_pos e, Nat.add_zero]
  | t :: r, n, i + 1, hd, h => by
    have h2 : r[i]? = some x := by simpa using h
    have h1 : ¬ t = x := fun e => (List.nodup_cons.1 hd).1 (by rw [e]; exact List.mem_of_getElem? h2)
    simp only [kvF, getK, if_neg h1]
    rw [kv_some r (n + 1) i (List.nodup_cons.1 hd).2 h2, show n + 1 + i = n + (i + 1) from by omega]

theorem kv_app (x : ByteArray) : ∀ (T : List ByteArray) (n : Nat), kvF (T ++ [x]) n = kvF T n ++ [(x, .int .i64 ((n + T.length : Nat) : Int))]
  | [], n => rfl
  | t :: r, n => by
    simp only [List.cons_append, kvF, List.length_cons]
    rw [kv_app x r (n + 1), show n + 1 + r.length = n + (r.length + 1) from by omega]

/-- Cell j of block b has a row of our own. -/
def OR (w : World) (B0 b j : Nat) (e : TypeId) (xs : List Value) (g : Option Nat) : Prop :=
  ∃ a c, w.cell? ⟨b, j, none⟩ = some (.slice a xs.length c) ∧ w.ownsRow B0 e 1 (.slice a xs.length c) xs.length xs ∧ (Value.slice a xs.length c).ownBlock = g

theorem OR.lt {w : World} {B0 b j : Nat} {e : TypeId} {xs : List Value} {g : Option Nat} (h : OR w B0 b j e xs g) : b < w.heap.size := by
  obtain ⟨a, c, h1, -, -⟩ := h
  exact block_lt_of_cell h1

theorem OR.bl {w : World} {B0 b j : Nat} {e : TypeId} {xs : List Value} {g : Option Nat} (h : OR w B0 b j e xs g) (c : Nat) (hc : g = some c) : B0 ≤ c ∧ c < w.heap.size := by
  obtain ⟨a, c1, -, h2, h3⟩ := h
  rcases h2.2 with ⟨e1, -⟩ | ⟨q, cap, cur, e1, hb, hg, -⟩
  · rw [e1] at h3
    rw [hc] at h3
    cases h3
  · rw [e1, hc] at h3
    have e2 : q = c := Option.some.inj h3
    rw [← e2]
    exact ⟨hb, (Array.getElem?_eq_some_iff.1 hg).1⟩

theorem OR.keep {w w' : World} {B0 b j : Nat} {e : TypeId} {xs : List Value} {g : Option Nat} {S : Nat → Prop} (h : OR w B0 b j e xs g) (k : Kept S w w') (hc : w'.cell? ⟨b, j, none⟩ = w.cell? ⟨b, j, none⟩) (hg : ∀ c, g = some c → S c) : OR w' B0 b j e xs g := by
  obtain ⟨a, c, h1, h2, h3⟩ := h
  exact ⟨a, c, hc.trans h1, ownsRow_kept h2 k (fun q hq => hg q (h3.symm.trans hq)), h3⟩

/-- One thing more in a row. -/
structure GP (w W' : World) (B0 b j : Nat) (e : TypeId) (xs : List Value) (y : Value) (g : Option Nat) (g7 : Nat) : Prop where
  row : OR W' B0 b j e (xs ++ [y]) (some g7)
  kept : Kept (fun c => c ≠ b ∧ g ≠ some c) w W'
  cell : ∀ k, k ≠ j → W'.cell? ⟨b, k, none⟩ = w.cell? ⟨b, k, none⟩
  froz : ∀ k, W'.frozen? ⟨b, k, none⟩ = w.frozen? ⟨b, k, none⟩
  at_ : g = some g7 ∨ w.heap.size ≤ g7

theorem or_grow {w : World} {B0 b j : Nat} {e : TypeId} {xs : List Value} {g : Option Nat} (h : OR w B0 b j e xs g) (hg : g ≠ some b) (y : Value) :
    ∃ a c, w.cell? ⟨b, j, none⟩ = some (.slice a xs.length c) ∧ (w.alloc (.cells #[y] e)).ownsRow B0 e 1 (.slice a xs.length c) xs.length xs ∧
      ∀ g7 cap w3, w3.ownsRow B0 e 1 (.slice (some ⟨g7, 0, none⟩) (xs.length + 1) cap) (xs.length + 1) (xs ++ [y]) → (w.alloc (.cells #[y] e)).grownBy w3 (Value.slice a xs.length c).ownBlock → ((Value.slice a xs.length c).ownBlock = some g7 ∨ g7 = (w.alloc (.cells #[y] e)).heap.size) →
        (w3.cell? ⟨b, j, none⟩ = some (.slice a xs.length c) ∧ w3.frozen? ⟨b, j, none⟩ = w.frozen? ⟨b, j, none⟩) ∧ GP w (w3.setCell ⟨b, j, none⟩ (.slice (some ⟨g7, 0, none⟩) (xs.length + 1) cap)) B0 b j e xs y g g7 := by
  have hl := h.lt
  obtain ⟨a, c, h1, h2, h3⟩ := h
  refine ⟨a, c, h1, ownsRow_kept h2 (Kept.alloc (fun _ => True) _ _) (fun _ _ => trivial), fun g7 cap w3 hO hG hat => ?_⟩
  rw [h3] at hG hat
  have ka : Kept (fun c => g ≠ some c) w w3 := (Kept.alloc _ _ _).trans (Kept.grown hG (fun c hc hx => hx hc))
  have hz : (w.alloc (.cells #[y] e)).heap.size = w.heap.size + 1 := by simp
  have hat' : g = some g7 ∨ w.heap.size ≤ g7 := by
    rcases hat with e | e
    · exact .inl e
    · exact .inr (by omega)
  have hne : b ≠ g7 := by
    rcases hat' with e | e
    · exact fun e2 => hg (by rw [e, e2])
    · omega
  have ks : Kept (fun c => c ≠ b) w3 (w3.setCell ⟨b, j, none⟩ (.slice (some ⟨g7, 0, none⟩) (xs.length + 1) cap)) := Kept.setCell _ _ _ _ (fun hx => hx rfl)
  have hcj : w3.cell? ⟨b, j, none⟩ = some (.slice a xs.length c) := (ka.cell (p := ⟨b, j, none⟩) hl hg).trans h1
  refine ⟨⟨hcj, ka.frozen (p := ⟨b, j, none⟩) hl hg⟩, ?_, (ka.mono (fun _ _ h => h.2)).trans (ks.mono (fun _ _ h => h.1)), fun k hk => ?_, fun k => ?_, hat'⟩
  · have e : (xs ++ [y]).length = xs.length + 1 := by simp
    refine ⟨some ⟨g7, 0, none⟩, cap, ?_, ?_, rfl⟩
    · rw [e]
      exact World.cell?_setCell_same _ _ _ hcj
    · rw [e]
      exact ownsRow_kept hO ks (fun q hq => by have e9 : g7 = q := Option.some.inj hq; rw [← e9]; exact fun e => hne e.symm)
  · rw [World.cell?_setCell_other _ _ _ _ (by simp)]
    exact ka.cell (p := ⟨b, k, none⟩) hl hg
  · rw [World.frozen?_setCell]
    exact ka.frozen (p := ⟨b, k, none⟩) hl hg

/-- The blocks of a book. -/
def OwnB (b M : Nat) (g1 g2 g3 : Option Nat) (c : Nat) : Prop := c = b ∨ c = M ∨ g1 = some c ∨ g2 = some c ∨ g3 = some c

structure Apart (b M : Nat) (g1 g2 g3 : Option Nat) : Prop where
  bM : b ≠ M
  b1 : g1 ≠ some b
  b2 : g2 ≠ some b
  b3 : g3 ≠ some b
  m1 : g1 ≠ some M
  m2 : g2 ≠ some M
  m3 : g3 ≠ some M
  g12 : ∀ c, g1 = some c → g2 ≠ some c
  g13 : ∀ c, g1 = some c → g3 ≠ some c
  g23 : ∀ c, g2 = some c → g3 ≠ some c

/-- A book in memory: a map and three rows. -/
structure NX (w : World) (B0 b M : Nat) (g1 g2 g3 : Option Nat) (kv : List (ByteArray × Value)) (X1 X2 X3 : List Value) : Prop where
  c0 : w.cell? ⟨b, 0, none⟩ = some (.map (some M))
  map : MS w M kv
  r1 : OR w B0 b 1 9 X1 g1
  r2 : OR w B0 b 2 3 X2 g2
  r3 : OR w B0 b 3 3 X3 g3
  fz : ∀ j, w.frozen? ⟨b, j, none⟩ = false
  ap : Apart b M g1 g2 g3
  lo : ∀ c, OwnB b M g1 g2 g3 c → B0 ≤ c ∧ c < w.heap.size

theorem NX.kept {w w' : World} {B0 b M : Nat} {g1 g2 g3 : Option Nat} {kv : List (ByteArray × Value)} {X1 X2 X3 : List Value} {S : Nat → Prop} (h : NX w B0 b M g1 g2 g3 kv X1 X2 X3) (k : Kept S w w') (hS : ∀ c, OwnB b M g1 g2 g3 c → S c) : NX w' B0 b M g1 g2 g3 kv X1 X2 X3 := by
  have hb := (h.lo b (.inl rfl)).2
  have sb : S b := hS b (.inl rfl)
  have hc : ∀ j, w'.cell? ⟨b, j, none⟩ = w.cell? ⟨b, j, none⟩ := fun j => k.cell (p := ⟨b, j, none⟩) hb sb
  exact ⟨(hc 0).trans h.c0, h.map.kept k (hS M (.inr (.inl rfl))), h.r1.keep k (hc 1) (fun c e => hS c (.inr (.inr (.inl e)))), h.r2.keep k (hc 2) (fun c e => hS c (.inr (.inr (.inr (.inl e))))), h.r3.keep k (hc 3) (fun c e => hS c (.inr (.inr (.inr (.inr e))))), fun j => (k.frozen (p := ⟨b, j, none⟩) hb sb).trans (h.fz j), h.ap, fun c hcc => ⟨(h.lo c hcc).1, Nat.lt_of_lt_of_le (h.lo c hcc).2 k.size⟩⟩

/-- What a change of a book leaves. -/
structure Ch (w W' : World) (b M : Nat) (g1 g2 g3 h1 h2 h3 : Option Nat) : Prop where
  kept : Kept (fun c => ¬ OwnB b M g1 g2 g3 c) w W'
  new : ∀ c, OwnB b M h1 h2 h3 c → OwnB b M g1 g2 g3 c ∨ w.heap.size ≤ c

theorem Ch.refl (w : World) (b M : Nat) (g1 g2 g3 : Option Nat) : Ch w w b M g1 g2 g3 g1 g2 g3 := ⟨Kept.refl _ _, fun _ h => .inl h⟩

theorem Ch.of_below {w w' : World} (h : Below w.heap.size w w') (b M : Nat) (g1 g2 g3 : Option Nat) : Ch w w' b M g1 g2 g3 g1 g2 g3 := ⟨kt h, fun _ h => .inl h⟩

theorem Ch.trans {w v u : World} {b M : Nat} {g1 g2 g3 h1 h2 h3 i1 i2 i3 : Option Nat} (h : Ch w v b M g1 g2 g3 h1 h2 h3) (k : Ch v u b M h1 h2 h3 i1 i2 i3) : Ch w u b M g1 g2 g3 i1 i2 i3 := by
  refine ⟨?_, fun c hc => ?_⟩
  · refine ⟨k.kept.1.trans h.kept.1, k.kept.2.trans h.kept.2, k.kept.3.trans h.kept.3, Nat.le_trans h.kept.size k.kept.size, fun c hc hn => ?_⟩
    have h1 := h.kept.block c hc hn
    rw [← h1]
    refine k.kept.block c (Nat.lt_of_lt_of_le hc h.kept.size) (fun hx => ?_)
    rcases h.new c hx with e | e
    · exact hn e
    · omega
  · rcases k.new c hc with e | e
    · exact h.new c e
    · exact .inr (Nat.le_trans h.kept.size e)

theorem NX.grow1 {w W' : World} {B0 b M g7 : Nat} {g1 g2 g3 : Option Nat} {kv : List (ByteArray × Value)} {X1 X2 X3 : List Value} {y : Value} (h : NX w B0 b M g1 g2 g3 kv X1 X2 X3) (p : GP w W' B0 b 1 9 X1 y g1 g7) : NX W' B0 b M (some g7) g2 g3 kv (X1 ++ [y]) X2 X3 ∧ Ch w W' b M g1 g2 g3 (some g7) g2 g3 := by
  have a := h.ap
  have lM := (h.lo M (.inr (.inl rfl))).2
  have lb := (h.lo b (.inl rfl)).2
  have hz := p.kept.size
  have q7 := p.row.bl g7 rfl
  have l1 : ∀ c, g1 = some c → c < w.heap.size := fun c e => (h.r1.bl c e).2
  have l2 : ∀ c, g2 = some c → c < w.heap.size := fun c e => (h.r2.bl c e).2
  have l3 : ∀ c, g3 = some c → c < w.heap.size := fun c e => (h.r3.bl c e).2
  have nb : g7 ≠ b := by
    rcases p.at_ with e | e
    · exact fun e2 => a.b1 (by rw [e, e2])
    · omega
  have nM : g7 ≠ M := by
    rcases p.at_ with e | e
    · exact fun e2 => a.m1 (by rw [e, e2])
    · omega
  have n2 : g2 ≠ some g7 := by
    rcases p.at_ with e | e
    · exact fun e2 => a.g12 g7 e e2
    · exact fun e2 => by have := l2 g7 e2; omega
  have n3 : g3 ≠ some g7 := by
    rcases p.at_ with e | e
    · exact fun e2 => a.g13 g7 e e2
    · exact fun e2 => by have := l3 g7 e2; omega
  have hn : ∀ c, OwnB b M (some g7) g2 g3 c → OwnB b M g1 g2 g3 c ∨ w.heap.size ≤ c := fun c hc => by
    rcases hc with e | e | e | e | e
    · exact .inl (.inl e)
    · exact .inl (.inr (.inl e))
    · have e3 : g7 = c := Option.some.inj e
      subst e3
      rcases p.at_ with e | e
      · exact .inl (.inr (.inr (.inl e)))
      · exact .inr e
    · exact .inl (.inr (.inr (.inr (.inl e))))
    · exact .inl (.inr (.inr (.inr (.inr e))))
  refine ⟨⟨(p.cell 0 (by decide)).trans h.c0, h.map.kept p.kept ⟨fun e => a.bM e.symm, a.m1⟩, p.row, h.r2.keep p.kept (p.cell 2 (by decide)) (fun c e => ⟨fun e2 => a.b2 (by rw [e, e2]), fun e2 => a.g12 c e2 e⟩), h.r3.keep p.kept (p.cell 3 (by decide)) (fun c e => ⟨fun e2 => a.b3 (by rw [e, e2]), fun e2 => a.g13 c e2 e⟩), fun j => (p.froz j).trans (h.fz j), ⟨a.bM, fun e => nb (Option.some.inj e), a.b2, a.b3, fun e => nM (Option.some.inj e), a.m2, a.m3, fun c e e2 => n2 (by have e3 : g7 = c := Option.some.inj e; rw [e3]; exact e2), fun c e e2 => n3 (by have e3 : g7 = c := Option.some.inj e; rw [e3]; exact e2), a.g23⟩, fun c hc => ?_⟩, ⟨p.kept.mono (fun c _ hc => ⟨fun e => hc (.inl e), fun e => hc (.inr (.inr (.inl e)))⟩), hn⟩⟩
  rcases hc with e | e | e | e | e
  · subst e; exact ⟨(h.lo _ (.inl rfl)).1, by omega⟩
  · subst e; exact ⟨(h.lo _ (.inr (.inl rfl))).1, by omega⟩
  · have e3 : g7 = c := Option.some.inj e
    rw [← e3]; exact q7
  · exact ⟨(h.lo _ (.inr (.inr (.inr (.inl e))))).1, by have := l2 c e; omega⟩
  · exact ⟨(h.lo _ (.inr (.inr (.inr (.inr e))))).1, by have := l3 c e; omega⟩

theorem NX.grow2 {w W' : World} {B0 b M g7 : Nat} {g1 g2 g3 : Option Nat} {kv : List (ByteArray × Value)} {X1 X2 X3 : List Value} {y : Value} (h : NX w B0 b M g1 g2 g3 kv X1 X2 X3) (p : GP w W' B0 b 2 3 X2 y g2 g7) : NX W' B0 b M g1 (some g7) g3 kv X1 (X2 ++ [y]) X3 ∧ Ch w W' b M g1 g2 g3 g1 (some g7) g3 := by
  have a := h.ap
  have lM := (h.lo M (.inr (.inl rfl))).2
  have lb := (h.lo b (.inl rfl)).2
  have hz := p.kept.size
  have q7 := p.row.bl g7 rfl
  have l1 : ∀ c, g1 = some c → c < w.heap.size := fun c e => (h.r1.bl c e).2
  have l2 : ∀ c, g2 = some c → c < w.heap.size := fun c e => (h.r2.bl c e).2
  have l3 : ∀ c, g3 = some c → c < w.heap.size := fun c e => (h.r3.bl c e).2
  have nb : g7 ≠ b := by
    rcases p.at_ with e | e
    · exact fun e2 => a.b2 (by rw [e, e2])
    · omega
  have nM : g7 ≠ M := by
    rcases p.at_ with e | e
    · exact fun e2 => a.m2 (by rw [e, e2])
    · omega
  have n1 : g1 ≠ some g7 := by
    rcases p.at_ with e | e
    · exact fun e2 => a.g12 g7 e2 e
    · exact fun e2 => by have := l1 g7 e2; omega
  have n3 : g3 ≠ some g7 := by
    rcases p.at_ with e | e
    · exact fun e2 => a.g23 g7 e e2
    · exact fun e2 => by have := l3 g7 e2; omega
  have hn : ∀ c, OwnB b M g1 (some g7) g3 c → OwnB b M g1 g2 g3 c ∨ w.heap.size ≤ c := fun c hc => by
    rcases hc with e | e | e | e | e
    · exact .inl (.inl e)
    · exact .inl (.inr (.inl e))
    · exact .inl (.inr (.inr (.inl e)))
    · have e3 : g7 = c := Option.some.inj e
      subst e3
      rcases p.at_ with e | e
      · exact .inl (.inr (.inr (.inr (.inl e))))
      · exact .inr e
    · exact .inl (.inr (.inr (.inr (.inr e))))
  refine ⟨⟨(p.cell 0 (by decide)).trans h.c0, h.map.kept p.kept ⟨fun e => a.bM e.symm, a.m2⟩, h.r1.keep p.kept (p.cell 1 (by decide)) (fun c e => ⟨fun e2 => a.b1 (by rw [e, e2]), fun e2 => a.g12 c e e2⟩), p.row, h.r3.keep p.kept (p.cell 3 (by decide)) (fun c e => ⟨fun e2 => a.b3 (by rw [e, e2]), fun e2 => a.g23 c e2 e⟩), fun j => (p.froz j).trans (h.fz j), ⟨a.bM, a.b1, fun e => nb (Option.some.inj e), a.b3, a.m1, fun e => nM (Option.some.inj e), a.m3, fun c e e2 => n1 (by have e3 : g7 = c := Option.some.inj e2; rw [e3]; exact e), a.g13, fun c e e2 => n3 (by have e3 : g7 = c := Option.some.inj e; rw [e3]; exact e2)⟩, fun c hc => ?_⟩, ⟨p.kept.mono (fun c _ hc => ⟨fun e => hc (.inl e), fun e => hc (.inr (.inr (.inr (.inl e))))⟩), hn⟩⟩
  rcases hc with e | e | e | e | e
  · subst e; exact ⟨(h.lo _ (.inl rfl)).1, by omega⟩
  · subst e; exact ⟨(h.lo _ (.inr (.inl rfl))).1, by omega⟩
  · exact ⟨(h.lo _ (.inr (.inr (.inl e)))).1, by have := l1 c e; omega⟩
  · have e3 : g7 = c := Option.some.inj e
    rw [← e3]; exact q7
  · exact ⟨(h.lo _ (.inr (.inr (.inr (.inr e))))).1, by have := l3 c e; omega⟩

theorem NX.grow3 {w W' : World} {B0 b M g7 : Nat} {g1 g2 g3 : Option Nat} {kv : List (ByteArray × Value)} {X1 X2 X3 : List Value} {y : Value} (h : NX w B0 b M g1 g2 g3 kv X1 X2 X3) (p : GP w W' B0 b 3 3 X3 y g3 g7) : NX W' B0 b M g1 g2 (some g7) kv X1 X2 (X3 ++ [y]) ∧ Ch w W' b M g1 g2 g3 g1 g2 (some g7) := by
  have a := h.ap
  have lM := (h.lo M (.inr (.inl rfl))).2
  have lb := (h.lo b (.inl rfl)).2
  have hz := p.kept.size
  have q7 := p.row.bl g7 rfl
  have l1 : ∀ c, g1 = some c → c < w.heap.size := fun c e => (h.r1.bl c e).2
  have l2 : ∀ c, g2 = some c → c < w.heap.size := fun c e => (h.r2.bl c e).2
  have l3 : ∀ c, g3 = some c → c < w.heap.size := fun c e => (h.r3.bl c e).2
  have nb : g7 ≠ b := by
    rcases p.at_ with e | e
    · exact fun e2 => a.b3 (by rw [e, e2])
    · omega
  have nM : g7 ≠ M := by
    rcases p.at_ with e | e
    · exact fun e2 => a.m3 (by rw [e, e2])
    · omega
  have n1 : g1 ≠ some g7 := by
    rcases p.at_ with e | e
    · exact fun e2 => a.g13 g7 e2 e
    · exact fun e2 => by have := l1 g7 e2; omega
  have n2 : g2 ≠ some g7 := by
    rcases p.at_ with e | e
    · exact fun e2 => a.g23 g7 e2 e
    · exact fun e2 => by have := l2 g7 e2; omega
  have hn : ∀ c, OwnB b M g1 g2 (some g7) c → OwnB b M g1 g2 g3 c ∨ w.heap.size ≤ c := fun c hc => by
    rcases hc with e | e | e | e | e
    · exact .inl (.inl e)
    · exact .inl (.inr (.inl e))
    · exact .inl (.inr (.inr (.inl e)))
    · exact .inl (.inr (.inr (.inr (.inl e))))
    · have e3 : g7 = c := Option.some.inj e
      subst e3
      rcases p.at_ with e | e
      · exact .inl (.inr (.inr (.inr (.inr e))))
      · exact .inr e
  refine ⟨⟨(p.cell 0 (by decide)).trans h.c0, h.map.kept p.kept ⟨fun e => a.bM e.symm, a.m3⟩, h.r1.keep p.kept (p.cell 1 (by decide)) (fun c e => ⟨fun e2 => a.b1 (by rw [e, e2]), fun e2 => a.g13 c e e2⟩), h.r2.keep p.kept (p.cell 2 (by decide)) (fun c e => ⟨fun e2 => a.b2 (by rw [e, e2]), fun e2 => a.g23 c e e2⟩), p.row, fun j => (p.froz j).trans (h.fz j), ⟨a.bM, a.b1, a.b2, fun e => nb (Option.some.inj e), a.m1, a.m2, fun e => nM (Option.some.inj e), a.g12, fun c e e2 => n1 (by have e3 : g7 = c := Option.some.inj e2; rw [e3]; exact e), fun c e e2 => n2 (by have e3 : g7 = c := Option.some.inj e2; rw [e3]; exact e)⟩, fun c hc => ?_⟩, ⟨p.kept.mono (fun c _ hc => ⟨fun e => hc (.inl e), fun e => hc (.inr (.inr (.inr (.inr e))))⟩), hn⟩⟩
  rcases hc with e | e | e | e | e
  · subst e; exact ⟨(h.lo _ (.inl rfl)).1, by omega⟩
  · subst e; exact ⟨(h.lo _ (.inr (.inl rfl))).1, by omega⟩
  · exact ⟨(h.lo _ (.inr (.inr (.inl e)))).1, by have := l1 c e; omega⟩
  · exact ⟨(h.lo _ (.inr (.inr (.inr (.inl e))))).1, by have := l2 c e; omega⟩
  · have e3 : g7 = c := Option.some.inj e
    rw [← e3]; exact q7

end Go.Proofs.Ytcnokpaicnjkfaa.F
