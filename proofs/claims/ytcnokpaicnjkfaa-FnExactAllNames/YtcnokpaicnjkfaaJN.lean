import Derived.Test.YtcnokpaicnjkfaaJH
import Derived.Test.YtcnokpaicnjkfaaMc
import Derived.Test.YtcnokpaicnjkfaaDa
import Derived.Laws.OwnMore
namespace Go.Proofs.Ytcnokpaicnjkfaa.F
open Go.RowKit Go.Joins

def Tm.app : Tm → Tm → Tm
  | .nil, u => u
  | .nd h ks al r, u => .nd h ks al (Tm.app r u)

theorem Tm.app_nil : ∀ t : Tm, Tm.app t .nil = t
  | .nil => rfl
  | .nd h ks al r => by rw [Tm.app, Tm.app_nil r]

theorem Tm.app_assoc : ∀ t u v : Tm, Tm.app (Tm.app t u) v = Tm.app t (Tm.app u v)
  | .nil, _, _ => rfl
  | .nd h ks al r, u, v => by rw [Tm.app, Tm.app, Tm.app, Tm.app_assoc r u v]

/-- Numbers of texts. -/
def Nums (T : List ByteArray) (ns : List Nat) (xs : List ByteArray) : Prop := ns.length = xs.length ∧ ∀ (i n : Nat) (x : ByteArray), ns[i]? = some n → xs[i]? = some x → T[n]? = some x

theorem Nums.ext {T T' : List ByteArray} {ns : List Nat} {xs : List ByteArray} (h : Nums T ns xs) (p : T <+: T') : Nums T' ns xs := ⟨h.1, fun i n x h1 h2 => pre_get p (h.2 i n x h1 h2)⟩

/-- A row of numbers in memory. -/
def IR (w : World) (S : Nat → Prop) (a : Option Addr) (ns : List Nat) : Prop := ns ≠ [] → ∃ b, a = some ⟨b, 0, none⟩ ∧ S b ∧ ∀ (i n : Nat), ns[i]? = some n → w.cell? ⟨b, i, none⟩ = some (.int .i64 (n : Int))

/-- A row of pointers in memory. -/
def PR (w : World) (S : Nat → Prop) (a : Option Addr) (bs : List Nat) : Prop := bs ≠ [] → ∃ b, a = some ⟨b, 0, none⟩ ∧ S b ∧ ∀ (i q : Nat), bs[i]? = some q → w.cell? ⟨b, i, none⟩ = some (.pointer (some ⟨q, 0, none⟩))

theorem IR.kept {w w' : World} {S Sx : Nat → Prop} {a : Option Addr} {ns : List Nat} (h : IR w S a ns) (k : Kept Sx w w') (hS : ∀ c, S c → Sx c ∧ c < w.heap.size) : IR w' S a ns := fun hn => by
  obtain ⟨b, e, hb, hc⟩ := h hn
  exact ⟨b, e, hb, fun i n hi => (k.cell (p := ⟨b, i, none⟩) (hS b hb).2 (hS b hb).1).trans (hc i n hi)⟩
theorem IR.mono {w : World} {S S' : Nat → Prop} {a : Option Addr} {ns : List Nat} (h : IR w S a ns) (hS : ∀ c, S c → S' c) : IR w S' a ns := fun hn => by
  obtain ⟨b, e, hb, hc⟩ := h hn
  exact ⟨b, e, hS b hb, hc⟩
theorem PR.kept {w w' : World} {S Sx : Nat → Prop} {a : Option Addr} {ns : List Nat} (h : PR w S a ns) (k : Kept Sx w w') (hS : ∀ c, S c → Sx c ∧ c < w.heap.size) : PR w' S a ns := fun hn => by
  obtain ⟨b, e, hb, hc⟩ := h hn
  exact ⟨b, e, hb, fun i n hi => (k.cell (p := ⟨b, i, none⟩) (hS b hb).2 (hS b hb).1).trans (hc i n hi)⟩
theorem PR.mono {w : World} {S S' : Nat → Prop} {a : Option Addr} {ns : List Nat} (h : PR w S a ns) (hS : ∀ c, S c → S' c) : PR w S' a ns := fun hn => by
  obtain ⟨b, e, hb, hc⟩ := h hn
  exact ⟨b, e, hS b hb, hc⟩

/-- A knotAlt in block p with its body in block q. -/
structure AltAt (w : World) (S : Nat → Prop) (T : List ByteArray) (p : Nat) (h : Hd) (q : Nat) : Prop where
  at_ : S p
  ns : ∃ a c ns, w.cell? ⟨p, 1, none⟩ = some (.slice a (h.cs.length) c) ∧ IR w S a ns ∧ Nums T ns h.cs
  body : w.cell? ⟨p, 2, none⟩ = some (.pointer (some ⟨q, 0, none⟩))

/-- A knot in block q, with the blocks of its kids and alternatives. -/
structure KnAt (w : World) (S : Nat → Prop) (T : List ByteArray) (q : Nat) (h : Hd) (kb ab : List Nat) : Prop where
  at_ : S q
  k : w.cell? ⟨q, 0, none⟩ = some (.int .i64 h.k)
  nm : ∃ n : Nat, w.cell? ⟨q, 1, none⟩ = some (.int .i64 (n : Int)) ∧ T[n]? = some h.nm
  ns : ∃ a c ns, w.cell? ⟨q, 4, none⟩ = some (.slice a (h.ns.length) c) ∧ IR w S a ns ∧ Nums T ns h.ns
  kb : ∃ a c, w.cell? ⟨q, 5, none⟩ = some (.slice a kb.length c) ∧ PR w S a kb
  ab : ∃ a c, w.cell? ⟨q, 6, none⟩ = some (.slice a ab.length c) ∧ PR w S a ab

/-- A row of knots (or of alternatives) stands for a row of terms. -/
def Kn (w : World) (S : Nat → Prop) (T : List ByteArray) : Bool → Tm → List Nat → Prop
  | _, .nil, bs => bs = []
  | alt, .nd h ks al r, bs => ∃ p q rest kb ab, bs = p :: rest ∧ (if alt = true then AltAt w S T p h q else p = q) ∧ KnAt w S T q h kb ab ∧ Kn w S T false ks kb ∧ Kn w S T true al ab ∧ Kn w S T alt r rest

theorem AltAt.kept {w w' : World} {S Sx : Nat → Prop} {T : List ByteArray} {p q : Nat} {h : Hd} (a : AltAt w S T p h q) (k : Kept Sx w w') (hS : ∀ c, S c → Sx c ∧ c < w.heap.size) : AltAt w' S T p h q := by
  obtain ⟨x, c, ns, h1, h2, h3⟩ := a.ns
  have hp := hS p a.at_
  exact ⟨a.at_, ⟨x, c, ns, (k.cell (p := ⟨p, 1, none⟩) hp.2 hp.1).trans h1, h2.kept k hS, h3⟩, (k.cell (p := ⟨p, 2, none⟩) hp.2 hp.1).trans a.body⟩

theorem KnAt.kept {w w' : World} {S Sx : Nat → Prop} {T : List ByteArray} {q : Nat} {h : Hd} {kb ab : List Nat} (a : KnAt w S T q h kb ab) (k : Kept Sx w w') (hS : ∀ c, S c → Sx c ∧ c < w.heap.size) : KnAt w' S T q h kb ab := by
  have hp := hS q a.at_
  have hc : ∀ j, w'.cell? ⟨q, j, none⟩ = w.cell? ⟨q, j, none⟩ := fun j => k.cell (p := ⟨q, j, none⟩) hp.2 hp.1
  obtain ⟨n, n1, n2⟩ := a.nm
  obtain ⟨x, c, ns, h1, h2, h3⟩ := a.ns
  obtain ⟨y, d, k1, k2⟩ := a.kb
  obtain ⟨z, e, a1, a2⟩ := a.ab
  exact ⟨a.at_, (hc 0).trans a.k, ⟨n, (hc 1).trans n1, n2⟩, ⟨x, c, ns, (hc 4).trans h1, h2.kept k hS, h3⟩, ⟨y, d, (hc 5).trans k1, k2.kept k hS⟩, ⟨z, e, (hc 6).trans a1, a2.kept k hS⟩⟩

theorem Kn.kept {w w' : World} {S Sx : Nat → Prop} {T : List ByteArray} (k : Kept Sx w w') (hS : ∀ c, S c → Sx c ∧ c < w.heap.size) : ∀ (t : Tm) (alt : Bool) (bs : List Nat), Kn w S T alt t bs → Kn w' S T alt t bs
  | .nil, _, _, h => h
  | .nd hd ks al r, alt, bs, h => by
    obtain ⟨p, q, rest, kb, ab, e, h1, h2, h3, h4, h5⟩ := h
    refine ⟨p, q, rest, kb, ab, e, ?_, h2.kept k hS, Kn.kept k hS ks _ _ h3, Kn.kept k hS al _ _ h4, Kn.kept k hS r _ _ h5⟩
    cases alt with
    | true => exact AltAt.kept h1 k hS
    | false => exact h1

theorem AltAt.mono {w : World} {S S' : Nat → Prop} {T T' : List ByteArray} {p q : Nat} {h : Hd} (a : AltAt w S T p h q) (hS : ∀ c, S c → S' c) (hT : T <+: T') : AltAt w S' T' p h q := by
  obtain ⟨x, c, ns, h1, h2, h3⟩ := a.ns
  exact ⟨hS _ a.at_, ⟨x, c, ns, h1, h2.mono hS, h3.ext hT⟩, a.body⟩
theorem KnAt.mono {w : World} {S S' : Nat → Prop} {T T' : List ByteArray} {q : Nat} {h : Hd} {kb ab : List Nat} (a : KnAt w S T q h kb ab) (hS : ∀ c, S c → S' c) (hT : T <+: T') : KnAt w S' T' q h kb ab := by
  obtain ⟨n, n1, n2⟩ := a.nm
  obtain ⟨x, c, ns, h1, h2, h3⟩ := a.ns
  obtain ⟨y, d, k1, k2⟩ := a.kb
  obtain ⟨z, e, a1, a2⟩ := a.ab
  exact ⟨hS _ a.at_, a.k, ⟨n, n1, pre_get hT n2⟩, ⟨x, c, ns, h1, h2.mono hS, h3.ext hT⟩, ⟨y, d, k1, k2.mono hS⟩, ⟨z, e, a1, a2.mono hS⟩⟩
theorem Kn.mono {w : World} {S S' : Nat → Prop} {T T' : List ByteArray} (hS : ∀ c, S c → S' c) (hT : T <+: T') : ∀ (t : Tm) (alt : Bool) (bs : List Nat), Kn w S T alt t bs → Kn w S' T' alt t bs
  | .nil, _, _, h => h
  | .nd hd ks al r, alt, bs, h => by
    obtain ⟨p, q, rest, kb, ab, e, h1, h2, h3, h4, h5⟩ := h
    refine ⟨p, q, rest, kb, ab, e, ?_, h2.mono hS hT, Kn.mono hS hT ks _ _ h3, Kn.mono hS hT al _ _ h4, Kn.mono hS hT r _ _ h5⟩
    cases alt with
    | true => exact AltAt.mono h1 hS hT
    | false => exact h1

theorem Kn.app {w : World} {S : Nat → Prop} {T : List ByteArray} {alt : Bool} {u : Tm} {cs : List Nat} (hu : Kn w S T alt u cs) : ∀ (t : Tm) (bs : List Nat), Kn w S T alt t bs → Kn w S T alt (Tm.app t u) (bs ++ cs)
  | .nil, bs, h => by
    have e : bs = [] := h
    subst e
    exact hu
  | .nd hd ks al r, bs, h => by
    obtain ⟨p, q, rest, kb, ab, rfl, h1, h2, h3, h4, h5⟩ := h
    exact ⟨p, q, rest ++ cs, kb, ab, rfl, h1, h2, h3, h4, Kn.app hu r rest h5⟩

theorem Kn.len {w : World} {S : Nat → Prop} {T : List ByteArray} {alt : Bool} : ∀ (t : Tm) (bs : List Nat), Kn w S T alt t bs → bs.length = t.len
  | .nil, bs, h => by
    have e : bs = [] := h
    subst e
    rfl
  | .nd hd ks al r, bs, h => by
    obtain ⟨p, q, rest, kb, ab, rfl, h1, h2, h3, h4, h5⟩ := h
    rw [List.length_cons, Kn.len r rest h5]
    rfl

/-- The book in memory: its own blocks are U, its texts T. -/
def BK (B0 b : Nat) (w : World) (U : Nat → Prop) (T : List ByteArray) : Prop := ∃ M g1 g2 g3 L, NB w B0 b M g1 g2 g3 T L ∧ U = OwnB b M g1 g2 g3 ∧ B0 ≤ w.heap.size

/-- What a call changes that works with the book. -/
structure Chg (w w' : World) (U U' : Nat → Prop) : Prop where
  kp : Kept (fun c => ¬ U c) w w'
  new : ∀ c, U' c → U c ∨ w.heap.size ≤ c

theorem Chg.refl (w : World) (U : Nat → Prop) : Chg w w U U := ⟨Kept.refl _ _, fun _ h => .inl h⟩

theorem Chg.trans {w w1 w2 : World} {U U1 U2 : Nat → Prop} (h : Chg w w1 U U1) (k : Chg w1 w2 U1 U2) : Chg w w2 U U2 := by
  have hz := h.kp.size
  refine ⟨h.kp.trans2 k.kp (fun c hc hu hx => ?_), fun c hc => ?_⟩
  · rcases h.new c hx with e | e
    · exact hu e
    · omega
  · rcases k.new c hc with e | e
    · exact h.new c e
    · exact .inr (by omega)

theorem Chg.keep {w w1 w2 : World} {U U1 : Nat → Prop} (h : Chg w w1 U U1) (k : Kept (fun c => c < w.heap.size) w1 w2) : Chg w w2 U U1 :=
  ⟨h.kp.trans2 k (fun _ hc _ => hc), h.new⟩

theorem BK.lo {B0 b : Nat} {w : World} {U : Nat → Prop} {T : List ByteArray} (h : BK B0 b w U T) (c : Nat) (hc : U c) : B0 ≤ c ∧ c < w.heap.size := by
  obtain ⟨M, g1, g2, g3, L, nb, rfl, -⟩ := h
  exact nb.nx.lo c hc

theorem BK.kept {B0 b : Nat} {w w' : World} {U S : Nat → Prop} {T : List ByteArray} (h : BK B0 b w U T) (k : Kept S w w') (hS : ∀ c, U c → S c) : BK B0 b w' U T := by
  obtain ⟨M, g1, g2, g3, L, nb, rfl, hB⟩ := h
  exact ⟨M, g1, g2, g3, L, nb.kept k hS, rfl, Nat.le_trans hB k.size⟩

/-- The number of a text. -/
theorem BK.number {B0 b : Nat} {w : World} {U : Nat → Prop} {T : List ByteArray} (h : BK B0 b w U T) (x : ByteArray) (hx : x.size ≤ 16777216) (hT : T.length ≤ 16777216) :
    Calls Try.prog 48 #[.pointer (some ⟨b, 0, none⟩), .string x] w fun e w' => ∃ (i : Nat) (U' : Nat → Prop) (T' : List ByteArray), e = .returned (.int .i64 i) ∧ T'[i]? = some x ∧ BK B0 b w' U' T' ∧ Chg w w' U U' ∧ T <+: T' ∧ T'.length ≤ T.length + 1 := by
  obtain ⟨M, g1, g2, g3, L, nb, rfl, hB⟩ := h
  refine (i_number nb x hx hT hB).mono ?_
  rintro e w' ⟨i, T', L', h1, h2, h3, rfl, nu⟩
  refine ⟨i, _, T', rfl, nu.at_, ⟨M, h1, h2, h3, L', nu.nb, rfl, Nat.le_trans hB nu.ch.kept.size⟩, ⟨nu.ch.kept, nu.ch.new⟩, ?_, ?_⟩
  · rcases nu.ext with ⟨e, -⟩ | ⟨-, e, -⟩
    · rw [e]; exact List.prefix_refl _
    · rw [e]; exact List.prefix_append _ _
  · rcases nu.ext with ⟨e, -⟩ | ⟨-, e, -⟩
    · rw [e]; omega
    · rw [e]; simp

end Go.Proofs.Ytcnokpaicnjkfaa.F

namespace Go.Proofs.Ytcnokpaicnjkfaa.F
open Go.RowKit Go.Joins

theorem ownsRow_cell {W : World} {B g cap n sz : Nat} {e : TypeId} {xs : List Value} (h : W.ownsRow B e sz (.slice (some ⟨g, 0, none⟩) n cap) n xs) (j : Nat) (v : Value) (hv : xs[j]? = some v) : W.cell? ⟨g, j, none⟩ = some v := by
  rcases h.2 with ⟨h1, h2⟩ | ⟨b, cap', cur, hv', hb, hg, hnc, hcm, hcs, ht⟩
  · cases h1
  · cases hv'
    have hj : (cur.toList.take (n * sz))[j]? = some v := by rw [ht]; exact hv
    rw [List.getElem?_take] at hj
    split at hj
    · simp only [World.cell?, hg]
      simpa using hj
    · cases hj

theorem ownsRow_live {W : World} {B g cap n sz : Nat} {e : TypeId} {xs : List Value} (h : W.ownsRow B e sz (.slice (some ⟨g, 0, none⟩) n cap) n xs) (j : Nat) : W.frozen? ⟨g, j, none⟩ = false := by
  rcases h.2 with ⟨h1, h2⟩ | ⟨b, cap', cur, hv', hb, hg, hnc, hcm, hcs, ht⟩
  · cases h1
  · cases hv'
    simp [World.frozen?, hg]

theorem ownsRow_le {W : World} {B g cap n sz : Nat} {e : TypeId} {xs : List Value} (h : W.ownsRow B e sz (.slice (some ⟨g, 0, none⟩) n cap) n xs) : B ≤ g ∧ g < W.heap.size ∧ n ≤ cap ∧ cap ≤ maxLen := by
  rcases h.2 with ⟨h1, h2⟩ | ⟨b, cap', cur, hv', hb, hg, hnc, hcm, hcs, ht⟩
  · cases h1
  · cases hv'
    exact ⟨hb, (Array.getElem?_eq_some_iff.1 hg).1, hnc, hcm⟩

theorem info3 : (Try.prog.info? 3).map (fun i => (i.zero, i.size, i.bytes)) = some (some (.int .i64 0), 1, 8) := by kernel_rfl
theorem run_makeI (n : Nat) (hn : n ≤ 16777216) (w : World) :
    (Instr.makeSlice 53 (.int .i64 (n : Int)) (.int .i64 (n : Int))).run Try.prog w = .ok (.slice (some ⟨w.heap.size, 0, none⟩) n n) (w.alloc (.cells (madeCells #[.int .i64 0] n) 3)) := by
  obtain ⟨i, hi, hzz⟩ := Option.map_eq_some_iff.1 info3
  simp only [Prod.mk.injEq] at hzz
  obtain ⟨hz, hs, hb⟩ := hzz
  have hr := run_make (P := Try.prog) w 53 3 i _ Try.underlying53 hi hz .i64 .i64 n n (by omega) (Int.le_refl _) (by rw [hb]; omega) (by omega)
  simp only [Int.toNat_natCast, hs, Nat.mul_one] at hr
  exact hr

theorem own_made (w : World) (n : Nat) (hn : n ≤ 16777216) : (w.alloc (.cells (madeCells #[.int .i64 0] n) 3)).ownsRow w.heap.size 3 1 (.slice (some ⟨w.heap.size, 0, none⟩) n n) n (List.replicate n (.int .i64 0)) := by
  refine ⟨by rw [List.length_replicate, Nat.mul_one], .inr ⟨w.heap.size, n, _, rfl, Nat.le_refl _, (MapKept.heap_alloc w _).1, Nat.le_refl _, by unfold maxLen; omega, by rw [size_madeCells, Nat.mul_one], ?_⟩⟩
  rw [toList_madeCells_one, List.take_of_length_le (by rw [List.length_replicate]; omega)]

/-- The row of numbers while it is filled. -/
structure NI (B0 b : Nat) (W : World) (U : Nat → Prop) (T : List ByteArray) (xs : List ByteArray) (i : Nat) (w : World) (U' : Nat → Prop) (T' : List ByteArray) (ns : List Nat) : Prop where
  bk : BK B0 b w U' T'
  ch : Chg W w U U'
  pre : T <+: T'
  len : T'.length ≤ T.length + i
  ow : w.ownsRow W.heap.size 3 1 (.slice (some ⟨W.heap.size, 0, none⟩) xs.length xs.length) xs.length (ns.map iv ++ List.replicate (xs.length - i) (.int .i64 0))
  nl : ns.length = i
  nn : Nums T' ns (xs.take i)
  nu : ¬ U' W.heap.size

theorem NI.next {B0 b : Nat} {W : World} {U : Nat → Prop} {T xs : List ByteArray} {i : Nat} {w w1 : World} {U' U1 : Nat → Prop} {T' T1 : List ByteArray} {ns : List Nat} {n : Nat} {x : ByteArray} (h : NI B0 b W U T xs i w U' T' ns) (hx : xs[i]? = some x) (bk : BK B0 b w1 U1 T1) (ch : Chg w w1 U' U1) (pre : T' <+: T1) (len : T1.length ≤ T'.length + 1) (hn : T1[n]? = some x) :
    (w1.frozen? ⟨W.heap.size, i, none⟩ = false ∧ w1.cell? ⟨W.heap.size, i, none⟩ = some (.int .i64 0)) ∧ NI B0 b W U T xs (i + 1) (w1.setCell ⟨W.heap.size, i, none⟩ (.int .i64 (n : Int))) U1 T1 (ns ++ [n]) := by
  have hil : i < xs.length := (List.getElem?_eq_some_iff.1 hx).1
  have hlt := (ownsRow_le h.ow).2.1
  have hnu1 : ¬ U1 W.heap.size := fun e => by
    rcases ch.new _ e with e2 | e2
    · exact h.nu e2
    · omega
  have o1 := ownsRow_kept h.ow ch.kp (fun c e => by
    have e2 : W.heap.size = c := Option.some.inj e
    rw [← e2]
    exact h.nu)
  have er : List.replicate (xs.length - i) (Value.int .i64 0) = .int .i64 0 :: List.replicate (xs.length - (i + 1)) (.int .i64 0) := by
    rw [show xs.length - i = (xs.length - (i + 1)) + 1 from by omega, List.replicate_succ]
  rw [er] at o1
  have hl : (ns.map iv).length = i := by rw [List.length_map]; exact h.nl
  have c1 : w1.cell? ⟨W.heap.size, i, none⟩ = some (.int .i64 0) := ownsRow_cell o1 i _ (by rw [List.getElem?_append_right (by omega), hl, Nat.sub_self]; rfl)
  have o2 := ownsRow_set o1 (.int .i64 (n : Int))
  rw [hl] at o2
  have ks : Kept (fun c => c ≠ W.heap.size) w1 (w1.setCell ⟨W.heap.size, i, none⟩ (.int .i64 (n : Int))) := Kept.setCell _ _ _ _ (by simp)
  refine ⟨⟨ownsRow_live o1 _, c1⟩, ⟨bk.kept ks (fun c hc e => hnu1 (by rw [← e]; exact hc)), (h.ch.trans ch).keep (ks.mono (fun c _ hc => by show c ≠ _; omega)), h.pre.trans pre, by have := h.len; omega, ?_, by rw [List.length_append, h.nl]; rfl, ?_, hnu1⟩⟩
  · rw [List.map_append, List.append_assoc]
    exact o2
  · have hp := h.nn.ext pre
    refine ⟨by rw [List.length_append, List.length_take, h.nl]; simp; omega, fun j m y h1 h2 => ?_⟩
    rw [List.getElem?_append] at h1
    split at h1
    · rename_i hj
      refine hp.2 j m y h1 ?_
      rw [List.getElem?_take] at h2 ⊢
      rw [if_pos (by have := h.nl; omega)] at h2 ⊢
      exact h2
    · rename_i hj
      obtain ⟨t, ht⟩ : ∃ t, t = j - ns.length := ⟨_, rfl⟩
      rw [← ht] at h1
      cases t with
      | zero =>
        have e1 : n = m := by simpa using h1
        have e2 : j = i := by
          have := h.nl
          rw [List.getElem?_take] at h2
          split at h2
          · omega
          · cases h2
        rw [List.getElem?_take, if_pos (by omega), e2, hx] at h2
        have e3 : x = y := Option.some.inj h2
        rw [← e1, ← e3]
        exact hn
      | succ t => simp at h1

set_option maxHeartbeats 4000000 in
set_option maxRecDepth 100000 in
theorem i_numbers {B0 b : Nat} {W : World} {U : Nat → Prop} {T : List ByteArray} (h : BK B0 b W U T) (a : Option Addr) (c : Nat) (xs : List ByteArray) (hs : SR W (fun d => d < B0) a c xs) (hx : ∀ x ∈ xs, x.size ≤ 16777216) (hT : T.length + xs.length ≤ 16777216) :
    Calls Try.prog 49 #[.pointer (some ⟨b, 0, none⟩), .slice a xs.length c] W fun e w => ∃ (U' : Nat → Prop) (T' : List ByteArray) (ns : List Nat), e = .returned (.slice (some ⟨W.heap.size, 0, none⟩) xs.length xs.length) ∧ NI B0 b W U T xs xs.length w U' T' ns := by
  obtain ⟨n, hn⟩ : ∃ n, n = xs.length := ⟨_, rfl⟩
  have hnm : n ≤ 16777216 := by omega
  have hmk := run_makeI n hnm W
  obtain ⟨V, hV⟩ : ∃ V, W.alloc (.cells (madeCells #[.int .i64 0] n) 3) = V := ⟨_, rfl⟩
  have HI : Hid (NI B0 b W U T xs 0 V U T []) := by
    have k : Kept (fun _ => True) W V := by rw [← hV]; exact Kept.alloc _ _ _
    refine ⟨h.kept k (fun _ _ => trivial), ⟨k.mono (fun _ _ _ => trivial), fun _ h => .inl h⟩, List.prefix_refl _, by omega, ?_, rfl, ⟨rfl, fun i n x h1 => by simp at h1⟩, fun e => by have := (h.lo _ e).2; omega⟩
    rw [← hV, ← hn]
    exact own_made W n hnm
  have HV := hide hV
  have HS := hide hs
  have HX := hide hx
  have HT := hide hT
  have HN := hide hn
  have HBL : Hid (∀ c, U c → B0 ≤ c) := fun c hc => (h.lo c hc).1
  have HB0 : Hid (B0 ≤ W.heap.size) := by obtain ⟨_, _, _, _, _, _, _, hB⟩ := h; exact hB
  rw [← hn]
  clear hV hs hx hT hn h
  go_enter Try.func49, Try.ntmps49
  go_upto_region 2 with fail
  rw [HV.out]
  clear HV hmk
  go_upto_region 3 with fail
  go_loopw [6, 7, 13] (fun _ _ s13 wr => ∃ (i : Nat) (U' : Nat → Prop) (T' : List ByteArray) (ns : List Nat), s13 = .int .i64 (i : Int) ∧ i ≤ n ∧ Hid (NI B0 b W U T xs i wr U' T' ns)) (fun _ _ s13 _ => n - (intOf s13).toNat)
  case atStart => exact ⟨0, U, T, [], rfl, Nat.zero_le _, HI⟩
  case round =>
    obtain ⟨i, U', T', ns, rfl, hin, hI⟩ := hrel
    by_cases hi : i < n
    · have hii : (i : Int) < (n : Int) := by omega
      have hil : i < xs.length := by rw [← HN.out]; exact hi
      obtain ⟨x, hx⟩ : ∃ x, xs[i]? = some x := ⟨_, List.getElem?_eq_getElem hil⟩
      obtain ⟨bb, o, rfl, hbb, hc⟩ := HS.out.at_ (fun e => by rw [e] at hil; simp at hil)
      have hbb' : bb < B0 := hbb
      have y0 : wr.cell? ⟨bb, o + i, none⟩ = some (.string x) := (hI.out.ch.kp.cell (p := ⟨bb, o + i, none⟩) (by have := HB0.out; show bb < _; omega) (fun e => by have : B0 ≤ bb := HBL.out _ e; omega)).trans (hc i x hx)
      have HC := hide (hI.out.bk.number x (HX.out x (List.mem_of_getElem? hx)) (by have := hI.out.len; have := HT.out; omega))
      have HNX : Hid (∀ w1 U1 T1 (k : Nat), BK B0 b w1 U1 T1 → Chg wr w1 U' U1 → T' <+: T1 → T1.length ≤ T'.length + 1 → T1[k]? = some x → (w1.frozen? ⟨W.heap.size, i, none⟩ = false ∧ w1.cell? ⟨W.heap.size, i, none⟩ = some (.int .i64 0)) ∧ NI B0 b W U T xs (i + 1) (w1.setCell ⟨W.heap.size, i, none⟩ (.int .i64 (k : Int))) U1 T1 (ns ++ [k])) := fun w1 U1 T1 k h1 h2 h3 h4 h5 => hI.out.next hx h1 h2 h3 h4 h5
      clear hx hc hil hI hbb hbb'
      go_wp2_with (go_at_call 48; refine HC.out.mono ?_; rintro e w1 ⟨k, U1, T1, rfl, h1, h2, h3, h4, h5⟩; obtain ⟨⟨f1, f2⟩, ni⟩ := HNX.out w1 U1 T1 k h2 h3 h4 h5 h1; have NI1 := hide ni; clear h1 h2 h3 h4 h5 ni)
      go_roundw
      case rel => exact ⟨i + 1, U1, T1, _, by go_num, by omega, NI1⟩
      case measure => simp [intOf]; omega
    · have hii : ¬ (i : Int) < (n : Int) := by omega
      have e : i = n := by omega
      have HIN : Hid (NI B0 b W U T xs n wr U' T' ns) := by unfold Hid; rw [← e]; exact hI.out
      clear hI e
      go_wp2_with fail
      go_ret
      exact ⟨rfl, U', T', ns, HIN.out⟩

end Go.Proofs.Ytcnokpaicnjkfaa.F

namespace Go.Proofs.Ytcnokpaicnjkfaa.F
open Go.RowKit Go.Joins

def pv (n : Nat) : Value := .pointer (some ⟨n, 0, none⟩)

/-- The cells of a knot. -/
def kcs (k : Int) (no : Nat) (mn : Bool) (la : Option Addr) (ln lc g nn : Nat) (kv av : Value) : List Value := [.int .i64 k, .int .i64 (no : Int), .bool mn, .slice la ln lc, .slice (some ⟨g, 0, none⟩) nn nn, kv, av, .bool false, .pointer none]

/-- A term as it is told. -/
structure Th where
  k : Int
  nm : ByteArray
  mn : Bool
  la : Option Addr
  ln : Nat
  lc : Nat
  xs : List ByteArray

/-- A knot that is being made. -/
structure KB (B0 b : Nat) (W : World) (U : Nat → Prop) (T : List ByteArray) (q : Nat) (t : Th) (w : World) (U' : Nat → Prop) (T' : List ByteArray) (kb ab : List Nat) (kv av : Value) (P : Nat → Prop) (tk ta : Tm) : Prop where
  bk : BK B0 b w U' T'
  ch : Chg W w U U'
  pre : T <+: T'
  bx : ∃ no g ns, Bx w q (kcs t.k no t.mn t.la t.ln t.lc g t.xs.length kv av) ∧ T'[no]? = some t.nm ∧ IR w P (some ⟨g, 0, none⟩) ns ∧ Nums T' ns t.xs
  qq : W.heap.size ≤ q ∧ q < w.heap.size ∧ ¬ U' q
  kr : w.ownsRow W.heap.size 56 1 kv kb.length (kb.map pv)
  ar : w.ownsRow W.heap.size 101 1 av ab.length (ab.map pv)
  kq : ∀ c, kv.ownBlock = some c → c ≠ q ∧ ¬ U' c ∧ av.ownBlock ≠ some c
  aq : ∀ c, av.ownBlock = some c → c ≠ q ∧ ¬ U' c
  pp : ∀ c, P c → W.heap.size ≤ c ∧ c < w.heap.size ∧ ¬ U' c ∧ c ≠ q ∧ kv.ownBlock ≠ some c ∧ av.ownBlock ≠ some c
  kn : Kn w P T' false tk kb
  an : Kn w P T' true ta ab

section
variable {B0 b : Nat} {W : World} {U : Nat → Prop} {T : List ByteArray} {q : Nat} {t : Th} {w : World} {U' : Nat → Prop} {T' : List ByteArray} {kb ab : List Nat} {kv av : Value} {P : Nat → Prop} {tk ta : Tm}

theorem KB.call {w1 : World} {U1 : Nat → Prop} {T1 : List ByteArray} (h : KB B0 b W U T q t w U' T' kb ab kv av P tk ta) (bk1 : BK B0 b w1 U1 T1) (c1 : Chg w w1 U' U1) (p1 : T' <+: T1) : KB B0 b W U T q t w1 U1 T1 kb ab kv av P tk ta := by
  have nu : ∀ c, c < w.heap.size → ¬ U' c → ¬ U1 c := fun c hc hu e => by
    rcases c1.new c e with e2 | e2
    · exact hu e2
    · omega
  have hz := c1.kp.size
  obtain ⟨no, g, ns, x1, x2, x3, x4⟩ := h.bx
  have hP : ∀ c, P c → (¬ U' c) ∧ c < w.heap.size := fun c hc => ⟨(h.pp c hc).2.2.1, (h.pp c hc).2.1⟩
  refine ⟨bk1, h.ch.trans c1, h.pre.trans p1, ⟨no, g, ns, x1.kept c1.kp h.qq.2.2, pre_get p1 x2, x3.kept c1.kp hP, x4.ext p1⟩, ⟨h.qq.1, by have := h.qq.2.1; omega, nu q h.qq.2.1 h.qq.2.2⟩, ownsRow_kept h.kr c1.kp (fun c e => (h.kq c e).2.1), ownsRow_kept h.ar c1.kp (fun c e => (h.aq c e).2), fun c e => ?_, fun c e => ?_, fun c hc => ?_, Kn.mono (fun _ hc => hc) p1 _ _ _ (Kn.kept c1.kp hP _ _ _ h.kn), Kn.mono (fun _ hc => hc) p1 _ _ _ (Kn.kept c1.kp hP _ _ _ h.an)⟩
  · obtain ⟨e1, e2, e3⟩ := h.kq c e
    exact ⟨e1, nu c (World.ownsRow.lt h.kr c e).2 e2, e3⟩
  · obtain ⟨e1, e2⟩ := h.aq c e
    exact ⟨e1, nu c (World.ownsRow.lt h.ar c e).2 e2⟩
  · obtain ⟨e1, e2, e3, e4, e5, e6⟩ := h.pp c hc
    exact ⟨e1, by omega, nu c e2 e3, e4, e5, e6⟩

theorem KB.keep {w1 : World} (h : KB B0 b W U T q t w U' T' kb ab kv av P tk ta) (k : Kept (fun _ => True) w w1) : KB B0 b W U T q t w1 U' T' kb ab kv av P tk ta :=
  h.call (h.bk.kept k (fun _ _ => trivial)) ⟨k.mono (fun _ _ _ => trivial), fun _ h => .inl h⟩ (List.prefix_refl _)

theorem KB.cel {v : Value} {i : Nat} (h : KB B0 b W U T q t w U' T' kb ab kv av P tk ta) (hv : [kv, av][i]? = some v) : w.cell? ⟨q, 5 + i, none⟩ = some v ∧ w.frozen? ⟨q, 5 + i, none⟩ = false := by
  obtain ⟨no, g, ns, x1, -⟩ := h.bx
  refine ⟨x1.cel (5 + i) v ?_, x1.live _⟩
  rcases i with _ | _ | i
  · exact hv
  · exact hv
  · simp at hv

/-- A kid more. -/
theorem KB.kid {S1 : Nat → Prop} {q1 : Nat} {t1 : Tm} {a : Option Addr} {c n g7 cp : Nat} {w7 : World} (h : KB B0 b W U T q t w U' T' kb ab (.slice a n c) av P tk ta) (hn : n = kb.length) (h1 : Kn w S1 T' false t1 [q1]) (hS : ∀ c', S1 c' → W.heap.size ≤ c' ∧ c' < w.heap.size ∧ ¬ U' c' ∧ c' ≠ q ∧ (Value.slice a n c).ownBlock ≠ some c' ∧ av.ownBlock ≠ some c')
    (hO : w7.ownsRow W.heap.size 56 1 (.slice (some ⟨g7, 0, none⟩) (n + 1) cp) (n + 1) (kb.map pv ++ [pv q1])) (hG : w.grownBy w7 (Value.slice a n c).ownBlock) (hat : (Value.slice a n c).ownBlock = some g7 ∨ g7 = w.heap.size) :
    (w7.cell? ⟨q, 5, none⟩ = some (.slice a n c) ∧ w7.frozen? ⟨q, 5, none⟩ = false) ∧ KB B0 b W U T q t (w7.setCell ⟨q, 5, none⟩ (.slice (some ⟨g7, 0, none⟩) (n + 1) cp)) U' T' (kb ++ [q1]) ab (.slice (some ⟨g7, 0, none⟩) (n + 1) cp) av (fun c' => P c' ∨ S1 c') (Tm.app tk t1) ta := by
  have kg : Kept (fun c' => (Value.slice a n c).ownBlock ≠ some c') w w7 := Kept.grown hG (fun c' hc hx => hx hc)
  have ks : Kept (fun c' => c' ≠ q) w7 (w7.setCell ⟨q, 5, none⟩ (.slice (some ⟨g7, 0, none⟩) (n + 1) cp)) := Kept.setCell _ _ _ _ (by simp)
  have kk : Kept (fun c' => c' ≠ q ∧ (Value.slice a n c).ownBlock ≠ some c') w (w7.setCell ⟨q, 5, none⟩ (.slice (some ⟨g7, 0, none⟩) (n + 1) cp)) := (kg.mono (fun _ _ hc => hc.2)).trans (ks.mono (fun _ _ hc => hc.1))
  have hq7 : (Value.slice a n c).ownBlock ≠ some q := fun e => (h.kq q e).1 rfl
  obtain ⟨no, g, ns, x1, x2, x3, x4⟩ := h.bx
  have x7 := x1.kept kg hq7
  have hz := kk.size
  obtain ⟨q1', q2', q3'⟩ := h.qq
  have g1 : W.heap.size ≤ g7 ∧ g7 ≠ q ∧ ¬ U' g7 ∧ av.ownBlock ≠ some g7 := by
    rcases hat with e | e
    · obtain ⟨e1, e2, e3⟩ := h.kq g7 e
      exact ⟨(World.ownsRow.lt h.kr g7 e).1, e1, e2, e3⟩
    · have hw := h.ch.kp.size
      refine ⟨by omega, by omega, fun e2 => by have := (h.bk.lo g7 e2).2; omega, fun e2 => by have := (World.ownsRow.lt h.ar g7 e2).2; omega⟩
  have hPP : ∀ c', (P c' ∨ S1 c') → W.heap.size ≤ c' ∧ c' < w.heap.size ∧ ¬ U' c' ∧ c' ≠ q ∧ (Value.slice a n c).ownBlock ≠ some c' ∧ av.ownBlock ≠ some c' := fun c' hc => hc.elim (h.pp c') (hS c')
  have hK : ∀ c', (P c' ∨ S1 c') → (c' ≠ q ∧ (Value.slice a n c).ownBlock ≠ some c') ∧ c' < w.heap.size := fun c' hc => by
    obtain ⟨-, e2, -, e4, e5, -⟩ := hPP c' hc
    exact ⟨⟨e4, e5⟩, e2⟩
  refine ⟨⟨x7.cel 5 _ rfl, x7.live 5⟩, ⟨h.bk.kept kk (fun c' hc => ⟨fun e => q3' (by rw [← e]; exact hc), fun e => (h.kq c' e).2.1 hc⟩), ?_, h.pre, ⟨no, g, ns, ?_, x2, ?_, x4⟩, ⟨q1', by omega, q3'⟩, ?_, ?_, ?_, h.aq, ?_, ?_, ?_⟩⟩
  · have hw := h.ch.kp.size
    refine h.ch.keep (kk.mono (fun c' _ hc => ⟨by omega, fun e => ?_⟩))
    have := (World.ownsRow.lt h.kr c' e).1
    omega
  · exact x7.put 5 (.slice (some ⟨g7, 0, none⟩) (n + 1) cp) (by simp [kcs])
  · exact (x3.mono (fun _ hc => .inl hc)).kept kk hK
  · rw [List.length_append, List.map_append, ← hn]
    exact ownsRow_kept hO ks (fun c' e => by have e2 : g7 = c' := Option.some.inj e; rw [← e2]; exact g1.2.1)
  · exact ownsRow_kept h.ar kk (fun c' e => ⟨(h.aq c' e).1, fun e2 => (h.kq c' e2).2.2 e⟩)
  · intro c' e
    have e2 : g7 = c' := Option.some.inj e
    rw [← e2]
    exact ⟨g1.2.1, g1.2.2.1, g1.2.2.2⟩
  · intro c' hc
    obtain ⟨e1, e2, e3, e4, e5, e6⟩ := hPP c' hc
    refine ⟨e1, by omega, e3, e4, fun e => ?_, e6⟩
    have e7 : g7 = c' := Option.some.inj e
    rcases hat with e8 | e8
    · exact e5 (by rw [← e7]; exact e8)
    · omega
  · exact Kn.app (Kn.kept kk hK _ _ _ (Kn.mono (fun _ hc => .inr hc) (List.prefix_refl _) _ _ _ h1)) _ _ (Kn.kept kk hK _ _ _ (Kn.mono (fun _ hc => .inl hc) (List.prefix_refl _) _ _ _ h.kn))
  · exact Kn.kept kk hK _ _ _ (Kn.mono (fun _ hc => .inl hc) (List.prefix_refl _) _ _ _ h.an)

/-- An alternative more. -/
theorem KB.alt {S1 : Nat → Prop} {q1 : Nat} {t1 : Tm} {a : Option Addr} {c n g7 cp : Nat} {w7 : World} (h : KB B0 b W U T q t w U' T' kb ab kv (.slice a n c) P tk ta) (hn : n = ab.length) (h1 : Kn w S1 T' true t1 [q1]) (hS : ∀ c', S1 c' → W.heap.size ≤ c' ∧ c' < w.heap.size ∧ ¬ U' c' ∧ c' ≠ q ∧ kv.ownBlock ≠ some c' ∧ (Value.slice a n c).ownBlock ≠ some c')
    (hO : w7.ownsRow W.heap.size 101 1 (.slice (some ⟨g7, 0, none⟩) (n + 1) cp) (n + 1) (ab.map pv ++ [pv q1])) (hG : w.grownBy w7 (Value.slice a n c).ownBlock) (hat : (Value.slice a n c).ownBlock = some g7 ∨ g7 = w.heap.size) :
    (w7.cell? ⟨q, 6, none⟩ = some (.slice a n c) ∧ w7.frozen? ⟨q, 6, none⟩ = false) ∧ KB B0 b W U T q t (w7.setCell ⟨q, 6, none⟩ (.slice (some ⟨g7, 0, none⟩) (n + 1) cp)) U' T' kb (ab ++ [q1]) kv (.slice (some ⟨g7, 0, none⟩) (n + 1) cp) (fun c' => P c' ∨ S1 c') tk (Tm.app ta t1) := by
  have kg : Kept (fun c' => (Value.slice a n c).ownBlock ≠ some c') w w7 := Kept.grown hG (fun c' hc hx => hx hc)
  have ks : Kept (fun c' => c' ≠ q) w7 (w7.setCell ⟨q, 6, none⟩ (.slice (some ⟨g7, 0, none⟩) (n + 1) cp)) := Kept.setCell _ _ _ _ (by simp)
  have kk : Kept (fun c' => c' ≠ q ∧ (Value.slice a n c).ownBlock ≠ some c') w (w7.setCell ⟨q, 6, none⟩ (.slice (some ⟨g7, 0, none⟩) (n + 1) cp)) := (kg.mono (fun _ _ hc => hc.2)).trans (ks.mono (fun _ _ hc => hc.1))
  have hq7 : (Value.slice a n c).ownBlock ≠ some q := fun e => (h.aq q e).1 rfl
  obtain ⟨no, g, ns, x1, x2, x3, x4⟩ := h.bx
  have x7 := x1.kept kg hq7
  have hz := kk.size
  obtain ⟨q1', q2', q3'⟩ := h.qq
  have g1 : W.heap.size ≤ g7 ∧ g7 ≠ q ∧ ¬ U' g7 ∧ kv.ownBlock ≠ some g7 := by
    rcases hat with e | e
    · obtain ⟨e1, e2⟩ := h.aq g7 e
      exact ⟨(World.ownsRow.lt h.ar g7 e).1, e1, e2, fun e3 => (h.kq g7 e3).2.2 e⟩
    · have hw := h.ch.kp.size
      refine ⟨by omega, by omega, fun e2 => by have := (h.bk.lo g7 e2).2; omega, fun e2 => by have := (World.ownsRow.lt h.kr g7 e2).2; omega⟩
  have hPP : ∀ c', (P c' ∨ S1 c') → W.heap.size ≤ c' ∧ c' < w.heap.size ∧ ¬ U' c' ∧ c' ≠ q ∧ kv.ownBlock ≠ some c' ∧ (Value.slice a n c).ownBlock ≠ some c' := fun c' hc => hc.elim (h.pp c') (hS c')
  have hK : ∀ c', (P c' ∨ S1 c') → (c' ≠ q ∧ (Value.slice a n c).ownBlock ≠ some c') ∧ c' < w.heap.size := fun c' hc => by
    obtain ⟨-, e2, -, e4, -, e6⟩ := hPP c' hc
    exact ⟨⟨e4, e6⟩, e2⟩
  refine ⟨⟨x7.cel 6 _ rfl, x7.live 6⟩, ⟨h.bk.kept kk (fun c' hc => ⟨fun e => q3' (by rw [← e]; exact hc), fun e => (h.aq c' e).2 hc⟩), ?_, h.pre, ⟨no, g, ns, ?_, x2, ?_, x4⟩, ⟨q1', by omega, q3'⟩, ?_, ?_, ?_, ?_, ?_, ?_, ?_⟩⟩
  · have hw := h.ch.kp.size
    refine h.ch.keep (kk.mono (fun c' _ hc => ⟨by omega, fun e => ?_⟩))
    have := (World.ownsRow.lt h.ar c' e).1
    omega
  · exact x7.put 6 (.slice (some ⟨g7, 0, none⟩) (n + 1) cp) (by simp [kcs])
  · exact (x3.mono (fun _ hc => .inl hc)).kept kk hK
  · exact ownsRow_kept h.kr kk (fun c' e => ⟨(h.kq c' e).1, (h.kq c' e).2.2⟩)
  · rw [List.length_append, List.map_append, ← hn]
    exact ownsRow_kept hO ks (fun c' e => by have e2 : g7 = c' := Option.some.inj e; rw [← e2]; exact g1.2.1)
  · intro c' e
    refine ⟨(h.kq c' e).1, (h.kq c' e).2.1, fun e2 => ?_⟩
    have e3 : g7 = c' := Option.some.inj e2
    exact g1.2.2.2 (by rw [e3]; exact e)
  · intro c' e
    have e2 : g7 = c' := Option.some.inj e
    rw [← e2]
    exact ⟨g1.2.1, g1.2.2.1⟩
  · intro c' hc
    obtain ⟨e1, e2, e3, e4, e5, e6⟩ := hPP c' hc
    refine ⟨e1, by omega, e3, e4, e5, fun e => ?_⟩
    have e7 : g7 = c' := Option.some.inj e
    rcases hat with e8 | e8
    · exact e6 (by rw [← e7]; exact e8)
    · omega
  · exact Kn.kept kk hK _ _ _ (Kn.mono (fun _ hc => .inl hc) (List.prefix_refl _) _ _ _ h.kn)
  · exact Kn.app (Kn.kept kk hK _ _ _ (Kn.mono (fun _ hc => .inr hc) (List.prefix_refl _) _ _ _ h1)) _ _ (Kn.kept kk hK _ _ _ (Kn.mono (fun _ hc => .inl hc) (List.prefix_refl _) _ _ _ h.an))

theorem pr_of {w : World} {S : Nat → Prop} {B n : Nat} {e : TypeId} {v : Value} {bs : List Nat} (h : w.ownsRow B e 1 v n (bs.map pv)) (hS : ∀ c, v.ownBlock = some c → S c) : ∃ a c, v = .slice a bs.length c ∧ PR w S a bs := by
  have hl := h.1
  rw [List.length_map, Nat.mul_one] at hl
  rcases h.2 with ⟨rfl, rfl⟩ | ⟨g, cap, cur, rfl, hb, hg, hnc, hcm, hcs, ht⟩
  · have e : bs = [] := List.length_eq_zero_iff.1 hl
    subst e
    exact ⟨none, 0, rfl, fun hx => absurd rfl hx⟩
  · refine ⟨_, cap, by rw [hl], fun _ => ⟨g, rfl, hS g rfl, fun i q hq => ?_⟩⟩
    have h2 := h.cells (g := g) rfl i (pv q) (by rw [List.getElem?_map, hq]; rfl)
    rw [addr_add, Nat.zero_add] at h2
    exact h2

/-- The knot is made. -/
theorem KB.done (h : KB B0 b W U T q t w U' T' kb ab kv av P tk ta) (con : ByteArray) (lm : List Int) : Kn w (fun c => W.heap.size ≤ c ∧ c < w.heap.size ∧ ¬ U' c) T' false (.nd ⟨con, [], t.k, t.nm, t.mn, lm, t.xs⟩ tk ta .nil) [q] := by
  obtain ⟨no, g, ns, x1, x2, x3, x4⟩ := h.bx
  have hP : ∀ c, P c → W.heap.size ≤ c ∧ c < w.heap.size ∧ ¬ U' c := fun c hc => ⟨(h.pp c hc).1, (h.pp c hc).2.1, (h.pp c hc).2.2.1⟩
  obtain ⟨a1, c1, e1, p1⟩ := pr_of (S := fun c => W.heap.size ≤ c ∧ c < w.heap.size ∧ ¬ U' c) h.kr (fun c e => ⟨(World.ownsRow.lt h.kr c e).1, (World.ownsRow.lt h.kr c e).2, (h.kq c e).2.1⟩)
  obtain ⟨a2, c2, e2, p2⟩ := pr_of (S := fun c => W.heap.size ≤ c ∧ c < w.heap.size ∧ ¬ U' c) h.ar (fun c e => ⟨(World.ownsRow.lt h.ar c e).1, (World.ownsRow.lt h.ar c e).2, (h.aq c e).2⟩)
  refine ⟨q, q, [], kb, ab, rfl, rfl, ⟨h.qq, x1.cel 0 _ rfl, ⟨no, x1.cel 1 _ rfl, x2⟩, ⟨_, _, ns, x1.cel 4 _ rfl, x3.mono hP, x4⟩, ⟨a1, c1, ?_, p1⟩, ⟨a2, c2, ?_, p2⟩⟩, Kn.mono hP (List.prefix_refl _) _ _ _ h.kn, Kn.mono hP (List.prefix_refl _) _ _ _ h.an, rfl⟩
  · rw [← e1]; exact x1.cel 5 _ rfl
  · rw [← e2]; exact x1.cel 6 _ rfl
end

end Go.Proofs.Ytcnokpaicnjkfaa.F
