import Derived.Test.YtcnokpaicnjkfaaJN
namespace Go.Proofs.Ytcnokpaicnjkfaa.F
open Go.RowKit Go.Joins

/-- knotOf: its contract for terms of at most m cells. -/
def KoC (m : Nat) : Prop := ∀ (B0 b : Nat) (d : Nd) (W : World) (U : Nat → Prop) (T : List ByteArray), d.x.size ≤ m → d.x.wt ≤ 1048576 → T.length + d.x.size ≤ 16777216 → d.Ok W (fun c => c < B0) → BK B0 b W U T →
  Calls Try.prog 26 #[.pointer (some ⟨b, 0, none⟩), d.ptr] W fun e w => ∃ v, e = .returned v ∧ ∃ (q : Nat) (U' : Nat → Prop) (T' : List ByteArray), v = .pointer (some ⟨q, 0, none⟩) ∧ BK B0 b w U' T' ∧ Chg W w U U' ∧ T <+: T' ∧ T'.length ≤ T.length + d.x.size ∧ Kn w (fun c => W.heap.size ≤ c ∧ c < w.heap.size ∧ ¬ U' c) T' false (rdK d.x) [q]

theorem rdS_wt : ∀ F : Fo, ∀ x ∈ rdS F, x.size ≤ F.wt
  | .nil, x, h => by simp [rdS] at h
  | .v y r, x, h => by
    cases y with
    | string t =>
      simp only [rdS, List.mem_cons] at h
      simp only [Fo.wt, textSize]
      rcases h with rfl | h
      · omega
      · have := rdS_wt r x h
        omega
    | _ => simp [rdS] at h
  | .s _ _ _ _ _, x, h => by simp [rdS] at h

theorem ir_of {w : World} {B n : Nat} {g : Nat} {ns : List Nat} {c : Nat} {zs : List Value} {S : Nat → Prop} (h : w.ownsRow B 3 1 (.slice (some ⟨g, 0, none⟩) n c) n (ns.map iv ++ zs)) (hS : S g) : IR w S (some ⟨g, 0, none⟩) ns := fun _ => ⟨g, rfl, hS, fun i m hi => ownsRow_cell h i _ (by rw [List.getElem?_append_left (by rw [List.length_map]; exact (List.getElem?_eq_some_iff.1 hi).1), List.getElem?_map, hi]; rfl)⟩

/-- A knot begins. -/
theorem KB.start {B0 b : Nat} {W W5 W6 W7 : World} {U U1 U2 : Nat → Prop} {T T1 T2 : List ByteArray} {t : Th} {no : Nat} {ns : List Nat} (c1 : Chg W W5 U U1) (p1 : T <+: T1) (hn : T1[no]? = some t.nm) (ni : NI B0 b W5 U1 T1 t.xs t.xs.length W6 U2 T2 ns)
    (k7 : Kept (fun _ => True) W6 W7) (bx : Bx W7 W6.heap.size (kcs t.k no t.mn t.la t.ln t.lc W5.heap.size t.xs.length (.slice none 0 0) (.slice none 0 0))) :
    KB B0 b W U T W6.heap.size t W7 U2 T2 [] [] (.slice none 0 0) (.slice none 0 0) (fun c => c = W5.heap.size) .nil .nil := by
  have hg := ownsRow_le ni.ow
  have hz5 := c1.kp.size
  have hz6 := ni.ch.kp.size
  have ow7 := ownsRow_kept ni.ow k7 (fun _ _ => trivial)
  refine ⟨ni.bk.kept k7 (fun _ _ => trivial), (c1.trans ni.ch).keep (k7.mono (fun _ _ _ => trivial)), p1.trans ni.pre, ⟨no, W5.heap.size, ns, bx, pre_get ni.pre hn, ir_of ow7 rfl, ?_⟩, ⟨by omega, bx.lt, fun e => by have := (ni.bk.lo _ e).2; omega⟩, ⟨rfl, .inl ⟨rfl, rfl⟩⟩, ⟨rfl, .inl ⟨rfl, rfl⟩⟩, (fun c e => by cases e), (fun c e => by cases e), (fun c hc => ?_), rfl, rfl⟩
  · have := ni.nn
    rw [List.take_length] at this
    exact this
  · rw [hc]
    have hk := k7.size
    exact ⟨hz5, by omega, ni.nu, by omega, (fun e => by cases e), (fun e => by cases e)⟩

/-- A knot of a term is that of an alternative's body. -/
theorem Kn.toAlt {w : World} {S : Nat → Prop} {T : List ByteArray} {h h' : Hd} {ks al : Tm} {p q : Nat} (k : Kn w S T false (.nd h ks al .nil) [q]) (e1 : h'.k = h.k) (e2 : h'.nm = h.nm) (e3 : h'.ns = h.ns) (a : AltAt w S T p h' q) : Kn w S T true (.nd h' ks al .nil) [p] := by
  obtain ⟨p', q', rest, kb, ab, e, h1, h2, h3, h4, h5⟩ := k
  have e0 : q = p' := by injection e
  have e4 : p' = q' := h1
  rw [e0, e4] at a
  refine ⟨p, q', [], kb, ab, rfl, a, ⟨h2.at_, ?_, ?_, ?_, h2.kb, h2.ab⟩, h3, h4, rfl⟩
  · rw [e1]; exact h2.k
  · rw [e2]; exact h2.nm
  · rw [e3]; exact h2.ns

/-- An alternative is made. -/
theorem alt_made {B0 b : Nat} {V1 V2 V3 V4 : World} {U1 U2 U3 : Nat → Prop} {T1 T2 T3 : List ByteArray} {cs : List ByteArray} {ns : List Nat} {q1 : Nat} {h h' : Hd} {ks al : Tm} {cv : Value} (ni : NI B0 b V1 U1 T1 cs cs.length V2 U2 T2 ns) (c3 : Chg V2 V3 U2 U3) (b3 : BK B0 b V3 U3 T3) (p3 : T2 <+: T3)
    (kn : Kn V3 (fun c => V2.heap.size ≤ c ∧ c < V3.heap.size ∧ ¬ U3 c) T3 false (.nd h ks al .nil) [q1]) (e1 : h'.k = h.k) (e2 : h'.nm = h.nm) (e3 : h'.ns = h.ns) (e4 : h'.cs = cs) (k4 : Kept (fun _ => True) V3 V4) (bx : Bx V4 V3.heap.size [cv, .slice (some ⟨V1.heap.size, 0, none⟩) cs.length cs.length, pv q1]) :
    Kn V4 (fun c => V1.heap.size ≤ c ∧ c < V4.heap.size ∧ ¬ U3 c) T3 true (.nd h' ks al .nil) [V3.heap.size] := by
  have hg := ownsRow_le ni.ow
  have hz2 := ni.ch.kp.size
  have hz3 := c3.kp.size
  have hz4 := k4.size
  have hb := bx.lt
  have ow3 := ownsRow_kept ni.ow c3.kp (fun c e => by have e2 : V1.heap.size = c := Option.some.inj e; rw [← e2]; exact ni.nu)
  have ow4 := ownsRow_kept ow3 k4 (fun _ _ => trivial)
  have hn3 : ¬ U3 V1.heap.size := fun e => by
    rcases c3.new _ e with e2 | e2
    · exact ni.nu e2
    · omega
  have kn4 := Kn.mono (S' := fun c => V1.heap.size ≤ c ∧ c < V4.heap.size ∧ ¬ U3 c) (fun c hc => ⟨by omega, by omega, hc.2.2⟩) (List.prefix_refl _) _ _ _ (Kn.kept k4 (fun c hc => ⟨trivial, hc.2.1⟩) _ _ _ kn)
  have hp : ¬ U3 V3.heap.size := fun e => by have := (b3.lo _ e).2; omega
  have hn4 := ni.nn.ext p3
  rw [List.take_length] at hn4
  have ha : AltAt V4 (fun c => V1.heap.size ≤ c ∧ c < V4.heap.size ∧ ¬ U3 c) T3 V3.heap.size h' q1 :=
    ⟨⟨by omega, hb, hp⟩, ⟨some ⟨V1.heap.size, 0, none⟩, cs.length, ns, by rw [e4]; exact bx.cel 1 _ rfl, ir_of ow4 ⟨Nat.le_refl _, by omega, hn3⟩, by rw [e4]; exact hn4⟩, bx.cel 2 _ rfl⟩
  exact Kn.toAlt kn4 e1 e2 e3 ha

/-- What number answers. -/
def NoP (B0 b : Nat) (w : World) (U : Nat → Prop) (T : List ByteArray) (x : ByteArray) (v : Value) (w' : World) : Prop := ∃ (i : Nat) (U' : Nat → Prop) (T' : List ByteArray), v = .int .i64 i ∧ T'[i]? = some x ∧ BK B0 b w' U' T' ∧ Chg w w' U U' ∧ T <+: T' ∧ T'.length ≤ T.length + 1

theorem BK.number2 {B0 b : Nat} {w : World} {U : Nat → Prop} {T : List ByteArray} (h : BK B0 b w U T) (x : ByteArray) (hx : x.size ≤ 16777216) (hT : T.length ≤ 16777216) :
    Calls Try.prog 48 #[.pointer (some ⟨b, 0, none⟩), .string x] w fun e w' => ∃ v, e = .returned v ∧ NoP B0 b w U T x v w' := by
  refine (h.number x hx hT).mono ?_
  rintro e w' ⟨i, U', T', rfl, h⟩
  exact ⟨_, rfl, i, U', T', rfl, h⟩

/-- What numbersOf answers. -/
def NsP (B0 b : Nat) (W : World) (U : Nat → Prop) (T : List ByteArray) (xs : List ByteArray) (v : Value) (w : World) : Prop := ∃ (U' : Nat → Prop) (T' : List ByteArray) (ns : List Nat), v = .slice (some ⟨W.heap.size, 0, none⟩) xs.length xs.length ∧ NI B0 b W U T xs xs.length w U' T' ns

theorem i_numbers2 {B0 b : Nat} {W : World} {U : Nat → Prop} {T : List ByteArray} (h : BK B0 b W U T) (a : Option Addr) (n c : Nat) (xs : List ByteArray) (hn : xs.length = n) (hs : SR W (fun d => d < B0) a c xs) (hx : ∀ x ∈ xs, x.size ≤ 16777216) (hT : T.length + xs.length ≤ 16777216) :
    Calls Try.prog 49 #[.pointer (some ⟨b, 0, none⟩), .slice a n c] W fun e w => ∃ v, e = .returned v ∧ NsP B0 b W U T xs v w := by
  rw [← hn]
  refine (i_numbers h a c xs hs hx hT).mono ?_
  rintro e w ⟨U', T', ns, rfl, h⟩
  exact ⟨_, rfl, U', T', ns, rfl, h⟩

theorem Try.info56 : (Try.prog.info? 56).map (fun i => (i.zero, i.size, i.bytes)) = some (some (.pointer none), 1, 8) := by kernel_rfl
theorem Try.info101 : (Try.prog.info? 101).map (fun i => (i.zero, i.size, i.bytes)) = some (some (.pointer none), 1, 8) := by kernel_rfl

end Go.Proofs.Ytcnokpaicnjkfaa.F
