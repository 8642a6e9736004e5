import Derived.Test.YtjfoagmenehapaaDoorShowG
namespace Go.Proofs.YtjfoagmenehapaaDoor
open Go.RowKit Go.Shelf Go.Joins

attribute [local go_sem] Oper.semAt_some

/-- The builder, apart from the blocks of O. -/
def BI (B b : Nat) (l : List UInt8) (O : Nat → Prop) (W : World) : Prop :=
  ∃ p v, (p = .pointer none ∨ p = .pointer (some ⟨b, 0, none⟩)) ∧ B ≤ b ∧ W.heap[b]? = some (.cells #[p, v] 39 (0, 0)) ∧ W.ownsRowF B 5 1 v (Lib.byteCells l).length (Lib.byteCells l) ∧ v.ownBlock ≠ some b ∧ (∀ g, v.ownBlock = some g → ¬ O g) ∧ ¬ O b

theorem BI.is {B b : Nat} {l : List UInt8} {O : Nat → Prop} {W : World} (h : BI B b l O W) : Lib.IsBuilderF 39 5 B b (Lib.byteCells l) W := by
  obtain ⟨p, v, hp, hB, hb, hown, hne, -, -⟩ := h
  rcases hp with rfl | rfl
  · exact .inl ⟨hB, v, hb, hown, hne⟩
  · exact .inr ⟨hB, v, hb, hown, hne⟩

theorem BI.of {B b : Nat} {l : List UInt8} {O : Nat → Prop} {W : World} (h : Lib.IsBuilderF 39 5 B b (Lib.byteCells l) W) (hO : ∀ x, O x → NB W x) (hb : ¬ O b) : BI B b l O W := by
  have key : ∀ p, Lib.BuilderAtF 39 5 B b p (Lib.byteCells l) W → (p = .pointer none ∨ p = .pointer (some ⟨b, 0, none⟩)) → BI B b l O W := by
    rintro p ⟨hB, v, hbk, hown, hne⟩ hp
    refine ⟨p, v, hp, hB, hbk, hown, hne, fun g hg hx => ?_, hb⟩
    obtain ⟨o, ho, hn⟩ := hO g hx
    rcases hown.2 with ⟨rfl, _⟩ | ⟨g', cap, cur, fz, rfl, _, hg', _⟩
    · simp [Value.ownBlock] at hg
    · simp only [Value.ownBlock, Option.some.injEq] at hg
      subst hg
      rw [hg'] at ho
      cases ho
      exact hn _ _ rfl
  rcases h with h | h
  · exact key _ h (.inl rfl)
  · exact key _ h (.inr rfl)

theorem BI.abid {B b : Nat} {l : List UInt8} {O O' : Nat → Prop} {A C : World} (h : BI B b l O A) (k : Kept (fun x => ¬ O x) A C) (hn : ∀ x, O' x → O x ∨ A.heap.size ≤ x) : BI B b l O' C := by
  obtain ⟨p, v, hp, hB, hb, hown, hne, hg, hO⟩ := h
  have hbl : b < A.heap.size := (Array.getElem?_eq_some_iff.1 hb).1
  refine ⟨p, v, hp, hB, (k.block b hbl hO).trans hb, ?_, hne, fun g e x => ?_, fun x => ?_⟩
  · refine ⟨hown.1, ?_⟩
    rcases hown.2 with h' | ⟨g', cap, cur, fz, rfl, h1, h2, h3⟩
    · exact .inl h'
    · exact .inr ⟨g', cap, cur, fz, rfl, h1, (k.block g' (Array.getElem?_eq_some_iff.1 h2).1 (hg g' rfl)).trans h2, h3⟩
  · have hgl : g < A.heap.size := (hown.lt g e).2
    rcases hn g x with y | y
    · exact hg g e y
    · omega
  · rcases hn b x with y | y
    · exact hO y
    · omega

theorem NB.set {W : World} {c j : Nat} (v : Value) (h : NB W c) : NB (W.setCell ⟨c, j, none⟩ v) c := by
  obtain ⟨o, ho, hn⟩ := h
  have hl : c < W.heap.size := (Array.getElem?_eq_some_iff.1 ho).1
  have hq : (W.setCell ⟨c, j, none⟩ v).heap[c]? = some (match o with | .cells cs t fr => .cells (cs.setIfInBounds j v) t fr | o => o) := by
    simp only [World.setCell, Array.getElem?_modify, if_true, ho, Option.map_some]
    cases o <;> simp
  refine ⟨_, hq, ?_⟩
  intro cs fz e
  cases o with
  | cells cs' t' fr =>
    simp only [Obj.cells.injEq] at e
    obtain ⟨-, rfl, -⟩ := e
    exact hn _ _ rfl
  | _ => exact hn _ _ e

theorem builder_setCell {B b c j : Nat} {bs : List Value} {W : World} (v : Value) (h : Lib.IsBuilderF 39 5 B b bs W) (hc : NB W c) (hb : c ≠ b) : Lib.IsBuilderF 39 5 B b bs (W.setCell ⟨c, j, none⟩ v) := by
  have key : ∀ p, Lib.BuilderAtF 39 5 B b p bs W → Lib.BuilderAtF 39 5 B b p bs (W.setCell ⟨c, j, none⟩ v) := by
    rintro p ⟨hB, u, hbk, hown, hne⟩
    refine ⟨hB, u, (Below.heap_setCell _ _ _ _ (by show b ≠ c; omega)).trans hbk, ⟨hown.1, ?_⟩, hne⟩
    rcases hown.2 with h' | ⟨g, cap, cur, fz, rfl, h1, h2, h3⟩
    · exact .inl h'
    · have hgc : g ≠ c := by
        rintro rfl
        obtain ⟨o, ho, hn⟩ := hc
        rw [h2] at ho
        cases ho
        exact hn _ _ rfl
      exact .inr ⟨g, cap, cur, fz, rfl, h1, (Below.heap_setCell _ _ _ _ hgc).trans h2, h3⟩
  exact h.elim (fun x => .inl (key _ x)) (fun x => .inr (key _ x))

theorem flat_hex (m : List UInt8) : (m.flatMap hexb).length = m.length * 2 := by
  induction m with
  | nil => rfl
  | cons x m ih => simp only [List.flatMap_cons, List.length_append, ih, List.length_cons, hexb, List.length_nil]; omega

theorem alone_len {k : Int} {nm : ByteArray} (hk : (Lit.int .i64 k).wf = true) : (alone k nm).length ≤ 22 + nm.size * 2 := by
  obtain ⟨k0, k1⟩ := wf_range hk
  have hil := Lib.itoa_length_le k k0 k1
  unfold alone
  rw [List.length_append]
  split
  · simp; omega
  · have e : nm.data.toList.length = nm.size := Array.length_toList
    rw [List.length_cons, flat_hex, e]
    omega

theorem fold_bound (M : Nat) : ∀ (L : List (Nat × Int × ByteArray)) (out : List UInt8) (s : Nat), s ≤ M → (∀ p ∈ L, p.1 ≤ M ∧ p.2.2.size ≤ M ∧ (Lit.int .i64 p.2.1).wf = true) →
    (L.foldl stepS (out, s)).1.length ≤ out.length + L.length * (3 * M + 24) ∧ (L.foldl stepS (out, s)).2 ≤ M
  | [], out, s, hs, _ => by simp [hs]
  | p :: L, out, s, hs, hp => by
    obtain ⟨h1, h2, h3⟩ := hp p (List.mem_cons_self)
    have hal := alone_len (nm := p.2.2) h3
    have hpf : (pfx s p.1).length ≤ M + 1 := by
      unfold pfx
      split
      · simp
      · split
        · simp
        · simp; omega
    obtain ⟨e1, e2⟩ := fold_bound M L (out ++ pfx s p.1 ++ alone p.2.1 p.2.2) p.1 h1 (fun q hq => hp q (List.mem_cons_of_mem _ hq))
    rw [List.foldl_cons]
    refine ⟨?_, e2⟩
    show (L.foldl stepS (out ++ pfx s p.1 ++ alone p.2.1 p.2.2, p.1)).1.length ≤ _
    simp only [List.length_append, List.length_cons, Nat.add_mul, Nat.one_mul] at e1 ⊢
    omega

/-- How far the text has come. -/
def ShI (w : World) (b c : Nat) (LN : List (Nat × Int × ByteArray)) (k : Nat) (O : Nat → Prop) (W : World) : Prop :=
  (W.cell? ⟨c, 0, none⟩ = some (.int .i64 (((LN.take k).foldl stepS ([], 0)).2 : Int)) ∧ W.frozen? ⟨c, 0, none⟩ = false ∧ ¬ O c ∧ NB W c) ∧ BI w.heap.size b ((LN.take k).foldl stepS ([], 0)).1 O W ∧ Below w.heap.size w W ∧ ∀ x, O x → w.heap.size ≤ x

theorem ShI.abid (w : World) (b c : Nat) (LN : List (Nat × Int × ByteArray)) : Abid (ShI w b c LN) := by
  rintro k O O' A C ⟨⟨h1, h2, h3, h6⟩, hb, h4, h5⟩ hK hn
  have hl : c < A.heap.size := h6.lt
  refine ⟨⟨(hK.cell (p := ⟨c, 0, none⟩) hl h3).trans h1, (hK.frozen (p := ⟨c, 0, none⟩) hl h3).trans h2, fun x => ?_, h6.kept hK h3⟩, hb.abid hK hn, Below.kept h4 hK (fun x hx y => ?_) (Nat.le_refl _), fun x y => ?_⟩
  · rcases hn c x with y | y
    · exact h3 y
    · omega
  · have := h5 x y; omega
  · rcases hn x y with z | z
    · exact h5 x z
    · have := h4.size; omega

set_option maxHeartbeats 1000000 in
theorem nodesOf_in (F : Fence) (n : Nat) (h12 : F.fn 12) (hro : F.round = none) (k : Int) (nm : ByteArray) (a : Option Addr) (len cap : Nat) (w : World) :
    CallsIn F n Tryd.prog 12 #[.agg #[.int .i64 k, .string nm, .slice a len cap]] w fun e w' => e = .returned (.func (.func 19) #[] #[.pointer (some ⟨w.heap.size, 0, none⟩)]) ∧ w' = w.alloc (.cells #[.int .i64 k, .string nm, .slice a len cap] 29) := by
  refine callsIn_of_wp Tryd.func12 rfl h12 ?_ hro
  simp only [Tryd.ntmps12, List.size_toArray, List.length_cons, List.length_nil, Nat.reduceAdd, Nat.reduceSub, Array.replicate_succ, Array.replicate_zero, List.push_toArray, List.append_toArray, List.nil_append, List.cons_append]
  gi_wp2_with fail
  exact bodyPost_ret (results_tmp rfl _ _ _) rfl ⟨rfl, rfl⟩

set_option maxRecDepth 100000 in
set_option maxHeartbeats 2000000 in
theorem ishow_in (n : Nat) (hn : 3 ≤ n) (k : Int) (nm : ByteArray) (a : Option Addr) (cap : Nat) (ks : Fo) (w : World) (hk : (Lit.int .i64 k).wf = true) (hnm : nm.size + ks.tot ≤ 1048576) (hs : ks.Sl w (fun b => b < w.heap.size) a cap) (ht : TabB w.heap.size w) :
    CallsIn Fence.wide n Tryd.prog 7 #[.agg #[.int .i64 k, .string nm, .slice a ks.len cap]] w fun e W' => e = .returned (.string ⟨(showR (.cons k nm a cap ks .nil)).toArray⟩) ∧ Below w.heap.size w W' := by
  have h1 : 1 ≤ n := by omega
  refine callsIn_of_wp_marks Tryd.func7 rfl trivial ?_ rfl
  simp only [Tryd.ntmps7, List.size_toArray, List.length_cons, List.length_nil, Nat.reduceAdd, Nat.reduceSub, Array.replicate_succ, Array.replicate_zero, List.push_toArray, List.append_toArray, List.nil_append, List.cons_append]
  gi_wp2_with (refine ⟨trivial, ?_⟩; gi_at_call 12; refine (nodesOf_in Fence.wide (n - 1) trivial rfl _ _ _ _ _ _).mono ?_; rintro e w' ⟨rfl, rfl⟩)
  obtain ⟨A, hA⟩ : ∃ A, (w.alloc (.cells #[.int .i64 k, .string nm, .slice a ks.len cap] 29)).alloc (.cells #[.pointer none, .slice none 0 0] 39) = A := ⟨_, rfl⟩
  obtain ⟨W0, hW0⟩ : ∃ W0, (A.alloc (.cells #[.int .i64 0] 2)).alloc (.cells #[.int .i64 k, .string nm, .slice a ks.len cap] 29) = W0 := ⟨_, rfl⟩
  have zA : A.heap.size = w.heap.size + 1 + 1 := by rw [← hA]; simp
  have bA : Below w.heap.size w A := by rw [← hA]; exact below_alloc2 _ _ _
  have bB : Below A.heap.size A W0 := by rw [← hW0]; exact below_alloc2 _ _ _
  have z0 : W0.heap.size = w.heap.size + 4 := by rw [← hW0]; simp [zA]
  have hB0 : Below w.heap.size w W0 := bA.trans (bB.mono (by omega))
  have q0 : Box3 W0 (w.heap.size + 1 + 1 + 1) (.int .i64 k) (.string nm) (.slice a ks.len cap) := by
    rw [← hW0]
    have := Box3.new (A.alloc (.cells #[.int .i64 0] 2)) (.int .i64 k) (.string nm) (.slice a ks.len cap) 29
    simpa [zA] using this
  have hbk : W0.heap[w.heap.size + 1]? = some (.cells #[.pointer none, .slice none 0 0] 39) := by
    refine (bB.block _ (by omega)).trans ?_
    rw [← hA]
    have := World.alloc_heap_new (w.alloc (.cells #[.int .i64 k, .string nm, .slice a ks.len cap] 29)) (.cells #[.pointer none, .slice none 0 0] 39)
    rwa [World.size_alloc] at this
  have hck : W0.heap[w.heap.size + 1 + 1]? = some (.cells #[.int .i64 0] 2) := by
    rw [← hW0]
    refine (Below.heap_alloc _ _ _ (by simp [zA])).trans ?_
    rw [← zA]
    exact World.alloc_heap_new A _
  have hgood : (Fo.cons k nm a cap ks .nil).Good := ⟨hk, hs.good, trivial⟩
  have hlen : ((Fo.cons k nm a cap ks .nil).pre 1).length = 1 + ks.size := by rw [Fo.pre_length]; simp [Fo.size]
  have hlenN : ((Fo.cons k nm a cap ks .nil).preN 1).length = 1 + ks.size := by rw [Fo.preN_length, hlen]
  have hsz := ks.size_le
  have hbnd := preN_bound (.cons k nm a cap ks .nil) 1 hgood
  have hat := pre_at (.cons k nm a cap ks .nil) 1
  have hfin := fold_row (.cons k nm a cap ks .nil) 1 [] 0 (by simp [Fo.len]) (by omega)
  have hc0 : ShI w (w.heap.size + 1) (w.heap.size + 1 + 1) ((Fo.cons k nm a cap ks .nil).preN 1) 0 (fun _ => False) W0 := by
    refine ⟨⟨by rw [Lib.cell_of_heap hck]; rfl, Lib.frozen_of_heap hck 0, fun x => x, NB.cells hck (by decide)⟩, ?_, hB0, fun _ x => x.elim⟩
    exact ⟨_, _, .inl rfl, by omega, hbk, ⟨by simp [Lib.byteCells], .inl ⟨rfl, rfl⟩⟩, by simp [Value.ownBlock], fun _ _ x => x, fun x => x⟩
  have hmsz : (Fo.cons k nm a cap ks .nil).size = 1 + ks.size := by simp [Fo.size]
  have hmtot : (Fo.cons k nm a cap ks .nil).tot = 1 + nm.size + ks.tot := by simp [Fo.tot]
  have hseq := nodes_seq Fence.wide (n - 1) trivial rfl (by omega) (w.heap.size + 1 + 1 + 1) w.heap.size k nm a cap ks W0 (by omega) hk (by have : maxLen = 9223372036854775807 := rfl; omega) q0 (hs.below hB0 (fun _ x => x)) (by omega)
  rw [hA, hW0]
  clear hA hW0 hbk hck q0
  generalize hLN : (Fo.cons k nm a cap ks .nil).preN 1 = LN at hlenN hbnd hat hfin hc0 ⊢
  generalize hLL : (Fo.cons k nm a cap ks .nil).pre 1 = LL at hlen hat hseq ⊢
  refine wpIn_range rfl h1 (gf := 19) (lb := #[.pointer (some ⟨w.heap.size + 1 + 1 + 1, 0, none⟩)]) rfl trivial (enters_of Tryd.func19 (by kernel_rfl) rfl)
    hseq (Below.refl _ _) (by omega) (fun _ => rfl)
    (ShI w (w.heap.size + 1) (w.heap.size + 1 + 1) LN) (fun _ _ _ _ => False) (ShI.abid _ _ _ _) (fun _ _ _ _ _ _ h _ _ => h) hc0
    (fun i O a' W => ∃ (b6 d : Nat) (k6 : Int) (n6 : ByteArray) (a6 : Option Addr) (l6 c6 : Nat) (v9 v10 : Value), LN[i]? = some (d, k6, n6) ∧ ¬ O b6 ∧ (b6 ≠ w.heap.size + 1 ∧ b6 ≠ w.heap.size + 1 + 1) ∧ W.heap[b6]? = some (.cells #[.int .i64 k6, .string n6, .slice a6 l6 c6] 29) ∧
      a' = { tmps := #[.agg #[.int .i64 k, .string nm, .slice a ks.len cap], .pointer (some ⟨w.heap.size, 0, none⟩), .string ⟨#[]⟩, .pointer (some ⟨w.heap.size + 1, 0, none⟩), .pointer (some ⟨w.heap.size + 1 + 1, 0, none⟩), .int .i64 (d : Int), .pointer (some ⟨b6, 0, none⟩), .agg #[.int .i64 k, .string nm, .slice a ks.len cap], .func (.func 19) #[] #[.pointer (some ⟨w.heap.size + 1 + 1 + 1, 0, none⟩)], v9, v10, undef, undef, undef, undef, undef, undef, undef, undef, undef, undef, undef, undef, undef, undef, undef, undef, undef, undef, undef, undef], defers := [] })
    ?assign ?body ?done ?stop
  case assign =>
    intro l i O W K hi hOb hI hK
    have HK := hide hK
    clear hK
    obtain ⟨p, hp⟩ : ∃ p, LL[i]? = some p := ⟨LL[i]'(by omega), List.getElem?_eq_getElem (by omega)⟩
    obtain ⟨k6, n6, a6, l6, c6, hp2, hp3⟩ := hat i p hp
    have hpd : LL.getD i (0, undef) = p := by rw [List.getD_eq_getElem?_getD, hp]; rfl
    unfold encsOf
    rw [hpd, hp2]
    obtain ⟨d, pv⟩ := p
    simp only [nodeV]
    generalize hT : Array.foldl _ _ _ = T
    have hT' : T = #[.agg #[.int .i64 k, .string nm, .slice a ks.len cap], .pointer (some ⟨w.heap.size, 0, none⟩), .string ⟨#[]⟩, .pointer (some ⟨w.heap.size + 1, 0, none⟩), .pointer (some ⟨w.heap.size + 1 + 1, 0, none⟩), undef, undef, .agg #[.int .i64 k, .string nm, .slice a ks.len cap], .func (.func 19) #[] #[.pointer (some ⟨w.heap.size + 1 + 1 + 1, 0, none⟩)], .int .i64 (d : Int), .agg #[.int .i64 k6, .string n6, .slice a6 l6 c6], undef, undef, undef, undef, undef, undef, undef, undef, undef, undef, undef, undef, undef, undef, undef, undef, undef, undef, undef, undef] := by
      rw [← hT]
      simp
    subst hT'
    clear hT
    gi_wp2_with fail
    have hcl := hI.1.2.2.2.lt
    refine HK.out _ _ (Kept.alloc _ _ _) ((ShI.abid _ _ _ _).same hI (Kept.alloc _ _ _)) ⟨W.heap.size, d, k6, n6, a6, l6, c6, _, _, hp3, fun z => Nat.lt_irrefl _ (hOb _ z).lt, ⟨by omega, by omega⟩, World.alloc_heap_new _ _, rfl⟩
  case body =>
    rintro l i O a' W1 W hi ⟨b6, d, k6, n6, a6, l6, c6, v9, v10, hLi, nb6, hb6, q6, rfl⟩ hK hOb ⟨⟨c1, c2, c3, c6'⟩, hbi, c4, c5⟩ hO
    have q6W := (hK.block b6 (Array.getElem?_eq_some_iff.1 q6).1 nb6).trans q6
    obtain ⟨d0, d1, wf6, hn6⟩ := hbnd _ (List.mem_of_getElem? hLi)
    simp only at d0 d1 wf6 hn6
    rw [hmsz] at d1
    rw [hmtot] at hn6
    have hfb := fold_bound 1048578 (LN.take i) [] 0 (by omega) (fun p hp => by
      obtain ⟨e0, e1, e2, e3⟩ := hbnd p (List.mem_of_mem_take hp)
      rw [hmsz] at e1
      rw [hmtot] at e3
      exact ⟨by omega, by omega, e2⟩)
    have hnext : (LN.take (i + 1)).foldl stepS ([], 0) = stepS ((LN.take i).foldl stepS ([], 0)) (d, k6, n6) := by
      rw [List.take_add_one, hLi, List.foldl_append]
      rfl
    have hti : (LN.take i).length ≤ 1048577 := by rw [List.length_take]; omega
    have HNX : Hid (ShI w (w.heap.size + 1) (w.heap.size + 1 + 1) LN (i + 1) O = fun W => (W.cell? ⟨w.heap.size + 1 + 1, 0, none⟩ = some (.int .i64 (d : Int)) ∧ W.frozen? ⟨w.heap.size + 1 + 1, 0, none⟩ = false ∧ ¬ O (w.heap.size + 1 + 1) ∧ NB W (w.heap.size + 1 + 1)) ∧
        BI w.heap.size (w.heap.size + 1) (((LN.take i).foldl stepS ([], 0)).1 ++ pfx ((LN.take i).foldl stepS ([], 0)).2 d ++ alone k6 n6) O W ∧ Below w.heap.size w W ∧ ∀ x, O x → w.heap.size ≤ x) := by
      unfold Hid ShI
      rw [hnext]
      rfl
    clear hnext hLi hbnd hat hfin hc0 hseq hgood
    generalize ((LN.take i).foldl stepS ([], 0)).1 = out at hfb HNX hbi
    generalize ((LN.take i).foldl stepS ([], 0)).2 = s at hfb HNX c1
    obtain ⟨hfo, hfs⟩ := hfb
    have hol : out.length ≤ 3300000000000 := by
      have : (LN.take i).length * (3 * 1048578 + 24) ≤ 1048577 * (3 * 1048578 + 24) := Nat.mul_le_mul_right _ hti
      simp only [List.length_nil, Nat.zero_add] at hfo
      omega
    have hzW := c4.size
    have hbO : ¬ O (w.heap.size + 1) := by obtain ⟨_, _, _, _, _, _, _, _, h⟩ := hbi; exact h
    have hW := Wr.start hbi.is
    have hpl : (pfx s d).length ≤ 1048579 := by
      unfold pfx
      split
      · simp
      · split
        · simp
        · simp; omega
    refine wpIn_block ?_
    refine wpIn_seq ?_
    refine wpIn_mono (Q := Exit.then (fun a2 W4 => ∃ u11 u12 u13 u14 u15 u16 u17 u18 u19 u20 u21 u22 u23 : Value, a2 = { tmps := #[.agg #[.int .i64 k, .string nm, .slice a ks.len cap], .pointer (some ⟨w.heap.size, 0, none⟩), .string ⟨#[]⟩, .pointer (some ⟨w.heap.size + 1, 0, none⟩), .pointer (some ⟨w.heap.size + 1 + 1, 0, none⟩), .int .i64 (d : Int), .pointer (some ⟨b6, 0, none⟩), .agg #[.int .i64 k, .string nm, .slice a ks.len cap], .func (.func 19) #[] #[.pointer (some ⟨w.heap.size + 1 + 1 + 1, 0, none⟩)], v9, v10, u11, u12, u13, u14, u15, u16, u17, u18, u19, u20, u21, u22, u23, undef, undef, undef, undef, undef, undef, undef], defers := [] } ∧ Wr w.heap.size (w.heap.size + 1) (out ++ pfx s d) W W4) (fun _ _ _ => False)) ?_ ?_
    · rcases Nat.eq_zero_or_pos s with hs0 | hs0
      · subst hs0
        have e0 : pfx 0 d = [] := rfl
        rw [e0, List.append_nil]
        gi_wp2_with fail
        exact ⟨_, _, _, _, _, _, _, _, _, _, _, _, _, rfl, hW⟩
      · have hs0' : ((s : Int) == 0) = false := by simp; omega
        by_cases hlt : s < d
        · have e0 : pfx s d = [40] := by unfold pfx; rw [if_neg (by omega), if_pos hlt]
          rw [e0]
          have hlt' : (s : Int) < d := by omega
          have hp := put_byte w.heap.size (w.heap.size + 1) out 40 W hbi.is (by omega) hzW
          gi_wp2_with (refine ⟨trivial, fun h => (by cases h), ?_⟩; gi_at_call 13; refine (CallsIn.inRound l (callsIn_wide.2 hp)).mono ?_; rintro e w1 ⟨rfl, h1⟩)
          exact ⟨_, _, _, _, _, _, _, _, _, _, _, _, _, rfl, h1⟩
        · have e0 : pfx s d = List.replicate (s - d) 41 ++ [32] := by unfold pfx; rw [if_neg (by omega), if_neg hlt]
          rw [e0, ← List.append_assoc]
          have hlt' : ¬ (s : Int) < d := by omega
          have hsd : (s : Int) - d = ((s - d : Nat) : Int) := by omega
          have hp := closeKids_any w.heap.size (w.heap.size + 1) (s - d) out W hbi.is (by omega) (by omega) hzW
          rw [← hsd] at hp
          clear hsd
          gi_wp2_with (refine ⟨trivial, fun h => (by cases h), ?_⟩; gi_at_call 14; refine (CallsIn.inRound l (callsIn_wide.2 hp)).mono ?_; rintro e w1 ⟨⟨ve, rfl⟩, h1⟩; have z1 := h1.2.1.size)
          have hp2 := put_byte w.heap.size (w.heap.size + 1) (out ++ List.replicate (s - d) 41) 32 w1 h1.1 (by simp; omega) (by omega)
          gi_wp2_with (refine ⟨trivial, fun h => (by cases h), ?_⟩; gi_at_call 13; refine (CallsIn.inRound l (callsIn_wide.2 hp2)).mono ?_; rintro e w2 ⟨rfl, h2⟩)
          exact ⟨_, _, _, _, _, _, _, _, _, _, _, _, _, rfl, h1.trans h2⟩
    · rintro e a2 W4 h
      cases e with
      | normal =>
        obtain ⟨u11, u12, u13, u14, u15, u16, u17, u18, u19, u20, u21, u22, u23, rfl, h4⟩ := h
        have z4 := h4.2.1.size
        obtain ⟨oc, hoc, hnc⟩ := c6'
        have q64 := h4.2.2 b6 _ q6W (by simp; omega) (fun c fz e => by cases e)
        have x0 : W4.cell? ⟨b6, 0, none⟩ = some (.int .i64 k6) := by rw [Lib.cell_of_heap q64]; rfl
        have x1 : W4.cell? ⟨b6, 1, none⟩ = some (.string n6) := by rw [Lib.cell_of_heap q64]; rfl
        have x2 : W4.cell? ⟨b6, 2, none⟩ = some (.slice a6 l6 c6) := by rw [Lib.cell_of_heap q64]; rfl
        have hp := showAlone_any w.heap.size (w.heap.size + 1) (out ++ pfx s d) k6 n6 a6 l6 c6 W4 h4.1 ((ht.next c4).next h4.2.1) wf6 (by omega) (by simp only [List.length_append]; omega) (by omega)
        show Code.wpIn _ _ _ _ _ _ _
        gi_wp2_with (refine ⟨trivial, fun h => (by cases h), ?_⟩; gi_at_call 15; refine (CallsIn.inRound l (callsIn_wide.2 hp)).mono ?_; rintro e W5 ⟨⟨ve, rfl⟩, h5⟩; have hc5 := h5.2.2 (w.heap.size + 1 + 1) oc (h4.2.2 (w.heap.size + 1 + 1) oc hoc (by simp) hnc) (by simp) hnc; have y0 := (World.cell?_of_block (hc5.trans hoc.symm)).trans c1; have f0 := (World.frozen?_of_block (hc5.trans hoc.symm)).trans c2)
        have h45 := h4.trans h5
        have z5 := h45.2.1.size
        have k45 : Kept (fun x => O x ∨ x < w.heap.size) W W5 := by
          refine ⟨h45.2.1.os, h45.2.1.tape, h45.2.1.output, z5, fun x _ hx => ?_⟩
          rcases hx with hx | hx
          · obtain ⟨o, ho, hn⟩ := hOb x hx
            exact (h45.2.2 x o ho (fun e => hbO (by cases e; exact hx)) hn).trans ho.symm
          · exact h45.2.1.block x hx
        have nc5 : NB W5 (w.heap.size + 1 + 1) := ⟨oc, hc5, hnc⟩
        have hK6 : Kept (fun x => O x ∨ x < w.heap.size) W (W5.setCell ⟨w.heap.size + 1 + 1, 0, none⟩ (.int .i64 (d : Int))) := by
          refine k45.trans (Kept.setCell _ _ _ _ ?_)
          rintro (h | h)
          · exact c3 h
          · exact absurd h (by show ¬ (w.heap.size + 1 + 1 < w.heap.size); omega)
        refine ⟨hK6, ?_⟩
        rw [HNX.out]
        refine ⟨⟨World.cell?_setCell_same' _ _ _ (by rw [y0]; rfl), by rw [World.frozen?_setCell]; exact f0, c3, nc5.set _⟩, ?_, c4.trans (hK6.below (fun x hx => .inr hx) (by omega)), c5⟩
        exact BI.of (builder_setCell _ h45.1 nc5 (by omega)) (fun x hx => (hOb x hx).kept hK6 (.inl hx)) hbO
      | ret => exact h.elim
      | exit id => exact h.elim
      | goto t => exact h.elim
      | panic c => exact h.elim
      | outgrown => exact h.elim
  case done =>
    rintro D O W hD hOD hO ⟨⟨c1, c2, c3, c6'⟩, hbi, c4, c5⟩ hK
    obtain ⟨body, e, e1, e2, e3⟩ := hfin
    rw [← hlenN, List.take_length] at c1 hbi
    rw [e1] at c1 hbi
    have hp0 : pfx 0 1 = [] := rfl
    simp only [List.nil_append, hp0] at c1 hbi
    have hbO : ¬ O (w.heap.size + 1) := by obtain ⟨_, _, _, _, _, _, _, _, h⟩ := hbi; exact h
    have hfb := fold_bound 1048578 LN [] 0 (by omega) (fun p hp => by
      obtain ⟨g0, g1, g2, g3⟩ := hbnd p hp
      rw [hmsz] at g1
      rw [hmtot] at g3
      exact ⟨by omega, by omega, g2⟩)
    rw [e1] at hfb
    simp only [List.nil_append, hp0, List.length_nil, Nat.zero_add] at hfb
    obtain ⟨hfo, hfs⟩ := hfb
    have hol : body.length ≤ 3300000000000 := by
      have : LN.length * (3 * 1048578 + 24) ≤ 1048577 * (3 * 1048578 + 24) := Nat.mul_le_mul_right _ (by omega)
      omega
    have hzW := c4.size
    have hc := closeKids_any w.heap.size (w.heap.size + 1) (e - 1) body W hbi.is (by omega) (by omega) hzW
    have he1 : ((e - 1 : Nat) : Int) = (e : Int) - 1 := by omega
    rw [he1] at hc
    have hlo : (1 : Int) ≤ e := by omega
    have hhi : (e : Int) ≤ 1048578 := by omega
    rw [e3] at hc
    clear he1 hseq hat hbnd hc0 hgood e1 hfo
    gi_wp2_with (refine ⟨trivial, ?_⟩; gi_at_call 14; refine (callsIn_wide.2 hc).mono ?_; rintro e' W2 ⟨⟨ve, rfl⟩, h2⟩; have z2 := h2.2.1.size)
    have hst := Tryd.Builder_String_any_k w.heap.size (w.heap.size + 1) _ W2 h2.1 (by omega)
    gi_wp2_with (refine ⟨trivial, ?_⟩; gi_at_call 16; refine (callsIn_wide.2 hst).mono ?_; rintro e' W3 ⟨rfl, h3, b3, o3⟩)
    have hne : some D ≠ some (w.heap.size + 1) := fun q => hbO (by cases q; exact hOD)
    have hK3 : W3.heap[D]? = some (.deferred (some [])) := o3 D _ (h2.2.2 D _ hK hne (fun c fz q => by cases q)) hne (fun c fz q => by cases q)
    refine ⟨by simp, .inl ⟨_, _, rfl, run_takeDeferred hK3, ?_⟩⟩
    exact ⟨_, results_tmp rfl _ _ _, rfl, ((c4.trans h2.2.1).trans b3).trans (belowK_b (w := w) (Nat.le_refl _) W3 D _ _ (by omega) hK3 rfl rfl)⟩
  case stop =>
    rintro D c i O W _ _ _ _ h _
    exact h.elim

theorem ishow (k : Int) (nm : ByteArray) (a : Option Addr) (cap : Nat) (ks : Fo) (w : World) (hk : (Lit.int .i64 k).wf = true) (hnm : nm.size + ks.tot ≤ 1048576) (hs : ks.Sl w (fun b => b < w.heap.size) a cap) (ht : TabB w.heap.size w) :
    Calls Tryd.prog 7 #[nodeV k nm a ks.len cap] w fun e W' => e = .returned (.string ⟨(showR (.cons k nm a cap ks .nil)).toArray⟩) ∧ Below w.heap.size w W' :=
  callsIn_wide.1 (ishow_in 3 (Nat.le_refl _) k nm a cap ks w hk hnm hs ht)

end Go.Proofs.YtjfoagmenehapaaDoor
