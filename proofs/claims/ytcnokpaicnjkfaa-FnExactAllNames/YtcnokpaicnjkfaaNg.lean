import Derived.Test.YtcnokpaicnjkfaaJN
import Derived.Deep.RegionLaw
namespace Go.Proofs.Ytcnokpaicnjkfaa.F
open Go.RowKit Go.Joins

/-- The book's texts, and where it and the boxes lie. -/
structure BF (Z : World) (b s fc pb : Nat) (T : List ByteArray) : Prop where
  pc : Z.cell? ⟨pb, 0, none⟩ = some (.pointer (some ⟨b, 0, none⟩))
  ne : pb ≠ s ∧ pb ≠ fc ∧ b ≠ s ∧ b ≠ fc ∧ s ≠ fc
  tx : ∃ g c, Z.cell? ⟨b, 1, none⟩ = some (.slice (some ⟨g, 0, none⟩) T.length c) ∧ g ≠ s ∧ g ≠ fc ∧ ∀ (i : Nat) x, T[i]? = some x → Z.cell? ⟨g, i, none⟩ = some (.string x)
  nd : T.Nodup
  len : T.length ≤ 16777216

/-- What the closure knows: the names found so far. -/
structure CS (B0 b s fc pb : Nat) (Z : World) (T L : List ByteArray) (w : World) : Prop where
  kp : Kept (fun c => c < Z.heap.size ∧ c ≠ s ∧ c ≠ fc) Z w
  st : ∃ (g : Option Nat) (R : List Nat) (v : Value), NS w B0 s g R ∧ (∀ c, g = some c → Z.heap.size ≤ c) ∧ (∀ n : Nat, R[n]? = some 1 ↔ ∃ x, T[n]? = some x ∧ x ∈ L) ∧ R.length ≤ T.length ∧ w.cell? ⟨fc, 0, none⟩ = some v ∧ w.frozen? ⟨fc, 0, none⟩ = false ∧ w.ownsRow Z.heap.size 9 1 v L.length (L.map Value.string) ∧ (∀ c, v.ownBlock = some c → g ≠ some c)

theorem CS.below {B0 b s fc pb : Nat} {Z : World} {T L : List ByteArray} {w w' : World} (h : CS B0 b s fc pb Z T L w) (k : Below w.heap.size w w') : CS B0 b s fc pb Z T L w' := by
  obtain ⟨g, R, v, h1, h2, h3, h4, h5, h6, h7, h8⟩ := h.st
  have kk : Kept (fun _ => True) w w' := kt k
  have hfl : fc < w.heap.size := block_lt_of_cell h5
  exact ⟨h.kp.trans (kk.mono (fun _ _ _ => trivial)), g, R, v, h1.kept kk (fun _ _ => trivial), h2, h3, h4, (kk.cell (p := ⟨fc, 0, none⟩) hfl trivial).trans h5, (kk.frozen (p := ⟨fc, 0, none⟩) hfl trivial).trans h6, ownsRow_kept h7 kk (fun _ _ => trivial), h8⟩

theorem CS.read {b s fc pb : Nat} {Z : World} {T : List ByteArray} {w : World} (hf : BF Z b s fc pb T) (h : Kept (fun c => c < Z.heap.size ∧ c ≠ s ∧ c ≠ fc) Z w) {n : Nat} {x : ByteArray} (hx : T[n]? = some x) :
    w.cell? ⟨pb, 0, none⟩ = some (.pointer (some ⟨b, 0, none⟩)) ∧ ∃ g c, w.cell? ⟨b, 1, none⟩ = some (.slice (some ⟨g, 0, none⟩) T.length c) ∧ w.cell? ⟨g, n, none⟩ = some (.string x) := by
  obtain ⟨n1, n2, n3, n4, n5⟩ := hf.ne
  obtain ⟨g, c, t1, t2, t3, t4⟩ := hf.tx
  have l1 := block_lt_of_cell hf.pc
  have l2 := block_lt_of_cell t1
  have t5 := t4 n x hx
  have l3 := block_lt_of_cell t5
  exact ⟨(h.cell (p := ⟨pb, 0, none⟩) l1 ⟨l1, n1, n2⟩).trans hf.pc, g, c, (h.cell (p := ⟨b, 1, none⟩) l2 ⟨l2, n3, n4⟩).trans t1, (h.cell (p := ⟨g, n, none⟩) l3 ⟨l3, t2, t3⟩).trans t5⟩

/-- A name more is noted. -/
theorem CS.more {B0 b s fc pb : Nat} {Z : World} {T L : List ByteArray} {w w2 : World} {g g2 : Option Nat} {R R2 : List Nat} {a : Option Addr} {c n : Nat} {x : ByteArray} (hf : BF Z b s fc pb T) (hk : Kept (fun c => c < Z.heap.size ∧ c ≠ s ∧ c ≠ fc) Z w) (hg : ∀ c, g = some c → Z.heap.size ≤ c) (hr : ∀ n : Nat, R[n]? = some 1 ↔ ∃ x, T[n]? = some x ∧ x ∈ L) (hl : R.length ≤ T.length) (hc : w.cell? ⟨fc, 0, none⟩ = some (.slice a L.length c)) (hz : w.frozen? ⟨fc, 0, none⟩ = false) (ho : w.ownsRow Z.heap.size 9 1 (.slice a L.length c) L.length (L.map Value.string)) (hd : ∀ c', (Value.slice a L.length c).ownBlock = some c' → g ≠ some c') (hs : s < Z.heap.size) (hfc : fc < Z.heap.size) (hx : T[n]? = some x) (ad : AdS w w2 B0 s g R n g2 R2) :
    (w2.cell? ⟨fc, 0, none⟩ = some (.slice a L.length c) ∧ w2.ownsRow Z.heap.size 9 1 (.slice a L.length c) L.length (L.map Value.string) ∧ Kept (fun c => c < Z.heap.size ∧ c ≠ s ∧ c ≠ fc) Z w2 ∧ Z.heap.size ≤ w2.heap.size) ∧
      ∀ V w7 g7 cp, Kept (fun _ => True) w2 V → w7.ownsRow Z.heap.size 9 1 (.slice (some ⟨g7, 0, none⟩) (L.length + 1) cp) (L.length + 1) (L.map Value.string ++ [.string x]) → V.grownBy w7 (Value.slice a L.length c).ownBlock → ((Value.slice a L.length c).ownBlock = some g7 ∨ g7 = V.heap.size) →
        (w7.cell? ⟨fc, 0, none⟩ = some (.slice a L.length c) ∧ w7.frozen? ⟨fc, 0, none⟩ = false) ∧ CS B0 b s fc pb Z T (L ++ [x]) (w7.setCell ⟨fc, 0, none⟩ (.slice (some ⟨g7, 0, none⟩) (L.length + 1) cp)) := by
  obtain ⟨n1, n2, n3, n4, n5⟩ := hf.ne
  have zk := hk.size
  have nf : ¬ OwnS s g fc := fun e => by
    rcases e with e | e
    · exact n5 e.symm
    · have := hg _ e; omega
  have k2 : Kept (fun c => ¬ OwnS s g c) w w2 := ad.kept
  have z2 := k2.size
  have c2 : w2.cell? ⟨fc, 0, none⟩ = some (.slice a L.length c) := (k2.cell (p := ⟨fc, 0, none⟩) (by show fc < _; omega) nf).trans hc
  have f2 : w2.frozen? ⟨fc, 0, none⟩ = false := (k2.frozen (p := ⟨fc, 0, none⟩) (by show fc < _; omega) nf).trans hz
  have hob : ∀ c', (Value.slice a L.length c).ownBlock = some c' → Z.heap.size ≤ c' ∧ c' < w.heap.size := fun c' e => World.ownsRow.lt ho c' e
  have o2 := ownsRow_kept ho k2 (fun c' e hx => by
    rcases hx with e2 | e2
    · have := (hob c' e).1; omega
    · exact hd c' e e2)
  have kz : Kept (fun c => c < Z.heap.size ∧ c ≠ s ∧ c ≠ fc) Z w2 := hk.trans (k2.mono (fun c' _ hc' e => by
    rcases e with e | e
    · exact hc'.2.1 e
    · have := hg _ e; omega))
  have hg2 : ∀ c', g2 = some c' → Z.heap.size ≤ c' ∧ (Value.slice a L.length c).ownBlock ≠ some c' := fun c' e => by
    rcases ad.new c' (.inr e) with e2 | e2
    · rcases e2 with e3 | e3
      · exact absurd (by rw [e, e3]) ad.ns.ne
      · exact ⟨hg c' e3, fun e4 => hd c' e4 e3⟩
    · exact ⟨by omega, fun e4 => by have := (hob c' e4).2; omega⟩
  refine ⟨⟨c2, o2, kz, by omega⟩, fun V w7 g7 cp kV hO hG hat => ?_⟩
  have zV := kV.size
  have kg : Kept (fun c' => (Value.slice a L.length c).ownBlock ≠ some c') V w7 := Kept.grown hG (fun c' hc hx => hx hc)
  have ks : Kept (fun c' => c' ≠ fc) w7 (w7.setCell ⟨fc, 0, none⟩ (.slice (some ⟨g7, 0, none⟩) (L.length + 1) cp)) := Kept.setCell _ _ _ _ (by simp)
  have nfo : (Value.slice a L.length c).ownBlock ≠ some fc := fun e => by have := (hob _ e).1; omega
  have c7 : w7.cell? ⟨fc, 0, none⟩ = some (.slice a L.length c) := (kg.cell (p := ⟨fc, 0, none⟩) (by show fc < _; omega) nfo).trans ((kV.cell (p := ⟨fc, 0, none⟩) (by show fc < _; omega) trivial).trans c2)
  have f7 : w7.frozen? ⟨fc, 0, none⟩ = false := (kg.frozen (p := ⟨fc, 0, none⟩) (by show fc < _; omega) nfo).trans ((kV.frozen (p := ⟨fc, 0, none⟩) (by show fc < _; omega) trivial).trans f2)
  have kk : Kept (fun c' => c' ≠ fc ∧ (Value.slice a L.length c).ownBlock ≠ some c') w2 (w7.setCell ⟨fc, 0, none⟩ (.slice (some ⟨g7, 0, none⟩) (L.length + 1) cp)) := ((kV.mono (fun _ _ _ => trivial)).trans (kg.mono (fun _ _ hc => hc.2))).trans (ks.mono (fun _ _ hc => hc.1))
  have g7f : g7 ≠ fc ∧ Z.heap.size ≤ g7 := by
    rcases hat with e | e
    · have := (hob _ e).1
      exact ⟨by omega, this⟩
    · exact ⟨by omega, by omega⟩
  refine ⟨⟨c7, f7⟩, kz.trans (kk.mono (fun c' _ hc' => ⟨hc'.2.2, fun e => by have := (hob _ e).1; omega⟩)), g2, R2, _, ad.ns.kept kk (fun c' e => ⟨fun e2 => ?_, fun e2 => ?_⟩), fun c' e => (hg2 c' e).1, fun m => ?_, ?_, World.cell?_setCell_same _ _ _ c7, ?_, ?_, fun c' e e2 => ?_⟩
  · rcases e with e | e
    · exact n5 (e.symm.trans e2)
    · have := (hg2 _ e).1; omega
  · rcases e with e | e
    · rw [e] at e2; have := (hob _ e2).1; omega
    · exact (hg2 c' e).2 e2
  · rw [ad.mem m, hr m]
    constructor
    · rintro (⟨y, h1, h2⟩ | rfl)
      · exact ⟨y, h1, List.mem_append.2 (.inl h2)⟩
      · exact ⟨x, hx, List.mem_append.2 (.inr (List.mem_singleton.2 rfl))⟩
    · rintro ⟨y, h1, h2⟩
      rcases List.mem_append.1 h2 with h3 | h3
      · exact .inl ⟨y, h1, h3⟩
      · rw [List.mem_singleton] at h3
        subst h3
        exact .inr (nodup_get hf.nd h1 hx)
  · have h1 := ad.len
    have h2 := (List.getElem?_eq_some_iff.1 hx).1
    omega
  · rw [World.frozen?_setCell]
    exact f7
  · rw [List.length_append, List.map_append]
    exact ownsRow_kept hO ks (fun c' e => by have e2 : g7 = c' := Option.some.inj e; rw [← e2]; exact g7f.1)
  · have e3 : g7 = c' := Option.some.inj e
    rw [← e3] at e2
    rcases hat with e4 | e4
    · exact (hg2 g7 e2).2 e4
    · have := (ad.ns.hi g7 (.inr e2)).2
      omega

theorem Try.info9' : (Try.prog.info? 9).map (fun i => (i.zero, i.size, i.bytes)) = some (some (.string ⟨#[]⟩), 1, 16) := by kernel_rfl

set_option maxHeartbeats 4000000 in
set_option maxRecDepth 100000 in
/-- The closure: a name is noted. -/
theorem i_note {B0 b s fc pb : Nat} {Z : World} {T L : List ByteArray} {w : World} (hf : BF Z b s fc pb T) (h : CS B0 b s fc pb Z T L w) (hB : B0 ≤ Z.heap.size) (hs : s < Z.heap.size) (hfc : fc < Z.heap.size) (n : Nat) (x : ByteArray) (hx : T[n]? = some x) (hL : L.length ≤ 16777216) :
    Calls Try.prog 28 #[.int .i64 n, .pointer (some ⟨s, 0, none⟩), .pointer (some ⟨fc, 0, none⟩), .pointer (some ⟨pb, 0, none⟩)] w fun e w' => (∃ v, e = .returned v) ∧ CS B0 b s fc pb Z T (adds L [x]) w' := by
  obtain ⟨g, R, v, h1, h2, h3, h4, h5, h6, h7, h8⟩ := h.st
  obtain ⟨q, hq⟩ := truth (x ∈ L)
  have hn : n < T.length := (List.getElem?_eq_some_iff.1 hx).1
  have hTl := hf.len
  have hqR : q = true ↔ R[n]? = some 1 := by
    rw [hq, h3 n]
    constructor
    · intro hm
      exact ⟨x, hx, hm⟩
    · rintro ⟨y, e1, e2⟩
      rw [hx] at e1
      rw [Option.some.inj e1]
      exact e2
  have HC := hide (i_has h1 n q hqR (by omega))
  have HH := hide h
  cases q with
  | true =>
    have HF : Hid (adds L [x] = L) := by
      unfold Hid adds
      rw [if_pos (hq.1 rfl)]
      rfl
    clear h h1 h2 h3 h4 h5 h6 h7 h8 hqR hq hx hn hTl hB hs hfc hL hf
    go_enter Try.func28, Try.ntmps28
    go_wp2_with (go_at_call 29; refine HC.out.mono ?_; rintro e w1 ⟨rfl, b1⟩; have C1 := hide (HH.out.below b1); clear b1)
    go_end0
    exact ⟨⟨_, rfl⟩, by rw [HF.out]; exact C1.out⟩
  | false =>
    have HF : Hid (adds L [x] = L ++ [x]) := by
      unfold Hid adds
      rw [if_neg (fun e => absurd (hq.2 e) (by simp))]
      rfl
    obtain ⟨a, c, rfl, -, -⟩ := sr_row h7
    obtain ⟨l, hl⟩ : ∃ l, L.length = l := ⟨_, rfl⟩
    have zk := h.kp.size
    have H1 : Hid (∀ w1, Below w.heap.size w w1 → Calls Try.prog 30 #[.pointer (some ⟨s, 0, none⟩), .int .i64 n] w1 fun e w2 => (∃ v, e = .returned v) ∧ (w2.cell? ⟨fc, 0, none⟩ = some (.slice a L.length c) ∧ w2.ownsRow Z.heap.size 9 1 (.slice a L.length c) L.length (L.map Value.string) ∧ Kept (fun c => c < Z.heap.size ∧ c ≠ s ∧ c ≠ fc) Z w2 ∧ Z.heap.size ≤ w2.heap.size) ∧
      ∀ V w7 g7 cp, Kept (fun _ => True) w2 V → w7.ownsRow Z.heap.size 9 1 (.slice (some ⟨g7, 0, none⟩) (L.length + 1) cp) (L.length + 1) (L.map Value.string ++ [.string x]) → V.grownBy w7 (Value.slice a L.length c).ownBlock → ((Value.slice a L.length c).ownBlock = some g7 ∨ g7 = V.heap.size) →
        (w7.cell? ⟨fc, 0, none⟩ = some (.slice a L.length c) ∧ w7.frozen? ⟨fc, 0, none⟩ = false) ∧ CS B0 b s fc pb Z T (L ++ [x]) (w7.setCell ⟨fc, 0, none⟩ (.slice (some ⟨g7, 0, none⟩) (L.length + 1) cp))) := fun w1 b1 => by
      have kk : Kept (fun _ => True) w w1 := kt b1
      have hfl : fc < w.heap.size := block_lt_of_cell h5
      refine (add_new (h1.kept kk (fun _ _ => trivial)) n (fun e => absurd (hqR.2 e) (by simp)) (by omega) (by omega) (by have := b1.size; omega)).mono ?_
      rintro e w2 ⟨hv, g2, R2, ad⟩
      exact ⟨hv, CS.more hf (h.kp.trans (kk.mono (fun _ _ _ => trivial))) h2 h3 h4 ((kk.cell (p := ⟨fc, 0, none⟩) hfl trivial).trans h5) ((kk.frozen (p := ⟨fc, 0, none⟩) hfl trivial).trans h6) (ownsRow_kept h7 kk (fun _ _ => trivial)) h8 hs hfc hx ad⟩
    have HRD : Hid (∀ V, Kept (fun c => c < Z.heap.size ∧ c ≠ s ∧ c ≠ fc) Z V → V.cell? ⟨pb, 0, none⟩ = some (.pointer (some ⟨b, 0, none⟩)) ∧ ∃ g c, V.cell? ⟨b, 1, none⟩ = some (.slice (some ⟨g, 0, none⟩) T.length c) ∧ V.cell? ⟨g, n, none⟩ = some (.string x)) := fun V kV => CS.read hf kV hx
    obtain ⟨tl, htl⟩ : ∃ tl, T.length = tl := ⟨_, rfl⟩
    rw [htl] at HRD hn
    rw [hl] at H1
    have hni : (n : Int) < (tl : Int) := by omega
    have H63 : Hid (l + 1 ≤ maxLen ∧ (l + 1) * 16 ≤ 140737488355328) := by unfold Hid maxLen; omega
    clear h h1 h2 h3 h4 h5 h6 h7 h8 hqR hq hx hTl hB hs hfc hL hf zk HH hl htl
    go_enter Try.func28, Try.ntmps28
    go_upto_region 1 with (go_at_call 29; refine HC.out.mono ?_; rintro e w1 ⟨rfl, b1⟩; have H2 := hide (H1.out w1 b1); clear b1)
    go_upto_region 2 with (go_at_call 30; refine H2.out.mono ?_; rintro e w2 ⟨⟨v2, rfl⟩, ⟨p1, p2, p3, p4⟩, p5⟩)
    obtain ⟨r1, g1, c1, r2, r3⟩ := HRD.out w2 p3
    have p1d : w2.drew.cell? ⟨fc, 0, none⟩ = some (.slice a l c) := p1
    have r1d : w2.drew.cell? ⟨pb, 0, none⟩ = some (.pointer (some ⟨b, 0, none⟩)) := r1
    have r2d : w2.drew.cell? ⟨b, 1, none⟩ = some (.slice (some ⟨g1, 0, none⟩) tl c1) := r2
    have r3d : w2.drew.cell? ⟨g1, n, none⟩ = some (.string x) := r3
    have KA : Hid (Kept (fun _ => True) w2 (w2.drew.alloc (.cells #[.string x] 9))) := (Kept.drew _ _).trans (Kept.alloc _ _ _)
    have KC : Hid (Kept (fun _ => True) w2 (w2.alloc (.cells #[.string x] 9)).drew) := (Kept.alloc _ _ _).trans (Kept.drew _ _)
    have pA : (w2.drew.alloc (.cells #[.string x] 9)).cell? ⟨fc, 0, none⟩ = some (.slice a l c) := (KA.out.cell (p := ⟨fc, 0, none⟩) (block_lt_of_cell p1) trivial).trans p1
    have pB : (w2.alloc (.cells #[.string x] 9)).drew.cell? ⟨fc, 0, none⟩ = some (.slice a l c) := (KC.out.cell (p := ⟨fc, 0, none⟩) (block_lt_of_cell p1) trivial).trans p1
    have pC : (w2.alloc (.cells #[.string x] 9)).cell? ⟨fc, 0, none⟩ = some (.slice a l c) := pB
    have OA : Hid (∀ V, Kept (fun _ => True) w2 V → V.ownsRow Z.heap.size 9 1 (.slice a l c) l (L.map Value.string) ∧ Z.heap.size ≤ V.heap.size) := fun V kV => ⟨ownsRow_kept p2 kV (fun _ _ => trivial), Nat.le_trans p4 kV.size⟩
    have P5 := hide p5
    clear p2 p3 p4 p5
    go_region_law (first
      | (refine ur_draw (by rfl) _ _ 25 9 (by rfl) Try.info9' Try.underlying25 rfl (by decide) Z.heap.size _ (.slice a l c) l (L.map Value.string) [.string x] _ 1 (by rfl) (OA.out _ KA.out).1 (by rfl) (heap_new _ _) (OA.out _ KA.out).2 rfl (by simp [Value.oneCell']) H63.out.1 H63.out.2 ?_; intro g7 cp w7 hO7 hG7 hat7; have HE7 := hide (P5.out _ w7 g7 cp KA.out hO7 hG7 hat7); have t1 := HE7.out.1.1; have t2 := HE7.out.1.2; clear hO7 hG7 hat7)
      | (refine ur_draw (by rfl) _ _ 25 9 (by rfl) Try.info9' Try.underlying25 rfl (by decide) Z.heap.size _ (.slice a l c) l (L.map Value.string) [.string x] w2.heap.size 1 (by rfl) (OA.out _ KC.out).1 (by rfl) (heap_new w2 _) (OA.out _ KC.out).2 rfl (by simp [Value.oneCell']) H63.out.1 H63.out.2 ?_; intro g7 cp w7 hO7 hG7 hat7; have HE7 := hide (P5.out _ w7 g7 cp KC.out hO7 hG7 hat7); have t1 := HE7.out.1.1; have t2 := HE7.out.1.2; clear hO7 hG7 hat7)
      | fail)
    all_goals
      go_end0
      exact ⟨⟨_, rfl⟩, by rw [HF.out]; exact HE7.out.2⟩

end Go.Proofs.Ytcnokpaicnjkfaa.F
