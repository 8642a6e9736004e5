import Derived.Test.YtcnokpaicnjkfaaNh
import Derived.Test.YtcnokpaicnjkfaaNf
import Derived.Test.YtcnokpaicnjkfaaDp
namespace Go.Proofs.Ytcnokpaicnjkfaa.F
open Go.RowKit Go.Joins

theorem cs0_rd : ∀ (m : Nat) (F : Fo), F.size ≤ m → Cs0 false (rdK F) ∧ Cs0 true (rdA F) := by
  intro m
  induction m with
  | zero =>
    intro F h
    cases F with
    | nil => rw [rdK_nil, rdA_nil]; exact ⟨trivial, trivial⟩
    | v _ _ => simp [Fo.size] at h
    | s _ _ _ _ _ => simp [Fo.size] at h
  | succ m ih =>
    intro F h
    constructor
    · unfold rdK
      split
      · rename_i k nm mn a1 n1 c1 lk a2 n2 c2 nk a3 n3 c3 kk a4 n4 c4 ak r
        simp only [Fo.size] at h
        exact ⟨fun _ => rfl, (ih kk (by omega)).1, (ih ak (by omega)).2, (ih r (by omega)).1⟩
      · trivial
    · unfold rdA
      split
      · rename_i con a0 n0 c0 ck kd k nm mn a1 n1 c1 lk a2 n2 c2 nk a3 n3 c3 kk a4 n4 c4 ak r
        simp only [Fo.size] at h
        exact ⟨(fun e => by cases e), (ih kk (by omega)).1, (ih ak (by omega)).2, (ih r (by omega)).2⟩
      · trivial

theorem ko_all : ∀ m, KoC m
  | 0 => fun B0 b d W U T hm hwt hT hd hbk => absurd (Fit.len hd.fit) (by have := d.x.len_le; show ¬ d.x.len = 7; omega)
  | m + 1 => ko_step m (ko_all m)

theorem en_all {B0 b s fc pb : Nat} {Z : World} {T : List ByteArray} {S : Nat → Prop} (hf : BF Z b s fc pb T) (hS : ∀ c, S c → c < Z.heap.size ∧ c ≠ s ∧ c ≠ fc) (h0 : T[0]? = some ⟨#[]⟩) (hB : B0 ≤ Z.heap.size) (hsl : s < Z.heap.size) (hfl : fc < Z.heap.size) : ∀ m, m ≤ 16777217 → EnC B0 b s fc pb Z T S m
  | 0, _ => fun h ks al q kb ab L w hm => absurd hm (by omega)
  | m + 1, hm => en_step hf hS h0 hB hsl hfl m (by omega) (en_all hf hS h0 hB hsl hfl m (by omega))

/-- The world in which the names are sought. -/
structure XW (w1 X : World) (b pb s fc : Nat) : Prop where
  bk : ∃ U, BK w1.heap.size b X U [⟨#[]⟩] ∧ ¬ U pb ∧ ¬ U s ∧ ¬ U fc ∧ U b
  be : Below w1.heap.size w1 X
  pc : X.cell? ⟨pb, 0, none⟩ = some (.pointer (some ⟨b, 0, none⟩))
  ns : NS X w1.heap.size s none []
  fcc : X.cell? ⟨fc, 0, none⟩ = some (.slice none 0 0) ∧ X.frozen? ⟨fc, 0, none⟩ = false
  ne : pb ≠ s ∧ pb ≠ fc ∧ s ≠ fc
  lt : w1.heap.size ≤ pb ∧ w1.heap.size ≤ s ∧ w1.heap.size ≤ fc

/-- Behind knotOf: what eachName gives. -/
theorem XW.each {w1 X Z : World} {b pb s fc q : Nat} {U' U : Nat → Prop} {T' : List ByteArray} {h : Hd} {ks al : Tm} (x : XW w1 X b pb s fc) (hU : BK w1.heap.size b X U [⟨#[]⟩] ∧ ¬ U pb ∧ ¬ U s ∧ ¬ U fc ∧ U b) (bk : BK w1.heap.size b Z U' T') (ch : Chg X Z U U') (pre : [⟨#[]⟩] <+: T') (hT : T'.length ≤ 16777216) (kn : Kn Z (fun c => X.heap.size ≤ c ∧ c < Z.heap.size ∧ ¬ U' c) T' false (.nd h ks al .nil) [q]) (hsz : 1 + ks.nodes + al.nodes ≤ 16777217) (hsh : shp h ks.len al) (hgk : ks.good) (hga : al.good) (hck : Cs0 false ks) (hca : Cs0 true al) (hl : (bdy h ks al).length ≤ 16777216) :
    Calls Try.prog 27 #[.pointer (some ⟨q, 0, none⟩), cf s fc pb] Z fun e w' => (∃ v, e = .returned v) ∧ ∃ a c, w'.cell? ⟨fc, 0, none⟩ = some (.slice a (adds [] (bdy h ks al)).length c) ∧ w'.ownsRow w1.heap.size 9 1 (.slice a (adds [] (bdy h ks al)).length c) (adds [] (bdy h ks al)).length ((adds [] (bdy h ks al)).map Value.string) ∧ Below w1.heap.size w1 w' := by
  obtain ⟨hb0, u1, u2, u3, u4⟩ := hU
  obtain ⟨e1, e2, e3⟩ := x.ne
  have lX : ∀ c, c < X.heap.size → ¬ U c → ¬ U' c := fun c hc hu e => by
    rcases ch.new c e with e2 | e2
    · exact hu e2
    · omega
  have lpb : pb < X.heap.size := block_lt_of_cell x.pc
  have lfc : fc < X.heap.size := block_lt_of_cell x.fcc.1
  have ls : s < X.heap.size := x.ns.r.lt
  have zX := ch.kp.size
  have n1 := lX pb lpb u1
  have n2 := lX s ls u2
  have n3 := lX fc lfc u3
  have hbb : b ≠ s ∧ b ≠ fc := ⟨fun e => u2 (by rw [← e]; exact u4), fun e => u3 (by rw [← e]; exact u4)⟩
  have hB0 : w1.heap.size ≤ Z.heap.size := by obtain ⟨_, _, _, _, _, _, _, hB⟩ := bk; exact hB
  have hf : BF Z b s fc pb T' := by
    obtain ⟨M, g1, g2, g3, L, nb, eU, -⟩ := bk
    have ht0 : 0 < T'.length := by
      obtain ⟨t, ht⟩ := pre
      rw [← ht]
      simp
    obtain ⟨g, c, a1, a2, a3, -⟩ := nb.nx.r1.at_ (by rw [List.length_map]; exact ht0)
    have hg : U' g := by rw [eU]; exact .inr (.inr (.inl a1))
    refine ⟨(ch.kp.cell (p := ⟨pb, 0, none⟩) lpb u1).trans x.pc, ⟨e1, e2, hbb.1, hbb.2, e3⟩, ⟨g, c, by rw [List.length_map] at a2; exact a2, fun e => n2 (by rw [← e]; exact hg), fun e => n3 (by rw [← e]; exact hg), fun i y hy => a3 i _ (by rw [List.getElem?_map, hy]; rfl)⟩, nb.nd, hT⟩
  have hcs : CS w1.heap.size b s fc pb Z T' [] Z := by
    refine ⟨Kept.refl _ _, none, [], .slice none 0 0, x.ns.kept ch.kp (fun c hc => ?_), (fun c e => by cases e), (fun n => ⟨fun e => by simp at e, fun ⟨y, _, e⟩ => by simp at e⟩), Nat.zero_le _, (ch.kp.cell (p := ⟨fc, 0, none⟩) lfc u3).trans x.fcc.1, (ch.kp.frozen (p := ⟨fc, 0, none⟩) lfc u3).trans x.fcc.2, ⟨rfl, .inl ⟨rfl, rfl⟩⟩, (fun c e => by cases e)⟩
    rcases hc with e | e
    · rw [e]; exact u2
    · cases e
  obtain ⟨p', q', rest, kb, ab, f1, f2, f3, f4, f5, -⟩ := kn
  have e4 : q = p' := by injection f1
  have e5 : p' = q' := f2
  rw [← e5, ← e4] at f3
  have hS : ∀ c, (X.heap.size ≤ c ∧ c < Z.heap.size ∧ ¬ U' c) → c < Z.heap.size ∧ c ≠ s ∧ c ≠ fc := fun c hc => ⟨hc.2.1, by omega, by omega⟩
  refine (en_all hf hS (pre_get pre (i := 0) rfl) hB0 (by omega) (by omega) 16777217 (Nat.le_refl _) h ks al q kb ab [] Z hsz f3 f4 f5 hsh hgk hga hck hca (by simpa using hl) hcs).mono ?_
  rintro e w' ⟨hv, hc⟩
  obtain ⟨g, R, v, h1, h2, h3, h4, h5, h6, h7, h8⟩ := hc.st
  obtain ⟨a, c, rfl, -, -⟩ := sr_row h7
  refine ⟨hv, a, c, h5, own_up h7 (fun g hg => ?_), ?_⟩
  · have := (World.ownsRow.lt h7 g hg).1
    omega
  · obtain ⟨l1, l2, l3⟩ := x.lt
    have bZ : Below w1.heap.size w1 Z := Below.kept x.be ch.kp (fun c hc e => by have := (hb0.lo c e).1; omega) (Nat.le_refl _)
    exact Below.kept bZ hc.kp (fun c hc' => ⟨by omega, by omega, by omega⟩) (Nat.le_refl _)

end Go.Proofs.Ytcnokpaicnjkfaa.F

namespace Go.Proofs.Ytcnokpaicnjkfaa
open Go.RowKit Go.Joins

/-- The world is made. -/
theorem xw_made {w1 w2 w4 w5 : World} {b M : Nat} {g1 g2 g3 : Option Nat} (nb : Ytcnokpaicnjkfaa.F.NB w2 w1.heap.size b M g1 g2 g3 [⟨#[]⟩] [0]) (b2 : Below w1.heap.size w1 w2) (h4 : (w2.alloc (.cells #[.pointer (some ⟨b, 0, none⟩)] 51)).alloc (.cells #[.slice none 0 0, .int .i64 0, .int .i64 0] 55) = w4) (ns : Ytcnokpaicnjkfaa.F.NS w5 w1.heap.size (w2.heap.size + 1) none []) (k5 : Kept (fun c => c ≠ w2.heap.size + 1) w4 w5) : Ytcnokpaicnjkfaa.F.XW w1 (w5.alloc (.cells #[.slice none 0 0] 25)) b w2.heap.size (w2.heap.size + 1) w5.heap.size := by
  obtain ⟨w3, h3⟩ : ∃ w3, w2.alloc (.cells #[.pointer (some ⟨b, 0, none⟩)] 51) = w3 := ⟨_, rfl⟩
  rw [h3] at h4
  have k3 : Kept (fun _ => True) w2 w3 := by rw [← h3]; exact Kept.alloc _ _ _
  have k4 : Kept (fun _ => True) w3 w4 := by rw [← h4]; exact Kept.alloc _ _ _
  have z3 : w3.heap.size = w2.heap.size + 1 := by rw [← h3]; simp
  have z4 : w4.heap.size = w2.heap.size + 2 := by rw [← h4]; simp [z3]
  have z5 := k5.size
  have k6 : Kept (fun _ => True) w5 (w5.alloc (.cells #[.slice none 0 0] 25)) := Kept.alloc _ _ _
  have z6 : (w5.alloc (.cells #[.slice none 0 0] 25)).heap.size = w5.heap.size + 1 := by simp
  have z2 := b2.size
  have kk : Kept (fun c => c ≠ w2.heap.size + 1) w2 (w5.alloc (.cells #[.slice none 0 0] 25)) := (((k3.trans k4).mono (fun _ _ _ => trivial)).trans k5).trans (k6.mono (fun _ _ _ => trivial))
  have k36 : Kept (fun c => c ≠ w2.heap.size + 1) w3 (w5.alloc (.cells #[.slice none 0 0] 25)) := ((k4.mono (fun _ _ _ => trivial)).trans k5).trans (k6.mono (fun _ _ _ => trivial))
  have p3 : Bx w3 w2.heap.size [.pointer (some ⟨b, 0, none⟩)] := by rw [← h3]; exact Bx.new _ _ _
  have p6 := p3.kept k36 (by omega)
  have f6 : Bx (w5.alloc (.cells #[.slice none 0 0] 25)) w5.heap.size [.slice none 0 0] := Bx.new _ _ _
  have lo : ∀ c, Ytcnokpaicnjkfaa.F.OwnB b M g1 g2 g3 c → c < w2.heap.size := fun c hc => (nb.nx.lo c hc).2
  refine ⟨⟨_, ⟨M, g1, g2, g3, [0], nb.kept kk (fun c hc => ?_), rfl, by omega⟩, fun e => ?_, fun e => ?_, fun e => ?_, .inl rfl⟩, Below.kept b2 kk (fun c hc => by show c ≠ _; omega) (Nat.le_refl _), p6.cel 0 _ rfl, ns.kept k6 (fun _ _ => trivial), ⟨f6.cel 0 _ rfl, f6.live 0⟩, ⟨by omega, by omega, by omega⟩, ⟨z2, by omega, by omega⟩⟩
  · have := lo c hc
    show c ≠ _
    omega
  · have := lo _ e; omega
  · have := lo _ e; omega
  · have := lo _ e; omega

set_option maxHeartbeats 4000000 in
set_option maxRecDepth 100000 in
theorem i_all (F : Fo) (W : World) (hf : Fit E F (E 3)) (hwt : F.wt ≤ 1048576) (hs : F.Subs W (fun c => c < W.heap.size)) :
    Calls Try.prog 7 #[.agg F.vals.toArray] W (FnP (rdK F) W) := by
  have hsz := (Fit.bounds E_len F (E 3) hf).2.2
  have hfl : F.len = 7 := Fit.len hf
  obtain ⟨V0, hV0⟩ : ∃ V, W.alloc (.cells F.vals.toArray 36) = V := ⟨_, rfl⟩
  have b0 : Below W.heap.size W V0 := by rw [← hV0]; exact below_alloc1 _ _
  have z0 : V0.heap.size = W.heap.size + 1 := by rw [← hV0]; simp
  have q0 : Bx V0 W.heap.size F.vals := by rw [← hV0]; exact Bx.new _ _ _
  have hlt : ∀ c, c < W.heap.size → c < V0.heap.size := fun c hc => Nat.lt_of_lt_of_le hc b0.size
  have HC1 := hide (callsIn_wide.1 (fault_in 5 (Nat.le_refl _) F V0 hf ((hs.below b0 (fun c hc => hc)).mono hlt) (by omega)))
  -- behind a term without fault: what knotOf and eachName give
  have HC2 : Hid (∀ w1 X b pb s fc, Below V0.heap.size V0 w1 → okC (rdK F) → Ytcnokpaicnjkfaa.F.XW w1 X b pb s fc → Calls Try.prog 26 #[.pointer (some ⟨b, 0, none⟩), .pointer (some ⟨W.heap.size, 0, none⟩)] X fun e Z => ∃ q, e = .returned (.pointer (some ⟨q, 0, none⟩)) ∧ Calls Try.prog 27 #[.pointer (some ⟨q, 0, none⟩), .func (.func 28) #[] #[.pointer (some ⟨s, 0, none⟩), .pointer (some ⟨fc, 0, none⟩), .pointer (some ⟨pb, 0, none⟩)]] Z fun e W' => (∃ v, e = .returned v) ∧ ∃ a c, W'.cell? ⟨fc, 0, none⟩ = some (.slice a (allN (rdK F)).length c) ∧ FnP (rdK F) W (.returned (.slice a (allN (rdK F)).length c)) W') := fun w1 X b pb s fc b1 hok x => by
    obtain ⟨U, hU⟩ := x.bk
    have z1 := b1.size
    have q3 := (q0.below b1).belown x.be (by omega)
    have hokd : Nd.Ok X (fun c => c < w1.heap.size) ⟨W.heap.size, 0, F⟩ := by
      refine ⟨hf, fun i v hv => by simpa using q3.cel i v hv, ?_, by show W.heap.size < _; omega⟩
      exact (((hs.below b0 (fun c hc => hc)).below b1 hlt).below x.be (fun c hc => by omega)).mono (fun c hc => by show c < _; omega)
    refine (Ytcnokpaicnjkfaa.F.ko_all F.size w1.heap.size b ⟨W.heap.size, 0, F⟩ X U [⟨#[]⟩] (Nat.le_refl _) hwt (by show 1 + F.size ≤ _; omega) hokd hU.1).mono ?_
    rintro e Z ⟨v, rfl, q, U', T', rfl, k1, k2, k3, k4, k5⟩
    refine ⟨q, rfl, ?_⟩
    obtain ⟨k, nm, mn, la, ln, lc, lk, na, nn, nc, nk, ka, kn, kc, kk, aa, an, ac, ak, hxe, -⟩ := core_open hf
    have e1 : allN (rdK F) = adds [] (rdK F).all := by
      unfold allN
      rw [if_pos hok]
    have hnd := (nodesK F.size F (Nat.le_refl _)).1
    have hcs := (Ytcnokpaicnjkfaa.F.cs0_rd F.size F (Nat.le_refl _)).1
    have hal := allK_le F
    have hg := hok.2
    have hT : T'.length ≤ 1 + F.size := k4
    rw [e1]
    have k5' : Ytcnokpaicnjkfaa.F.Kn Z (fun c => X.heap.size ≤ c ∧ c < Z.heap.size ∧ ¬ U' c) T' false (rdK F) [q] := k5
    unfold FnP
    rw [e1]
    rw [hxe, rdK_nd, rdK_nil] at k5' hnd hcs hal hg ⊢
    obtain ⟨g1, g2, g3, -⟩ := hg
    obtain ⟨-, s2, s3, -⟩ := hcs
    simp only [Tm.nodes] at hnd
    have ea : ∀ (h : Hd) (a b : Tm), h.cs = [] → (Tm.nd h a b .nil).all = Ytcnokpaicnjkfaa.F.bdy h a b := fun h a b hc => by
      rw [Ytcnokpaicnjkfaa.F.all_nd, hc]
      simp [Tm.all]
    rw [ea _ _ _ rfl] at hal ⊢
    rw [← hxe] at hnd hal
    refine (x.each hU k1 k2 k3 (by omega) k5' (by omega) g1 g2 g3 s2 s3 (by omega)).mono ?_
    rintro e W' ⟨hv, a, c, j1, j2, j3⟩
    refine ⟨hv, a, c, j1, a, c, rfl, own_up j2 (fun g hg => ?_), ?_⟩
    · have := (World.ownsRow.lt j2 g hg).1
      omega
    · exact (b0.trans (b1.mono b0.size)).trans (j3.mono (by omega))
  have HNO : Hid (∀ w1, Below V0.heap.size V0 w1 → ¬ okC (rdK F) → FnP (rdK F) W (.returned (.slice none 0 0)) w1) := fun w1 b1 hno => by
    have e1 : allN (rdK F) = [] := by
      unfold allN
      rw [if_neg hno]
    unfold FnP
    rw [e1]
    exact ⟨none, 0, rfl, ⟨rfl, .inl ⟨rfl, rfl⟩⟩, b0.trans (b1.mono b0.size)⟩
  obtain ⟨k, nm, mn, la, ln, lc, lk, na, nn, nc, nk, ka, kn, kc, kk, aa, an, ac, ak, hxe, -⟩ := core_open hf
  obtain ⟨T, hT⟩ : ∃ T, rdK F = T := ⟨_, rfl⟩
  rw [hT] at HC1 HC2 HNO ⊢
  rw [hxe] at hV0 q0 HC1 ⊢
  simp only [Fo.vals] at hV0 q0 HC1 ⊢
  have c0 := q0.cel 0 _ rfl
  have c1 := q0.cel 1 _ rfl
  have c2 := q0.cel 2 _ rfl
  have c3 := q0.cel 3 _ rfl
  have c4 := q0.cel 4 _ rfl
  have c5 := q0.cel 5 _ rfl
  have c6 := q0.cel 6 _ rfl
  have HV0 := hide hV0
  clear hV0 b0 q0 hf hwt hs hxe hT hlt z0 hsz hfl
  go_enter Try.func7, Try.ntmps7
  go_upto_region 1 with fail
  rw [HV0.out]
  clear HV0
  go_wp2_with fail
  refine HC1.out.mono ?_
  clear HC1 c0 c1 c2 c3 c4 c5 c6
  rintro e w1 ⟨cd, rfl, hcd, b1⟩
  have HB1 := hide b1
  by_cases h0 : cd = 0
  · have HOK : Hid (okC T) := hcd.1 h0
    subst h0
    have HNB := hide (Ytcnokpaicnjkfaa.F.i_book w1)
    clear hcd b1 HNO
    go_upto_region 4 with (go_at_call 24; refine HNB.out.mono ?_; rintro e w2 ⟨b, M, g1, g2, g3, rfl, nb, b2⟩; have NB2 := hide nb; have B2 := hide b2; clear nb b2)
    obtain ⟨w4, hw4⟩ : ∃ w4, (w2.alloc (.cells #[.pointer (some ⟨b, 0, none⟩)] 51)).alloc (.cells #[.slice none 0 0, .int .i64 0, .int .i64 0] 55) = w4 := ⟨_, rfl⟩
    have HE := hide (Ytcnokpaicnjkfaa.F.i_empty (W := w4) (B0 := w1.heap.size) (s := w2.heap.size + 1) (by rw [← hw4]; have h := Bx.new (w2.alloc (.cells #[.pointer (some ⟨b, 0, none⟩)] 51)) [.slice none 0 0, .int .i64 0, .int .i64 0] 55; simp only [World.size_alloc] at h; exact h) (by have := B2.out.size; omega))
    have HXW : Hid (∀ w5, Ytcnokpaicnjkfaa.F.NS w5 w1.heap.size (w2.heap.size + 1) none [] → Kept (fun c => c ≠ w2.heap.size + 1) w4 w5 → Ytcnokpaicnjkfaa.F.XW w1 (w5.alloc (.cells #[.slice none 0 0] 25)) b w2.heap.size (w2.heap.size + 1) w5.heap.size) := fun w5 h1 h2 => xw_made NB2.out B2.out hw4 h1 h2
    have HW4 := hide hw4
    clear hw4
    go_upto_region 5 with fail
    rw [HW4.out]
    go_upto_region 6 with (go_at_call 25; refine HE.out.mono ?_; rintro e w5 ⟨⟨v5, rfl⟩, ns, k5⟩)
    have XW := hide (HXW.out w5 ns k5)
    have HC3 := hide (HC2.out w1 _ b w2.heap.size (w2.heap.size + 1) w5.heap.size HB1.out HOK.out XW.out)
    have pc := XW.out.pc
    clear ns k5 HE HXW HC2
    go_upto_region 8 with (first
      | (go_at_call 26; refine HC3.out.mono ?_; rintro e Z ⟨q, rfl, hq⟩; have HC4 := hide hq; clear hq)
      | (go_at_call 27; refine HC4.out.mono ?_; rintro e w9 ⟨⟨v9, rfl⟩, a, c, hce, hfn⟩; have HFR := hide hfn; clear hfn))
    obtain ⟨l, hl⟩ : ∃ l, (allN T).length = l := ⟨_, rfl⟩
    rw [hl] at hce HFR
    clear hl
    go_wp2_with fail
    go_ret
    exact HFR.out
  · have h0' : (cd != 0) = true := by rw [bne_iff_ne]; exact h0
    have HFR := hide (HNO.out w1 b1 (fun h => h0 (hcd.2 h)))
    clear hcd b1 HC2 HNO
    go_wp2_with fail
    go_ret
    exact HFR.out

end Go.Proofs.Ytcnokpaicnjkfaa
