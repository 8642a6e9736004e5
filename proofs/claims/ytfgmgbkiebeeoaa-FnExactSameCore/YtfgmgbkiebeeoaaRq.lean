import Derived.Test.YtfgmgbkiebeeoaaRn
import Derived.Test.YtfgmgbkiebeeoaaAkf
import Derived.Test.YtfgmgbkiebeeoaaAkm
import Derived.Test.YtfgmgbkiebeeoaaAkl
import Derived.Test.YtfgmgbkiebeeoaaAkb
import Derived.Test.YtfgmgbkiebeeoaaAaf
import Derived.Test.YtfgmgbkiebeeoaaAam
import Derived.Test.YtfgmgbkiebeeoaaAal
import Derived.Test.YtfgmgbkiebeeoaaAab
import Derived.Test.YtfgmgbkiebeeoaaAah
import Derived.Test.YtfgmgbkiebeeoaaXt
namespace Go.Proofs.Ytfgmgbkiebeeoaa
open Go.RowKit Go.Joins

theorem hdK_iff (k k' : Int) (nm nm' : ByteArray) (mn mn' : Bool) (la la' na na' ka ka' aa aa' : Option Addr) (ln ln' lc lc' nn nn' nc nc' kn kn' kc kc' an an' ac ac' : Nat) (lk lk' nk nk' kk kk' ak ak' : Fo) :
    hdK (.v (.int .i64 k) (.v (.string nm) (.v (.bool mn) (.s la ln lc lk (.s na nn nc nk (.s ka kn kc kk (.s aa an ac ak .nil))))))) (.v (.int .i64 k') (.v (.string nm') (.v (.bool mn') (.s la' ln' lc' lk' (.s na' nn' nc' nk' (.s ka' kn' kc' kk' (.s aa' an' ac' ak' .nil))))))) ↔ HdQ k k' nm nm' mn mn' ln ln' nn nn' kn kn' an an' (lk'.sim lk) (nk'.sim nk) := by
  simp only [hdK, bare, Fo.sim, HdQ, Value.int.injEq, Value.string.injEq, Value.bool.injEq, true_and, and_true]
  constructor
  · rintro ⟨h1, h2, h3, h4, h5, h6, h7, h8, h10⟩
    exact ⟨h1.symm, h2.symm, h8.symm, h10.symm, h3.symm, ⟨h4.symm, h5⟩, h6.symm, h7⟩
  · rintro ⟨h1, h2, h8, h10, h3, ⟨h4, h5⟩, h6, h7⟩
    exact ⟨h1.symm, h2.symm, h3.symm, h4.symm, h5, h6.symm, h7, h8.symm, h10.symm⟩

section
variable {w : World} {G nb n nc a b db dd eb ee : Nat} {i1 i2 j1 j2 : Int} {C D kc0 ac0 tk ta n0 : Nat} {F H : Fo}

theorem alone_kid (h : AL w G nb n nc a b db dd eb ee i1 i2 j1 j2 C D kc0 ac0 tk ta) (ha : a < n) (hb : b < n) (hC : a < C) (hf : Fit E F (E 3)) (hg : Fit E H (E 3)) (hn0 : n0 ≤ w.heap.size) (hs : F.Subs w (fun c => c < n0)) (ht : H.Subs w (fun c => c < n0)) (cF : Cel w F.vals db dd) (cH : Cel w H.vals eb ee) :
    Calls Try.prog 30 #[.pointer (some ⟨G, 0, none⟩), .int .i64 a, .int .i64 b] w (SmP (hdK F H) w) := by
  obtain ⟨k, nm, mn, la, ln, lc, lk, na, nn, nc', nk, ka, kn, kc, kk, aa, an, ac, ak, rfl, -, -, h3, h4, h5, h6⟩ := core_open hf
  obtain ⟨k', nm', mn', la', ln', lc', lk', na', nn', nc'', nk', ka', kn', kc', kk', aa', an', ac', ak', rfl, -, -, h3', h4', h5', h6'⟩ := core_open hg
  obtain ⟨hs3, hs4, -⟩ := hs
  obtain ⟨ht3, ht4, -⟩ := ht
  simp only [Fo.vals] at cF cH
  have hq := hdK_iff k k' nm nm' mn mn' la la' na na' ka ka' aa aa' ln ln' lc lc' nn nn' nc' nc'' kn kn' kc kc' an an' ac ac' lk lk' nk nk' kk kk' ak ak'
  by_cases hx : k = k' ∧ nm = nm' ∧ kn = kn' ∧ an = an'
  · obtain ⟨rfl, rfl, rfl, rfl⟩ := hx
    by_cases hmn : mn = mn'
    · subst hmn
      by_cases hL : ln = ln' ∧ lk'.sim lk
      · exact alone_kid_b h ha hb hC h3 h3' h4 h4' hn0 hs3 ht3 hs4 ht4 cF cH _ hL (hq.trans ⟨fun e => e.2.2.2.2.2.2, fun e => ⟨rfl, rfl, rfl, rfl, rfl, hL, e⟩⟩)
      · exact alone_kid_l h ha hb hC h3 h3' h4 h4' hn0 hs3 ht3 hs4 ht4 cF cH _ hL (fun e => hL (hq.1 e).2.2.2.2.2.1)
    · exact alone_kid_m h ha hb hC h3 h3' h4 h4' hn0 hs3 ht3 hs4 ht4 cF cH _ hmn (fun e => hmn (hq.1 e).2.2.2.2.1)
  · exact alone_kid_f h ha hb hC h3 h3' h4 h4' hn0 hs3 ht3 hs4 ht4 cF cH _ hx (fun e => hx ⟨(hq.1 e).1, (hq.1 e).2.1, (hq.1 e).2.2.1, (hq.1 e).2.2.2.1⟩)

theorem alone_alt (h : AL w G nb n nc a b db dd eb ee i1 i2 j1 j2 C D kc0 ac0 tk ta) (ha : a < n) (hb : b < n) (hn : n ≤ 10000000) {a' b' : Nat} (ha' : a = C + a') (hb' : b = C + b') (hD : a' < D) (hD' : b' < D) {xb xo yb yo : Nat} (t1 : w.cell? ⟨ta, a', none⟩ = some (.pointer (some ⟨xb, xo, none⟩))) (t2 : w.cell? ⟨ta, b', none⟩ = some (.pointer (some ⟨yb, yo, none⟩))) (hf : Fit E F (E 3)) (hg : Fit E H (E 3)) (hn0 : n0 ≤ w.heap.size) (hs : F.Subs w (fun c => c < n0)) (ht : H.Subs w (fun c => c < n0)) (cF : Cel w F.vals db dd) (cH : Cel w H.vals eb ee) {Hd : Prop} (hHd : ∀ V, Kept (fun _ => True) w V → Calls Try.prog 51 #[.pointer (some ⟨xb, xo, none⟩), .pointer (some ⟨yb, yo, none⟩)] V (SmP Hd V)) :
    Calls Try.prog 30 #[.pointer (some ⟨G, 0, none⟩), .int .i64 a, .int .i64 b] w (SmP (Hd ∧ hdK F H) w) := by
  obtain ⟨k, nm, mn, la, ln, lc, lk, na, nn, nc', nk, ka, kn, kc, kk, aa, an, ac, ak, rfl, -, -, h3, h4, h5, h6⟩ := core_open hf
  obtain ⟨k', nm', mn', la', ln', lc', lk', na', nn', nc'', nk', ka', kn', kc', kk', aa', an', ac', ak', rfl, -, -, h3', h4', h5', h6'⟩ := core_open hg
  obtain ⟨hs3, hs4, -⟩ := hs
  obtain ⟨ht3, ht4, -⟩ := ht
  simp only [Fo.vals] at cF cH
  have hq := hdK_iff k k' nm nm' mn mn' la la' na na' ka ka' aa aa' ln ln' lc lc' nn nn' nc' nc'' kn kn' kc kc' an an' ac ac' lk lk' nk nk' kk kk' ak ak'
  by_cases hx : k = k' ∧ nm = nm' ∧ kn = kn' ∧ an = an'
  · obtain ⟨rfl, rfl, rfl, rfl⟩ := hx
    by_cases hH : Hd
    · by_cases hmn : mn = mn'
      · subst hmn
        by_cases hL : ln = ln' ∧ lk'.sim lk
        · exact alone_alt_b h ha hb hn ha' hb' hD hD' t1 t2 h3 h3' h4 h4' hn0 hs3 ht3 hs4 ht4 cF cH _ Hd hHd hH hL ⟨fun e => (hq.1 e.2).2.2.2.2.2.2, fun e => ⟨hH, hq.2 ⟨rfl, rfl, rfl, rfl, rfl, hL, e⟩⟩⟩
        · exact alone_alt_l h ha hb hn ha' hb' hD hD' t1 t2 h3 h3' h4 h4' hn0 hs3 ht3 hs4 ht4 cF cH _ Hd hHd hH hL (fun e => hL (hq.1 e.2).2.2.2.2.2.1)
      · exact alone_alt_m h ha hb hn ha' hb' hD hD' t1 t2 h3 h3' h4 h4' hn0 hs3 ht3 hs4 ht4 cF cH _ Hd hHd hH hmn (fun e => hmn (hq.1 e.2).2.2.2.2.1)
    · exact alone_alt_h h ha hb hn ha' hb' hD hD' t1 t2 h3 h3' h4 h4' hn0 hs3 ht3 hs4 ht4 cF cH _ Hd hHd hH (fun e => hH e.1)
  · exact alone_alt_f h ha hb hn ha' hb' hD hD' t1 t2 h3 h3' h4 h4' hn0 hs3 ht3 hs4 ht4 cF cH _ Hd hHd hx (fun e => hx ⟨(hq.1 e.2).1, (hq.1 e.2).2.1, (hq.1 e.2).2.2.1, (hq.1 e.2).2.2.2.1⟩)
end

/-- sameAlone, whole. -/
theorem alone_all {X : Gx} {n0 G nb nc lsb cm kc ac tk ta : Nat} (ok : X.Ok) : AloneC X n0 G nb nc lsb cm kc ac tk ta := by
  intro V al i b i' b' n r r' j y y' at_ hn0 e f hj t1 t2 m1 m2 f1 f2
  obtain ⟨p, hp, -⟩ := ok.kid _ _ t1
  obtain ⟨p', hp', -⟩ := ok.kid _ _ t2
  obtain ⟨c0, c1, c2⟩ := at_.nd _ _ _ t1 hp
  obtain ⟨d0, d1, d2⟩ := at_.nd _ _ _ t2 hp'
  have al0 : AL V G nb X.ND.length nc (X.first al i + j) (X.first al i' + j) b (X.O b + j * sz al + hr al) b' (X.O b' + j * sz al + hr al) p.1 p.2 p'.1 p'.2 X.C X.D kc ac tk ta := ⟨at_.n8, c0, c1, c2, d0, d1, d2, at_.c2, at_.c6⟩
  have l1 := (List.getElem?_eq_some_iff.1 t1).1
  have l2 := (List.getElem?_eq_some_iff.1 t2).1
  have b1 := m1.body f1
  have b2 := m2.body f2
  cases al with
  | false => exact alone_kid al0 l1 l2 (ok.side i b n r j e hj) f1 f2 hn0 b1.sub b2.sub b1.cel b2.cel
  | true =>
    have s1 := ok.side2 i b n r j e hj
    have s2 := ok.side2 i' b' n r' j f hj
    have u1 := at_.th i b n r j e hj
    have u2 := at_.th i' b' n r' j f hj
    have g1 := bdy_fit f1
    have g2 := bdy_fit f2
    obtain ⟨con, ca, cn, cc, ck, x, rfl, -, h1, hx⟩ := alt_open f1
    obtain ⟨con', ca', cn', cc', ck', x', rfl, -, h1', hx'⟩ := alt_open f2
    have hlim := ok.lim
    have q0 : V.cell? ⟨b, X.O b + j * 9, none⟩ = some (.string con) := m1.cel 0 _ rfl
    have q1 : V.cell? ⟨b, X.O b + j * 9 + 1, none⟩ = some (.slice ca cn cc) := m1.cel 1 _ rfl
    have r0 : V.cell? ⟨b', X.O b' + j * 9, none⟩ = some (.string con') := m2.cel 0 _ rfl
    have r1 : V.cell? ⟨b', X.O b' + j * 9 + 1, none⟩ = some (.slice ca' cn' cc') := m2.cel 1 _ rfl
    have hd51 : ∀ V', Kept (fun _ => True) V V' → Calls Try.prog 51 #[.pointer (some ⟨b, X.O b + j * 9, none⟩), .pointer (some ⟨b', X.O b' + j * 9, none⟩)] V' (SmP (con = con' ∧ cn = cn' ∧ ck'.sim ck) V') := fun V' k => by
      have fc : ∀ (p : Addr) v, V.cell? p = some v → V'.cell? p = some v := fun p v hv => (k.cell (block_lt_of_cell hv) trivial).trans hv
      exact i_head (Nat.le_trans hn0 k.size) (fc _ _ q0) (fc _ _ q1) (fc _ _ r0) (fc _ _ r1) h1 h1' (Fo.Sub.kept k (fun c hc => ⟨trivial, by have : c < n0 := hc; omega⟩) m1.sub.1) (Fo.Sub.kept k (fun c hc => ⟨trivial, by have : c < n0 := hc; omega⟩) m2.sub.1)
    have hc := alone_alt (F := x) (H := x') (a' := A.off X.AA i + j) (b' := A.off X.AA i' + j) al0 l1 l2 (by omega) (Nat.add_assoc _ _ _) (Nat.add_assoc _ _ _) s1 s2 u1 u2 hx hx' hn0 b1.sub b2.sub b1.cel b2.cel hd51
    refine hc.mono ?_
    rintro e V' ⟨v, rfl, hv, hb⟩
    refine ⟨v, rfl, hv.trans ?_, hb⟩
    show _ ↔ hd true _ _
    simp only [hd, hdA, if_true, Value.string.injEq]

/-- The lists of two roots. -/
theorem RT2.make {W V : World} {lo lo' rb rc : Nat} {F H : Fo} (ho : Own lo W F) (ho' : Own lo' W H) (hap : ∀ c ∈ F.inn, c ∉ H.inn) (hf : Fit E F (E 3)) (hg : Fit E H (E 3)) (hw : F.wt ≤ 1048576) (hw' : H.wt ≤ 1048576) (hb : Below W.heap.size W V) (bx : Bx V rb F.vals) (by_ : Bx V rc H.vals) (hr : W.heap.size ≤ rb) (hr' : W.heap.size ≤ rc) (hne : rb ≠ rc) : RT2 V rb rc F H := by
  have r1 := RT.make ho hf hw hb bx hr
  have r2 := RT.make ho' hg hw' hb by_ hr'
  have hl : 0 < F.len := by have := Fit.len hf; rw [this]; decide
  have hl' : 0 < H.len := by have := Fit.len hg; rw [this]; decide
  have hin : ∀ c ∈ F.inn, c < W.heap.size := fun c hc => (ho.subs.inn_of c hc).2
  have hin' : ∀ c ∈ H.inn, c < W.heap.size := fun c hc => (ho'.subs.inn_of c hc).2
  have t1 := (tc_wt _ F 1 (Nat.le_refl _)).1 hf
  have t2 := (tc_wt _ H 1 (Nat.le_refl _)).1 hg
  have n1 := r1.nd
  have n2 := r2.nd
  have v1 := r1.live
  have v2 := r2.live
  simp only [Fo.inn, List.append_nil] at n1 n2 v1 v2
  refine ⟨hf, hg, ⟨r1.sub.1, r2.sub.1, trivial⟩, ?_, ?_, by omega⟩
  · simp only [two, Fo.inn, List.append_nil]
    refine List.nodup_append.2 ⟨n1, n2, fun x hx y hy e => ?_⟩
    subst e
    rw [blk_pos hl] at hx
    rw [blk_pos hl'] at hy
    rcases List.mem_append.1 hx with h1 | h1 <;> rcases List.mem_append.1 hy with h2 | h2
    · have e1 : x = rb := by simpa using h1
      have e2 : x = rc := by simpa using h2
      exact hne (by rw [← e1, ← e2])
    · have e1 : x = rb := by simpa using h1
      have := hin' x h2
      omega
    · have e2 : x = rc := by simpa using h2
      have := hin x h1
      omega
    · exact hap x h1 h2
  · simp only [two, Fo.inn, List.append_nil]
    intro c hc j
    rcases List.mem_append.1 hc with h1 | h1
    · exact v1 c h1 j
    · exact v2 c h1 j

/-- impl.SameCore, whole. -/
theorem i_sameC {F H : Fo} {lo lo' : Nat} (W : World) (hf : Fit E F (E 3)) (hg : Fit E H (E 3)) (hw : F.wt ≤ 1048576) (hw' : H.wt ≤ 1048576) (ho : Own lo W F) (ho' : Own lo' W H) (hap : ∀ c ∈ F.inn, c ∉ H.inn) : Calls Try.prog 11 #[.agg F.vals.toArray, .agg H.vals.toArray] W (SmP (H.sim F) W) :=
  i_same W hf hg (fun _ _ _ hb bx bY hr hr' hne => RT2.make ho ho' hap hf hg hw hw' hb bx bY hr hr' hne) (fun _ _ _ _ _ _ _ _ _ _ _ ok => alone_all ok)

open Classical in
noncomputable def sameB (F G : Fo) : Bool := decide (G.sim F)
theorem sameB_iff (F G : Fo) : sameB F G = true ↔ G.sim F := by simp [sameB]
theorem sameB_sim {F F' G G' : Fo} {fs gs : List Fld} (_h1 : Fit E F fs) (_h2 : Fit E G gs) (h : F'.sim F) (k : G'.sim G) : sameB F' G' = sameB F G := by
  rw [Bool.eq_iff_iff, sameB_iff, sameB_iff]
  exact ⟨fun e => (k.symm.trans e).trans h, fun e => (k.trans e).trans h.symm⟩

theorem SmP.val {F G : Fo} {W W' : World} {e : Ending} (h : SmP (G.sim F) W e W') : e = .returned (.bool (sameB F G)) ∧ Below W.heap.size W W' := by
  obtain ⟨v, rfl, hv, hb⟩ := h
  refine ⟨?_, hb⟩
  have : v = sameB F G := by rw [Bool.eq_iff_iff, hv, sameB_iff]
  rw [this]

theorem m_SameC (F G : Fo) (V : World) (hf : Fit E F (E 3)) (hg : Fit E G (E 3)) (_hw : F.wt ≤ 1048576) (_hv : G.wt ≤ 1048576) (hF : F.Subs V (fun c => c < V.heap.size)) (hG : G.Subs V (fun c => c < V.heap.size)) :
    Calls Try.prog 10 #[.agg F.vals.toArray, .agg G.vals.toArray] V fun e V' => e = .returned (.bool (sameB F G)) ∧ Below V.heap.size V V' := (m_same F G V hf hg hF hG).mono (fun _ _ h => h.val)

theorem i_SameC2 {lo lo' : Nat} (F G : Fo) (V : World) (hf : Fit E F (E 3)) (hg : Fit E G (E 3)) (hw : F.wt ≤ 1048576) (hv : G.wt ≤ 1048576) (hF : Own lo V F) (hG : Own lo' V G) (hz : ∀ c ∈ F.inn, c < lo') :
    Calls Try.prog 11 #[.agg F.vals.toArray, .agg G.vals.toArray] V fun e V' => e = .returned (.bool (sameB F G)) ∧ Below V.heap.size V V' :=
  (i_sameC V hf hg hw hv hF hG (fun c h1 h2 => by have := (hG.subs.inn_of c h2).1; have := hz c h1; omega)).mono (fun _ _ h => h.val)

end Go.Proofs.Ytfgmgbkiebeeoaa
