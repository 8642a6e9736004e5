import Derived.Test.YtcnbnhoeobdbnaaPu
import Derived.Test.YtcnbnhoeobdbnaaMo
namespace Go.Proofs.Ytcnbnhoeobdbnaa
open Go.RowKit Go.Shelf Go.Joins

attribute [local go_sem] Oper.semAt_some

/-- A scheme that can be opened. -/
def okO (c f k ix : Int) (nm : ByteArray) (ks : Fo) : Prop := TG k ix nm ks ∧ 0 ≤ f ∧ f ≤ 1099511627776 ∧ 0 ≤ c ∧ c ≤ 1099511627776 ∧ (Fo.cons k ix nm none 0 ks .nil).pls c

def zeroT : Fo := .cons 0 0 ⟨#[]⟩ none 0 .nil .nil
def zeroN : Nd := ⟨0, 0, ⟨#[]⟩, none, 0, .nil⟩

theorem zeroN_ok (W : World) (S : Nat → Prop) : zeroN.Ok W S := ⟨by decide, by decide, Nat.zero_le _, Nat.le_refl _, Nat.zero_le _, fun h => by simp [zeroN, Fo.len] at h⟩

/-- What Open answers. -/
def OpP (W : World) (T : Fo) (e : Ending) (W' : World) : Prop := ∃ d : Nd, e = .returned d.v ∧ d.fo.sim T ∧ d.Ok W' (fun c => W.heap.size ≤ c ∧ c < W'.heap.size) ∧ (blk d.a d.ks.len ++ d.ks.inn).Nodup ∧ Live W' (blk d.a d.ks.len ++ d.ks.inn) ∧ Below W.heap.size W W'

theorem OpP.zero {W W' : World} (h : Below W.heap.size W W') : OpP W zeroT (.returned (.agg #[.int .i64 0, .int .i64 0, .string ⟨#[]⟩, .slice none 0 0])) W' :=
  ⟨zeroN, rfl, ⟨rfl, rfl, rfl, trivial, trivial⟩, zeroN_ok _ _, by simp [zeroN, blk, Fo.inn], fun c hc => by simp [zeroN, blk, Fo.inn] at hc, h⟩

set_option maxRecDepth 100000 in
set_option maxHeartbeats 4000000 in
/-- Where the scheme is faulty or a number out of its bounds. -/
theorem iopen_bad (c : Int) (pa : Option Addr) (pn pc : Nat) (k ix : Int) (nm : ByteArray) (a : Option Addr) (cap : Nat) (ks : Fo) (f : Int) (w : World)
    (hk : (Lit.int .i64 k).wf = true) (hix : (Lit.int .i64 ix).wf = true) (hnm : nm.size ≤ maxLen) (hs : ks.Sl w (fun b => b < w.heap.size) a cap) (hsz : ks.size ≤ 1048576) (hbad : fltB k ix nm ks = true ∨ f < 0 ∨ 1099511627776 < f ∨ c < 0 ∨ 1099511627776 < c) :
    Calls Try.prog 42 #[schV c pa pn pc k ix nm a ks.len cap, .int .i64 f] w fun e W' => OpP w zeroT e W' := by
  unfold schV
  obtain ⟨W3, hW3⟩ : ∃ W3, ((w.alloc (.cells #[.int .i64 c, .slice pa pn pc, .int .i64 k, .int .i64 ix, .string nm, .slice a ks.len cap] 51)).alloc (.cells #[.int .i64 f] 2)).alloc (.cells #[.int .i64 0, .int .i64 0, .string ⟨#[]⟩, .slice none 0 0] 29) = W3 := ⟨_, rfl⟩
  have b3 : Below w.heap.size w W3 := by rw [← hW3]; exact below_alloc3 _ _ _ _
  have z3 : W3.heap.size = w.heap.size + 1 + 1 + 1 := by rw [← hW3]; simp
  have q1 : Box6 W3 w.heap.size (.int .i64 c) (.slice pa pn pc) (.int .i64 k) (.int .i64 ix) (.string nm) (.slice a ks.len cap) := by
    rw [← hW3]
    exact (Box6.new _ _ _ _ _ _ _ _).kept ((Kept.alloc (fun _ => True) _ _).trans (Kept.alloc _ _ _)) trivial
  have c2 : W3.cell? ⟨w.heap.size + 1, 0, none⟩ = some (.int .i64 f) := by
    rw [← hW3]
    have h1 := cell_new (w.alloc (.cells #[.int .i64 c, .slice pa pn pc, .int .i64 k, .int .i64 ix, .string nm, .slice a ks.len cap] 51)) (.int .i64 f) 2
    rw [World.size_alloc] at h1
    exact ((Kept.alloc (fun _ => True) _ _).cell (p := ⟨w.heap.size + 1, 0, none⟩) (by simp) trivial).trans h1
  have q4 : Box4 W3 (w.heap.size + 1 + 1) (.int .i64 0) (.int .i64 0) (.string ⟨#[]⟩) (.slice none 0 0) := by
    rw [← hW3]
    have := Box4.new ((w.alloc (.cells #[.int .i64 c, .slice pa pn pc, .int .i64 k, .int .i64 ix, .string nm, .slice a ks.len cap] 51)).alloc (.cells #[.int .i64 f] 2)) (.int .i64 0) (.int .i64 0) (.string ⟨#[]⟩) (.slice none 0 0) 29
    rwa [World.size_alloc, World.size_alloc] at this
  have HF := ifault k ix nm a cap ks W3 hk hix hnm ((hs.below b3 (fun _ x => x)).mono (fun b x => by omega)) hsz
  unfold nodeV at HF
  have HF' := hide HF
  have HB := hide b3
  have HZ := hide z3
  have HQ1 := hide q1
  have HC2 := hide c2
  have HQ4 := hide q4
  clear b3 z3 q1 c2 q4 HF hs
  have key : ∀ (w4 : World), Below W3.heap.size W3 w4 → Hid (OpP w zeroT (.returned (.agg #[.int .i64 0, .int .i64 0, .string ⟨#[]⟩, .slice none 0 0])) ((((w4.setCell ⟨w.heap.size + 1 + 1, 0, none⟩ (.int .i64 0)).setCell ⟨w.heap.size + 1 + 1, 1, none⟩ (.int .i64 0)).setCell ⟨w.heap.size + 1 + 1, 2, none⟩ (.string ⟨#[]⟩)).setCell ⟨w.heap.size + 1 + 1, 3, none⟩ (.slice none 0 0))) := fun w4 b4 => by
    have hz := HZ.out
    have h0 : Below w.heap.size w w4 := HB.out.trans (b4.mono (by omega))
    refine OpP.zero ?_
    refine (((h0.setCell ?_ _).setCell ?_ _).setCell ?_ _).setCell ?_ _ <;> simp <;> omega
  have HKEY := hide key
  clear key
  have fin : True := trivial
  rcases hfb : fltB k ix nm ks with _ | _
  · rw [hfb] at HF' hbad
    simp only [Bool.false_eq_true, false_or] at hbad
    by_cases h1 : f < 0
    · clear hbad
      go_enter Try.func42, Try.ntmps42
      go_upto_region 1 with fail
      clear hW3
      obtain ⟨-, xu, xp, x0, xi, x1, x2, -, -, -, -, -, -⟩ := HQ1.out
      go_wp2_with fail
      refine HF'.out.mono ?_
      rintro e w4 ⟨rfl, b4⟩
      have q4 := HQ4.out.below b4 (by have := HZ.out; omega)
      have q1 := HQ1.out.below b4
      have c2 := (b4.cell (p := ⟨w.heap.size + 1, 0, none⟩) (by have := HZ.out; show w.heap.size + 1 < _; omega)).trans HC2.out
      have HKY := HKEY.out w4 b4
      clear xu xp x0 xi x1 x2 b4
      obtain ⟨-, xu, xp, x0, xi, x1, x2, -, -, -, -, -, -⟩ := q1
      obtain ⟨-, y0, yi, y1, y2, u0, ui, u1, u2⟩ := q4
      go_wp2_with fail
      exact bodyPost_ret (v := .agg #[.int .i64 0, .int .i64 0, .string ⟨#[]⟩, .slice none 0 0]) (by simp [results, Try.results42, go_sem, y0, yi, y1, y2]) rfl HKY.out
    by_cases h2 : 1099511627776 < f
    · clear hbad
      go_enter Try.func42, Try.ntmps42
      go_upto_region 1 with fail
      clear hW3
      obtain ⟨-, xu, xp, x0, xi, x1, x2, -, -, -, -, -, -⟩ := HQ1.out
      go_wp2_with fail
      refine HF'.out.mono ?_
      rintro e w4 ⟨rfl, b4⟩
      have q4 := HQ4.out.below b4 (by have := HZ.out; omega)
      have q1 := HQ1.out.below b4
      have c2 := (b4.cell (p := ⟨w.heap.size + 1, 0, none⟩) (by have := HZ.out; show w.heap.size + 1 < _; omega)).trans HC2.out
      have HKY := HKEY.out w4 b4
      clear xu xp x0 xi x1 x2 b4
      obtain ⟨-, xu, xp, x0, xi, x1, x2, -, -, -, -, -, -⟩ := q1
      obtain ⟨-, y0, yi, y1, y2, u0, ui, u1, u2⟩ := q4
      go_wp2_with fail
      exact bodyPost_ret (v := .agg #[.int .i64 0, .int .i64 0, .string ⟨#[]⟩, .slice none 0 0]) (by simp [results, Try.results42, go_sem, y0, yi, y1, y2]) rfl HKY.out
    by_cases h3 : c < 0
    · clear hbad
      go_enter Try.func42, Try.ntmps42
      go_upto_region 1 with fail
      clear hW3
      obtain ⟨-, xu, xp, x0, xi, x1, x2, -, -, -, -, -, -⟩ := HQ1.out
      go_wp2_with fail
      refine HF'.out.mono ?_
      rintro e w4 ⟨rfl, b4⟩
      have q4 := HQ4.out.below b4 (by have := HZ.out; omega)
      have q1 := HQ1.out.below b4
      have c2 := (b4.cell (p := ⟨w.heap.size + 1, 0, none⟩) (by have := HZ.out; show w.heap.size + 1 < _; omega)).trans HC2.out
      have HKY := HKEY.out w4 b4
      clear xu xp x0 xi x1 x2 b4
      obtain ⟨-, xu, xp, x0, xi, x1, x2, -, -, -, -, -, -⟩ := q1
      obtain ⟨-, y0, yi, y1, y2, u0, ui, u1, u2⟩ := q4
      go_wp2_with fail
      exact bodyPost_ret (v := .agg #[.int .i64 0, .int .i64 0, .string ⟨#[]⟩, .slice none 0 0]) (by simp [results, Try.results42, go_sem, y0, yi, y1, y2]) rfl HKY.out
    have h4 : 1099511627776 < c := by omega
    clear hbad
    go_enter Try.func42, Try.ntmps42
    go_upto_region 1 with fail
    clear hW3
    obtain ⟨-, xu, xp, x0, xi, x1, x2, -, -, -, -, -, -⟩ := HQ1.out
    go_wp2_with fail
    refine HF'.out.mono ?_
    rintro e w4 ⟨rfl, b4⟩
    have q4 := HQ4.out.below b4 (by have := HZ.out; omega)
    have q1 := HQ1.out.below b4
    have c2 := (b4.cell (p := ⟨w.heap.size + 1, 0, none⟩) (by have := HZ.out; show w.heap.size + 1 < _; omega)).trans HC2.out
    have HKY := HKEY.out w4 b4
    clear xu xp x0 xi x1 x2 b4
    obtain ⟨-, xu, xp, x0, xi, x1, x2, -, -, -, -, -, -⟩ := q1
    obtain ⟨-, y0, yi, y1, y2, u0, ui, u1, u2⟩ := q4
    go_wp2_with fail
    exact bodyPost_ret (v := .agg #[.int .i64 0, .int .i64 0, .string ⟨#[]⟩, .slice none 0 0]) (by simp [results, Try.results42, go_sem, y0, yi, y1, y2]) rfl HKY.out
  · rw [hfb] at HF'
    clear hbad
    go_enter Try.func42, Try.ntmps42
    go_upto_region 1 with fail
    clear hW3
    obtain ⟨-, xu, xp, x0, xi, x1, x2, -, -, -, -, -, -⟩ := HQ1.out
    go_wp2_with fail
    refine HF'.out.mono ?_
    rintro e w4 ⟨rfl, b4⟩
    have q4 := HQ4.out.below b4 (by have := HZ.out; omega)
    have q1 := HQ1.out.below b4
    have c2 := (b4.cell (p := ⟨w.heap.size + 1, 0, none⟩) (by have := HZ.out; show w.heap.size + 1 < _; omega)).trans HC2.out
    have HKY := HKEY.out w4 b4
    clear xu xp x0 xi x1 x2 b4
    obtain ⟨-, xu, xp, x0, xi, x1, x2, -, -, -, -, -, -⟩ := q1
    obtain ⟨-, y0, yi, y1, y2, u0, ui, u1, u2⟩ := q4
    go_wp2_with fail
    exact bodyPost_ret (v := .agg #[.int .i64 0, .int .i64 0, .string ⟨#[]⟩, .slice none 0 0]) (by simp [results, Try.results42, go_sem, y0, yi, y1, y2]) rfl HKY.out

/-- What the walk for places knows behind k types. -/
def PlI (w4 : World) (c : Int) (LL : List El) (k : Nat) (O : Nat → Prop) (W : World) : Prop :=
  Below w4.heap.size w4 W ∧ (∀ b, O b → w4.heap.size ≤ b) ∧ (∀ x, x ∈ LL.take k → x.k = 2 → x.ix < c)
def PlX (w w4 : World) (c : Int) (LL : List El) (cd : Code) (_ : Nat) (O : Nat → Prop) (W : World) : Prop :=
  cd = .ret ∧ (∃ x, x ∈ LL ∧ x.k = 2 ∧ ¬ x.ix < c) ∧ Box4 W (w.heap.size + 1 + 1) (.int .i64 0) (.int .i64 0) (.string ⟨#[]⟩) (.slice none 0 0) ∧ w.heap.size + 1 + 1 < w4.heap.size ∧ Below w.heap.size w W ∧ (∀ b, O b → w4.heap.size ≤ b) ∧ w4.heap.size ≤ W.heap.size

theorem PlI.abid (w4 : World) (c : Int) (LL : List El) : Abid (PlI w4 c LL) := fun k O O' A B h hK hn =>
  ⟨Below.kept h.1 hK (fun b hb x => by have := h.2.1 b x; omega) (Nat.le_refl _), fun b x => by
    rcases hn b x with y | y
    · exact h.2.1 b y
    · have := h.1.size; omega, h.2.2⟩
theorem PlX.abid (w w4 : World) (c : Int) (LL : List El) (cd : Code) : Abid (PlX w w4 c LL cd) := fun k O O' A B h hK hn => by
  obtain ⟨h1, h2, h3, h4, h5, h6, h7⟩ := h
  refine ⟨h1, h2, h3.kept hK (fun x => by have := h6 _ x; omega), h4, Below.kept h5 hK (fun b hb x => by have := h6 b x; omega) (Nat.le_refl _), fun b x => ?_, Nat.le_trans h7 hK.size⟩
  rcases hn b x with y | y
  · exact h6 b y
  · omega

theorem Fo.pls_els (c : Int) : ∀ (F : Fo) (d : Nat), F.pls c ↔ ∀ x, x ∈ F.els d → x.k = 2 → x.ix < c
  | .nil, _ => ⟨fun _ x hx => absurd hx (by simp [Fo.els]), fun _ => trivial⟩
  | .cons k ix nm a cap ks r, d => by
    simp only [Fo.pls, Fo.els, List.mem_cons, List.mem_append, Fo.pls_els c ks (d + 1), Fo.pls_els c r d]
    constructor
    · rintro ⟨h1, h2, h3⟩ x (rfl | hx | hx)
      · exact h1
      · exact h2 x hx
      · exact h3 x hx
    · intro h
      exact ⟨h _ (.inl rfl), fun x hx => h x (.inr (.inl hx)), fun x hx => h x (.inr (.inr hx))⟩

theorem Fo.pl_of {c : Int} (hc : c ≤ 1099511627776) : ∀ (F : Fo) (d : Nat), F.good d → F.pls c → F.pl
  | .nil, _, _, _ => trivial
  | .cons k ix nm a cap ks r, d, h, p => ⟨fun hk => ⟨by rcases h.2.1 with ⟨_, h1, _⟩ | ⟨h1, _⟩; exact h1; omega, by have := p.1 hk; omega⟩, Fo.pl_of hc ks _ h.2.2.1 p.2.1, Fo.pl_of hc r _ h.2.2.2 p.2.2⟩

end Go.Proofs.Ytcnbnhoeobdbnaa
