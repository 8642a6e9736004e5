import Derived.Test.YtcnbnhoeobdbnaaIo
namespace Go.Proofs.Ytcnbnhoeobdbnaa
open Go.RowKit Go.Shelf Go.Joins

attribute [local go_sem] Oper.semAt_some

theorem box4_set {W : World} {b : Nat} {x i y z : Value} (h : Box4 W b x i y z) (x' i' y' z' : Value) : Box4 ((((W.setCell ⟨b, 0, none⟩ x').setCell ⟨b, 1, none⟩ i').setCell ⟨b, 2, none⟩ y').setCell ⟨b, 3, none⟩ z') b x' i' y' z' := by
  obtain ⟨l, c0, ci, c1, c2, f0, fi, f1, f2⟩ := h
  have n : ∀ (V : World) (j m : Nat) (v : Value), j ≠ m → (V.setCell ⟨b, j, none⟩ v).cell? ⟨b, m, none⟩ = V.cell? ⟨b, m, none⟩ := fun V j m v hj => World.cell?_setCell_other _ _ _ _ (fun e => hj (congrArg Addr.off e))
  refine ⟨by simpa [World.setCell] using l, ?_, ?_, ?_, ?_, by simp only [World.frozen?_setCell]; exact f0, by simp only [World.frozen?_setCell]; exact fi, by simp only [World.frozen?_setCell]; exact f1, by simp only [World.frozen?_setCell]; exact f2⟩
  · rw [n _ _ _ _ (by decide), n _ _ _ _ (by decide), n _ _ _ _ (by decide)]
    exact World.cell?_setCell_same' _ _ _ (by rw [c0]; rfl)
  · rw [n _ _ _ _ (by decide), n _ _ _ _ (by decide)]
    exact World.cell?_setCell_same' _ _ _ (by rw [n _ _ _ _ (by decide), ci]; rfl)
  · rw [n _ _ _ _ (by decide)]
    exact World.cell?_setCell_same' _ _ _ (by rw [n _ _ _ _ (by decide), n _ _ _ _ (by decide), c1]; rfl)
  · exact World.cell?_setCell_same' _ _ _ (by rw [n _ _ _ _ (by decide), n _ _ _ _ (by decide), n _ _ _ _ (by decide), c2]; rfl)

open Classical in
/-- What the program opens a scheme to, its numbers in their bounds and its type without fault. -/
noncomputable def opnT (c f : Int) (F : Fo) : Fo := if F.pls c then F.wl f else zeroT

set_option maxRecDepth 100000 in
set_option maxHeartbeats 4000000 in
theorem iopen_in (n : Nat) (hn : 5 ≤ n) (c : Int) (pa : Option Addr) (pn pc : Nat) (k ix : Int) (nm : ByteArray) (a : Option Addr) (cap : Nat) (ks : Fo) (f : Int) (w : World)
    (hk : (Lit.int .i64 k).wf = true) (hix : (Lit.int .i64 ix).wf = true) (hnm : nm.size ≤ maxLen) (hs : ks.Sl w (fun b => b < w.heap.size) a cap) (hsz : nm.size + ks.tot ≤ 1048576) (hT : TG k ix nm ks) (h1 : ¬ f < 0) (h2 : ¬ 1099511627776 < f) (h3 : ¬ c < 0) (h4 : ¬ 1099511627776 < c) :
    CallsIn Fence.wide n Try.prog 42 #[.agg #[.int .i64 c, .slice pa pn pc, .int .i64 k, .int .i64 ix, .string nm, .slice a ks.len cap], .int .i64 f] w fun e W' => OpP w (opnT c f (.cons k ix nm a cap ks .nil)) e W' := by
  have hn1 : 1 ≤ n := by omega
  have hst := ks.size_le
  have d1 : decide (f < 0) = false := decide_eq_false h1
  have d2 : decide (1099511627776 < f) = false := decide_eq_false h2
  have d3 : decide (c < 0) = false := decide_eq_false h3
  have d4 : decide (1099511627776 < c) = false := decide_eq_false h4
  have hflt : fltB k ix nm ks = false := by simp [fltB, hT]
  obtain ⟨W3, hW3⟩ : ∃ W3, ((w.alloc (.cells #[.int .i64 c, .slice pa pn pc, .int .i64 k, .int .i64 ix, .string nm, .slice a ks.len cap] 51)).alloc (.cells #[.int .i64 f] 2)).alloc (.cells #[.int .i64 0, .int .i64 0, .string ⟨#[]⟩, .slice none 0 0] 29) = W3 := ⟨_, rfl⟩
  have b3 : Below w.heap.size w W3 := by rw [← hW3]; exact below_alloc3 _ _ _ _
  have z3 : W3.heap.size = w.heap.size + 1 + 1 + 1 := by rw [← hW3]; simp
  have q1 : Box6 W3 w.heap.size (.int .i64 c) (.slice pa pn pc) (.int .i64 k) (.int .i64 ix) (.string nm) (.slice a ks.len cap) := by
    rw [← hW3]
    exact (Box6.new _ _ _ _ _ _ _ _).kept ((Kept.alloc (fun _ => True) _ _).trans (Kept.alloc _ _ _)) trivial
  have c2 : W3.cell? ⟨w.heap.size + 1, 0, none⟩ = some (.int .i64 f) := by
    rw [← hW3]
    have h1 := cell_new (w.alloc (.cells #[.int .i64 c, .slice pa pn pc, .int .i64 k, .int .i64 ix, .string nm, .slice a ks.len cap] 51)) (.int .i64 f) 2
    rw [World.size_alloc] at h1
    exact ((Kept.alloc (fun _ => True) _ _).cell (p := ⟨w.heap.size + 1, 0, none⟩) (by simp) trivial).trans h1
  have q4 : Box4 W3 (w.heap.size + 1 + 1) (.int .i64 0) (.int .i64 0) (.string ⟨#[]⟩) (.slice none 0 0) := by
    rw [← hW3]
    have := Box4.new ((w.alloc (.cells #[.int .i64 c, .slice pa pn pc, .int .i64 k, .int .i64 ix, .string nm, .slice a ks.len cap] 51)).alloc (.cells #[.int .i64 f] 2)) (.int .i64 0) (.int .i64 0) (.string ⟨#[]⟩) (.slice none 0 0) 29
    rwa [World.size_alloc, World.size_alloc] at this
  have HF := ifault k ix nm a cap ks W3 hk hix hnm ((hs.below b3 (fun _ x => x)).mono (fun b x => by omega)) (by omega)
  unfold nodeV at HF
  rw [hflt] at HF
  have HF' := hide HF
  have HB := hide b3
  have HZ := hide z3
  have HQ1 := hide q1
  have HC2 := hide c2
  have HQ4 := hide q4
  obtain ⟨-, xu, xp, x0, xi, x1, x2, -, -, -, -, -, -⟩ := id q1
  clear b3 z3 q1 c2 q4 HF hflt
  refine callsIn_of_wp_marks Try.func42 rfl trivial ?_ rfl
  simp only [Try.ntmps42, List.size_toArray, List.length_cons, List.length_nil, Nat.reduceAdd, Nat.reduceSub, Array.replicate_succ, Array.replicate_zero, List.push_toArray, List.append_toArray, List.nil_append, List.cons_append]
  gi_wp2_with (refine ⟨trivial, ?_⟩; gi_at_call 12; refine (callsIn_wide.2 HF'.out).mono ?_; rintro e w4 ⟨rfl, b4⟩; have q1 := HQ1.out.below b4; have c2 := (b4.cell (p := ⟨w.heap.size + 1, 0, none⟩) (by have := HZ.out; show w.heap.size + 1 < _; omega)).trans HC2.out; obtain ⟨-, zu, zp, z0, zi, z1, z2, -, -, -, -, -, -⟩ := id q1; have HB4 := hide b4; clear b4)
  gi_wp2_with (refine ⟨trivial, ?_⟩; gi_at_call 50; refine (typesOf_in Fence.wide (n - 1) trivial trivial rfl (by omega) _ _ _ _ _ _ _).mono ?_; rintro e w' ⟨rfl, rfl⟩)
  obtain ⟨LL, hLL⟩ : ∃ LL, LL = (Fo.cons k ix nm a cap ks .nil).els 1 := ⟨_, rfl⟩
  have hLn : LL.length = 1 + ks.size := by rw [hLL, Fo.els_length]; simp only [Fo.size]; omega
  have hpe : (Fo.cons k ix nm a cap ks .nil).pls c ↔ ∀ x, x ∈ LL → x.k = 2 → x.ix < c := by rw [hLL]; exact Fo.pls_els c _ 1
  have hz3 := HZ.out
  have hz4 : W3.heap.size ≤ w4.heap.size := HB4.out.size
  have hB4 : Below w.heap.size w w4 := HB.out.trans (HB4.out.mono (by omega))
  have hs4 : ks.Sl w4 (fun b => b < w.heap.size) a cap := hs.below hB4 (fun _ x => x)
  obtain ⟨W0, hW0⟩ : ∃ W0, ((w4.alloc (.cells #[.int .i64 k, .int .i64 ix, .string nm, .slice a ks.len cap] 29)).alloc (.cells #[.int .i64 k, .int .i64 ix, .string nm, .slice a ks.len cap] 29)).alloc (.cells #[.func (.func 78) #[] #[]] 128) = W0 := ⟨_, rfl⟩
  have z0' : W0.heap.size = w4.heap.size + 3 := by rw [← hW0]; simp
  have bD : Below w4.heap.size w4 W0 := by rw [← hW0]; exact below_alloc3 _ _ _ _
  have q5 : Box4 W0 (w4.heap.size + 1) (.int .i64 k) (.int .i64 ix) (.string nm) (.slice a ks.len cap) := by
    rw [← hW0]
    have := (Box4.new (w4.alloc (.cells #[.int .i64 k, .int .i64 ix, .string nm, .slice a ks.len cap] 29)) (.int .i64 k) (.int .i64 ix) (.string nm) (.slice a ks.len cap) 29).alloc (.cells #[.func (.func 78) #[] #[]] 128)
    simpa using this
  have hfb : W0.cell? ⟨w4.heap.size + 1 + 1, 0, none⟩ = some (.func (.func 78) #[] #[]) := by
    have h2 := cell_new ((w4.alloc (.cells #[.int .i64 k, .int .i64 ix, .string nm, .slice a ks.len cap] 29)).alloc (.cells #[.int .i64 k, .int .i64 ix, .string nm, .slice a ks.len cap] 29)) (.func (.func 78) #[] #[]) 128
    rw [hW0, World.size_alloc, World.size_alloc] at h2
    exact h2
  have hI0 : PlI w4 c LL 0 (fun _ => False) W0 := ⟨bD, fun _ x => x.elim, fun x hx => absurd hx (by simp)⟩
  have hB0 : Below w.heap.size w W0 := hB4.trans (bD.mono (by omega))
  rw [hW0]
  have HLn := hide hLn
  have HLL := hide hLL
  have HPE := hide hpe
  have HB4w := hide hB4
  have Hz := hide (And.intro hz3 (And.intro hz4 z0'))
  clear hW0 hLn hLL hpe zu zp z0 zi z1 z2 xu xp x0 xi x1 x2 q1 c2 d1 d2 d3 d4 hs4
  refine wpIn_range rfl hn1 (gf := 84) (lb := #[.pointer (some ⟨w4.heap.size + 1, 0, none⟩), .pointer (some ⟨w4.heap.size + 1 + 1, 0, none⟩)]) rfl trivial (enters_of Try.func84 (by kernel_rfl) rfl)
    (nodes_seq Fence.wide (n - 1) trivial rfl (by omega) (w4.heap.size + 1) w.heap.size k ix nm a cap ks W0 (w4.heap.size + 1 + 1) trivial hfb (by omega) hk hix hnm q5 (hs.below hB0 (fun _ x => x)) (by omega)) (Below.refl _ _) (fun b hb => by omega) (fun _ => rfl)
    (PlI w4 c LL) (PlX w w4 c LL) (PlI.abid _ _ _) (PlX.abid _ _ _ _) hI0
    (fun i O a' W => ∃ (x : El) (b : Nat), LL[i]? = some x ∧ Box4 W b (.int .i64 x.k) (.int .i64 x.ix) (.string x.nm) (.slice x.a x.len x.cap) ∧ ¬ O b ∧ w4.heap.size ≤ b ∧ a' = { tmps := #[.agg #[.int .i64 c, .slice pa pn pc, .int .i64 k, .int .i64 ix, .string nm, .slice a ks.len cap], .int .i64 f, .pointer (some ⟨w.heap.size, 0, none⟩), .pointer (some ⟨w.heap.size + 1, 0, none⟩), .pointer (some ⟨w.heap.size + 1 + 1, 0, none⟩), undef, .pointer (some ⟨b, 0, none⟩), .pointer (some ⟨w.heap.size, 2, none⟩), .agg #[.int .i64 k, .int .i64 ix, .string nm, .slice a ks.len cap],
      .bool false, .bool false, .int .i64 f, .bool false, .bool false, .bool false, .int .i64 f, .bool false, .bool false, .bool false, .pointer (some ⟨w.heap.size, 0, none⟩), .int .i64 c, .bool false, .bool false, .bool false, .pointer (some ⟨w.heap.size, 0, none⟩), .int .i64 c, .bool false, .bool false,
      undef, .pointer (some ⟨w.heap.size, 2, none⟩), .agg #[.int .i64 k, .int .i64 ix, .string nm, .slice a ks.len cap], .func (.func 84) #[] #[.pointer (some ⟨w4.heap.size + 1, 0, none⟩), .pointer (some ⟨w4.heap.size + 1 + 1, 0, none⟩)], .int .i64 (x.d : Int), .agg #[.int .i64 x.k, .int .i64 x.ix, .string x.nm, .slice x.a x.len x.cap], undef, undef, undef, undef, undef, undef, undef, undef, undef, undef, undef, undef, undef, undef, undef], defers := [] })
    ?assign ?body ?done ?stop
  case assign =>
    intro l i O W K hi hNB hI hK
    have hLn := HLn.out
    obtain ⟨x, hx⟩ : ∃ x, LL[i]? = some x := ⟨_, List.getElem?_eq_getElem (by omega)⟩
    have hv : ((Fo.cons k ix nm a cap ks .nil).pre 1).getD i (0, undef) = (x.d, .agg #[.int .i64 x.k, .int .i64 x.ix, .string x.nm, .slice x.a x.len x.cap]) := by
      rw [Fo.els_pre, ← HLL.out, List.getD_eq_getElem?_getD, List.getElem?_map, hx]
      rfl
    have hO : ¬ O W.heap.size := fun h => by have := (hNB _ h).lt; omega
    have hlt : w4.heap.size ≤ W.heap.size := hI.1.size
    have hq := Box4.new W (.int .i64 x.k) (.int .i64 x.ix) (.string x.nm) (.slice x.a x.len x.cap) 29
    have hI' := PlI.abid _ _ _ i O O _ _ hI (Kept.alloc (fun b => ¬ O b) W (.cells #[.int .i64 x.k, .int .i64 x.ix, .string x.nm, .slice x.a x.len x.cap] 29)) (fun b h => .inl h)
    have HK2 := hide (hK _ _ (Kept.alloc _ W (.cells #[.int .i64 x.k, .int .i64 x.ix, .string x.nm, .slice x.a x.len x.cap] 29)) hI' ⟨x, W.heap.size, hx, hq, hO, hlt, rfl⟩)
    clear hK hI hI' hq hlt hO hx
    simp only [encsOf]
    rw [hv]
    clear hv
    gi_wp2
    exact HK2.out
  case body =>
    rintro l i O a' W1 W hi ⟨x, b, hx, hbx, hOb, hwb, rfl⟩ hkp hNB hI hO
    have hbW := hbx.kept hkp hOb
    have hxm : x ∈ LL := List.mem_of_getElem? hx
    obtain ⟨-, e0, ei, e1, e2, -, -, -, -⟩ := id hbW
    have z4 := hI.1.size
    obtain ⟨hz3', hz4', hz0'⟩ := Hz.out
    have qs := (HQ1.out.below HB4.out).kept (Kept.of_below hI.1 (fun c _ h => h) : Kept (fun c => c < w4.heap.size) w4 W) (by omega)
    have qr := (HQ4.out.below HB4.out (by omega)).below hI.1 (by omega)
    have su := qs.cu
    obtain ⟨-, y0, yi, y1, y2, u0, ui, u1, u2⟩ := id qr
    have HI := hide hI
    clear hI hbx hkp hbW qs hI0
    by_cases hk2 : x.k = 2
    · have hkb : (x.k == 2) = true := by simp [hk2]
      by_cases hge : c ≤ x.ix
      · have hdg : decide (c ≤ x.ix) = true := decide_eq_true hge
        have HX : Hid (∃ y, y ∈ LL ∧ y.k = 2 ∧ ¬ y.ix < c) := ⟨x, hxm, hk2, by omega⟩
        have HQR := hide qr
        clear hk2 hge qr
        gi_wp2_with fail
        obtain ⟨V, hV⟩ : ∃ V, ((((W.setCell ⟨w.heap.size + 1 + 1, 0, none⟩ (.int .i64 0)).setCell ⟨w.heap.size + 1 + 1, 1, none⟩ (.int .i64 0)).setCell ⟨w.heap.size + 1 + 1, 2, none⟩ (.string ⟨#[]⟩)).setCell ⟨w.heap.size + 1 + 1, 3, none⟩ (.slice none 0 0)) = V := ⟨_, rfl⟩
        have kV : Kept (fun c => c ≠ w.heap.size + 1 + 1) W V := by
          rw [← hV]
          exact (((Kept.setCell _ _ _ _ (by simp)).trans (Kept.setCell _ _ _ _ (by simp))).trans (Kept.setCell _ _ _ _ (by simp))).trans (Kept.setCell _ _ _ _ (by simp))
        have qV : Box4 V (w.heap.size + 1 + 1) (.int .i64 0) (.int .i64 0) (.string ⟨#[]⟩) (.slice none 0 0) := by
          rw [← hV]
          exact box4_set HQR.out _ _ _ _
        have hnO : ¬ O (w.heap.size + 1 + 1) := fun h => by have := HI.out.2.1 _ h; omega
        rw [hV]
        refine ⟨kV.mono (fun c _ h e => ?_), rfl, (by obtain ⟨y, g1, g2, g3⟩ := HX.out; exact ⟨y, g1, g2, by omega⟩), qV, by omega, Below.kept (HB4w.out.trans (HI.out.1.mono HB4w.out.size)) kV (fun c hc => by omega) (Nat.le_refl _), HI.out.2.1, by have := kV.size; omega⟩
        rcases h with h | h | h
        · exact hnO (e ▸ h)
        · omega
        · omega
      · have hdg : decide (c ≤ x.ix) = false := decide_eq_false hge
        have HO : Hid (Kept (fun b => O b ∨ b < w.heap.size ∨ b = w4.heap.size + 1 + 1) W W ∧ PlI w4 c LL (i + 1) O W) := by
          refine ⟨Kept.refl _ _, HI.out.1, HI.out.2.1, fun y hy hy2 => ?_⟩
          rw [List.take_add_one, hx] at hy
          simp only [List.mem_append, Option.toList_some, List.mem_singleton] at hy
          rcases hy with hy | rfl
          · exact HI.out.2.2 y hy hy2
          · omega
        clear hk2 hge hx
        gi_wp2_with fail
        exact HO.out
    · have hkb : (x.k == 2) = false := by simpa using hk2
      have HO : Hid (Kept (fun b => O b ∨ b < w.heap.size ∨ b = w4.heap.size + 1 + 1) W W ∧ PlI w4 c LL (i + 1) O W) := by
        refine ⟨Kept.refl _ _, HI.out.1, HI.out.2.1, fun y hy hy2 => ?_⟩
        rw [List.take_add_one, hx] at hy
        simp only [List.mem_append, Option.toList_some, List.mem_singleton] at hy
        rcases hy with hy | rfl
        · exact HI.out.2.2 y hy hy2
        · exact absurd hy2 hk2
      clear hk2 hx
      gi_wp2_with fail
      exact HO.out
  case done =>
    rintro D O W hD hOD hO hI hK
    obtain ⟨hz3', hz4', hz0'⟩ := Hz.out
    have z4 := hI.1.size
    have hpls : (Fo.cons k ix nm a cap ks .nil).pls c := HPE.out.2 (fun x hx => by
      have h := hI.2.2 x
      rw [← HLn.out, List.take_length] at h
      exact h hx)
    have hpl := Fo.pl_of (by omega : c ≤ 1099511627776) _ 1 (show (Fo.cons k ix nm a cap ks .nil).good 1 from hT.1) hpls
    have kW : Kept (fun c => c < w4.heap.size) w4 W := Kept.of_below hI.1 (fun c _ h => h)
    have qs := (HQ1.out.below HB4.out).kept kW (by omega)
    have qr := (HQ4.out.below HB4.out (by omega)).below hI.1 (by omega)
    have cf : W.cell? ⟨w.heap.size + 1, 0, none⟩ = some (.int .i64 f) := (hI.1.cell (p := ⟨w.heap.size + 1, 0, none⟩) (by show w.heap.size + 1 < _; omega)).trans ((HB4.out.cell (p := ⟨w.heap.size + 1, 0, none⟩) (by show w.heap.size + 1 < _; omega)).trans HC2.out)
    have hBW : Below w.heap.size w W := HB4w.out.trans (hI.1.mono HB4w.out.size)
    have HL := leaves_any _ ks (Nat.lt_succ_self _) k ix nm f (w.heap.size + 1) w.heap.size W a cap (by omega) hsz (by omega) (by omega) cf hk hix hnm (hs.below hBW (fun _ x => x)) hpl
    unfold nodeV at HL
    have HL' := hide HL
    have hop : opnT c f (.cons k ix nm a cap ks .nil) = (Fo.cons k ix nm a cap ks .nil).wl f := if_pos hpls
    have HOP := hide hop
    have HBW := hide hBW
    have HQR := hide qr
    have HKD := hide hK
    have Hd := hide (And.intro hD (And.intro z4 (And.intro hz3' (And.intro hz4' hz0'))))
    obtain ⟨-, su, sp, s0, si, s1, s2, -, -, -, -, -, -⟩ := qs
    have hDl : D < W.heap.size := (Array.getElem?_eq_some_iff.1 hK).1
    have HDL := hide hDl
    clear hpls hpl kW hBW HL hop qr hI hz3' hz4' hz0' z4 cf hI0 hK hDl
    gi_wp2_with (refine ⟨trivial, ?_⟩; gi_at_call 68; refine (callsIn_wide.2 HL'.out).mono ?_; rintro e w6 ⟨v6, rfl, d, rfl, sd, okd, ndd, lvd, b6⟩; have q6 := HQR.out.below b6 (by have := HQR.out.lt; omega); have HX := hide (And.intro sd (And.intro okd (And.intro ndd (And.intro lvd b6)))); obtain ⟨-, y0, yi, y1, y2, u0, ui, u1, u2⟩ := q6; clear sd okd ndd lvd b6; unfold Nd.v nodeV)
    obtain ⟨sd, okd, ndd, lvd, b6⟩ := HX.out
    obtain ⟨hD', z4, hz3', hz4', hz0'⟩ := Hd.out
    have z6 := b6.size
    have hK6 := (b6.block D HDL.out).trans HKD.out
    obtain ⟨V, hV⟩ : ∃ V, ((((w6.setCell ⟨w.heap.size + 1 + 1, 0, none⟩ (.int .i64 d.k)).setCell ⟨w.heap.size + 1 + 1, 1, none⟩ (.int .i64 d.ix)).setCell ⟨w.heap.size + 1 + 1, 2, none⟩ (.string d.nm)).setCell ⟨w.heap.size + 1 + 1, 3, none⟩ (.slice d.a d.ks.len d.cap)) = V := ⟨_, rfl⟩
    have kV : Kept (fun c => c ≠ w.heap.size + 1 + 1) w6 V := by
      rw [← hV]
      exact (((Kept.setCell _ _ _ _ (by simp)).trans (Kept.setCell _ _ _ _ (by simp))).trans (Kept.setCell _ _ _ _ (by simp))).trans (Kept.setCell _ _ _ _ (by simp))
    have qV : Box4 V (w.heap.size + 1 + 1) (.int .i64 d.k) (.int .i64 d.ix) (.string d.nm) (.slice d.a d.ks.len d.cap) := by
      rw [← hV]
      exact box4_set (HQR.out.below b6 (by have := HQR.out.lt; omega)) _ _ _ _
    have hKV : V.heap[D]? = some (.deferred (some [])) := (kV.block D (Nat.lt_of_lt_of_le HDL.out z6) (by show D ≠ _; omega)).trans hK6
    have kP : Kept (fun c => c ≠ D) V (V.putObj D (.deferred none)) := Kept.putObj _ _ _ _ (by simp)
    have qP := qV.kept kP (by show w.heap.size + 1 + 1 ≠ D; omega)
    rw [hV]
    refine ⟨by simp, .inl ⟨_, _, rfl, run_takeDeferred hKV, ?_⟩⟩
    refine ⟨.agg #[.int .i64 d.k, .int .i64 d.ix, .string d.nm, .slice d.a d.ks.len d.cap], by simp [results, Try.results42, go_sem, qP.c0, qP.ci, qP.c1, qP.c2], d, rfl, by rw [HOP.out]; exact sd, ?_, ndd, ?_, ?_⟩
    · have kk : Kept (fun c => W.heap.size ≤ c) w6 (V.putObj D (.deferred none)) := (kV.mono (fun c _ h => by show c ≠ _; have : W.heap.size ≤ c := h; omega)).trans (kP.mono (fun c _ h => by show c ≠ _; have : W.heap.size ≤ c := h; have := HDL.out; omega))
      exact okd.keep (fun c h => ⟨by have := h.1; omega, Nat.lt_of_lt_of_le h.2 kk.size⟩) (fun p hp v hv => (kk.cell (p := p) hp.2 hp.1).trans hv)
    · have kk : Kept (fun c => W.heap.size ≤ c) w6 (V.putObj D (.deferred none)) := (kV.mono (fun c _ h => by show c ≠ _; have : W.heap.size ≤ c := h; omega)).trans (kP.mono (fun c _ h => by show c ≠ _; have : W.heap.size ≤ c := h; have := HDL.out; omega))
      exact lvd.kept kk (fun c hc => by have h := okd.sl.all_of c hc; exact ⟨h.1, h.2⟩)
    · exact Below.kept (Below.kept (HBW.out.trans (b6.mono (by omega))) kV (fun c hc => by omega) (Nat.le_refl _)) kP (fun c hc => by omega) (Nat.le_refl _)
  case stop =>
    rintro D cd i O W hD hOD hO hi ⟨rfl, hex, qr, hlt, hB, hOw, hzw⟩ hK
    have hop : opnT c f (.cons k ix nm a cap ks .nil) = zeroT := if_neg (fun h => by
      obtain ⟨x, h1, h2, h3⟩ := hex
      exact h3 (HPE.out.1 h x h1 h2))
    have HOP := hide hop
    obtain ⟨hz3', hz4', hz0'⟩ := Hz.out
    clear hop hex
    gi_wp2_with fail
    have kP : Kept (fun c => c ≠ D) W (W.putObj D (.deferred none)) := Kept.putObj _ _ _ _ (by simp)
    have qP := qr.kept kP (by show w.heap.size + 1 + 1 ≠ D; omega)
    refine ⟨by simp, .inl ⟨_, _, rfl, run_takeDeferred hK, ?_⟩⟩
    refine ⟨.agg #[.int .i64 0, .int .i64 0, .string ⟨#[]⟩, .slice none 0 0], by simp [results, Try.results42, go_sem, qP.c0, qP.ci, qP.c1, qP.c2], ?_⟩
    rw [HOP.out]
    exact OpP.zero (Below.kept hB kP (fun c hc => by omega) (Nat.le_refl _))

end Go.Proofs.Ytcnbnhoeobdbnaa
