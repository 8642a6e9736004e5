import Derived.Test.YtjlefdalobgdfaaTs
namespace Go.Proofs.Ytjlefdalobgdfaa
open Go.RowKit Go.Shelf Go.Joins

attribute [local go_sem] Oper.semAt_some

/-- What the walk for the size knows behind k types: all of them were sound. -/
def SzI (w : World) (LL : List El) (k : Nat) (O : Nat → Prop) (W : World) : Prop :=
  Hold w (w.heap.size + 1) (.int .i64 (k : Int)) O W ∧ Hold w (w.heap.size + 1 + 1) (.bool false) O W ∧ (k ≤ 20000 ∧ ∀ x, x ∈ LL.take k → x.ok)
def SzX (w : World) (LL : List El) (cd : Code) (_ : Nat) (O : Nat → Prop) (W : World) : Prop :=
  cd = .ret ∧ Hold w (w.heap.size + 1) (.int .i64 0) O W ∧ Hold w (w.heap.size + 1 + 1) (.bool false) O W ∧ ¬ (LL.length ≤ 20000 ∧ ∀ x, x ∈ LL → x.ok)
theorem SzI.abid (w : World) (LL : List El) : Abid (SzI w LL) := fun _ _ _ _ _ h hK hn => ⟨h.1.abid hK hn, h.2.1.abid hK hn, h.2.2⟩
theorem SzX.abid (w : World) (LL : List El) (cd : Code) : Abid (SzX w LL cd) := fun _ _ _ _ _ h hK hn => ⟨h.1, h.2.1.abid hK hn, h.2.2.1.abid hK hn, h.2.2.2⟩

set_option maxRecDepth 100000 in
set_option maxHeartbeats 4000000 in
theorem tsize_in (n : Nat) (hn : 4 ≤ n) (k ix : Int) (nm : ByteArray) (a : Option Addr) (cap : Nat) (ks : Fo) (w : World)
    (hk : (Lit.int .i64 k).wf = true) (hix : (Lit.int .i64 ix).wf = true) (hnm : nm.size ≤ maxLen) (hs : ks.Sl w (fun b => b < w.heap.size) a cap) (hsz : ks.size ≤ 1048576) :
    CallsIn Fence.wide n Try.prog 46 #[.agg #[.int .i64 k, .int .i64 ix, .string nm, .slice a ks.len cap]] w fun e W' => Below w.heap.size w W' ∧
      (TG k ix nm ks → e = .returned (.tuple #[.int .i64 ((1 + ks.size : Nat) : Int), .bool true])) ∧ (¬ TG k ix nm ks → e = .returned (.tuple #[.int .i64 0, .bool false])) := by
  have h1 : 1 ≤ n := by omega
  refine callsIn_of_wp_marks Try.func46 rfl trivial ?_ rfl
  simp only [Try.ntmps46, List.size_toArray, List.length_cons, List.length_nil, Nat.reduceAdd, Nat.reduceSub, Array.replicate_succ, Array.replicate_zero, List.push_toArray, List.append_toArray, List.nil_append, List.cons_append]
  gi_wp2_with (refine ⟨trivial, ?_⟩; gi_at_call 50; refine (typesOf_in Fence.wide (n - 1) trivial trivial rfl (by omega) _ _ _ _ _ _ _).mono ?_; rintro e w' ⟨rfl, rfl⟩)
  obtain ⟨LL, hLL⟩ : ∃ LL, LL = (Fo.cons k ix nm a cap ks .nil).els 1 := ⟨_, rfl⟩
  have hLn : LL.length = 1 + ks.size := by rw [hLL, Fo.els_length]; simp only [Fo.size]; omega
  have hTG : TG k ix nm ks ↔ (LL.length ≤ 20000 ∧ ∀ x, x ∈ LL → x.ok) := by
    rw [hLn, hLL, ← Fo.good_els]
    exact ⟨fun h => ⟨h.2, h.1⟩, fun h => ⟨h.2, h.1⟩⟩
  obtain ⟨A, hA⟩ : ∃ A, (w.alloc (.cells #[.int .i64 k, .int .i64 ix, .string nm, .slice a ks.len cap] 29)) = A := ⟨_, rfl⟩
  have zA : A.heap.size = w.heap.size + 1 := by rw [← hA]; simp
  have bA : Below w.heap.size w A := by rw [← hA]; exact below_alloc1 _ _
  obtain ⟨B, hB⟩ : ∃ B, (A.alloc (.cells #[.int .i64 0] 2)).alloc (.cells #[.bool false] 4) = B := ⟨_, rfl⟩
  have zB : B.heap.size = w.heap.size + 1 + 1 + 1 := by rw [← hB]; simp [zA]
  have bB : Below A.heap.size A B := by rw [← hB]; exact below_alloc2 _ _ _
  obtain ⟨W0, hW0⟩ : ∃ W0, ((B.alloc (.cells #[.int .i64 k, .int .i64 ix, .string nm, .slice a ks.len cap] 29)).alloc (.cells #[.int .i64 k, .int .i64 ix, .string nm, .slice a ks.len cap] 29)).alloc (.cells #[.func (.func 78) #[] #[]] 128) = W0 := ⟨_, rfl⟩
  have z0 : W0.heap.size = w.heap.size + 6 := by rw [← hW0]; simp [zB]
  have bC : Below B.heap.size B W0 := by rw [← hW0]; exact below_alloc3 _ _ _ _
  have hB0 : Below w.heap.size w W0 := (bA.trans (bB.mono (by omega))).trans (bC.mono (by omega))
  have q0 : Box4 W0 (w.heap.size + 1 + 1 + 1 + 1) (.int .i64 k) (.int .i64 ix) (.string nm) (.slice a ks.len cap) := by
    rw [← hW0]
    have := (Box4.new (B.alloc (.cells #[.int .i64 k, .int .i64 ix, .string nm, .slice a ks.len cap] 29)) (.int .i64 k) (.int .i64 ix) (.string nm) (.slice a ks.len cap) 29).alloc (.cells #[.func (.func 78) #[] #[]] 128)
    simpa [zB] using this
  have h1c : ∀ (A : World) (v : Value) (t : TypeId), (A.alloc (.cells #[v] t)).cell? ⟨A.heap.size, 0, none⟩ = some v ∧ (A.alloc (.cells #[v] t)).frozen? ⟨A.heap.size, 0, none⟩ = false := fun A v t => ⟨by simp, by simp⟩
  have hfb : W0.cell? ⟨w.heap.size + 1 + 1 + 1 + 1 + 1, 0, none⟩ = some (.func (.func 78) #[] #[]) := by
    have h2 := (h1c ((B.alloc (.cells #[.int .i64 k, .int .i64 ix, .string nm, .slice a ks.len cap] 29)).alloc (.cells #[.int .i64 k, .int .i64 ix, .string nm, .slice a ks.len cap] 29)) (.func (.func 78) #[] #[]) 128).1
    rw [hW0, World.size_alloc, World.size_alloc, zB] at h2
    exact h2
  have hr0 : Hold w (w.heap.size + 1 + 1) (.bool false) (fun _ => False) W0 := by
    have h2 := h1c (A.alloc (.cells #[.int .i64 0] 2)) (.bool false) 4
    rw [hB, World.size_alloc, zA] at h2
    exact ⟨(bC.cell (p := ⟨w.heap.size + 1 + 1, 0, none⟩) (by show w.heap.size + 1 + 1 < _; omega)).trans h2.1, (bC.frozen (p := ⟨w.heap.size + 1 + 1, 0, none⟩) (by show w.heap.size + 1 + 1 < _; omega)).trans h2.2, fun z => z, hB0, fun _ z => z.elim⟩
  have hc0 : Hold w (w.heap.size + 1) (.int .i64 0) (fun _ => False) W0 := by
    have h2 := h1c A (.int .i64 0) 2
    rw [zA] at h2
    have hcl := below_alloc1 (A.alloc (.cells #[.int .i64 0] 2)) (.cells #[.bool false] 4)
    rw [hB, World.size_alloc, zA] at hcl
    have hcl2 := hcl.trans (bC.mono (by omega))
    exact ⟨(hcl2.cell (p := ⟨w.heap.size + 1, 0, none⟩) (by simp)).trans h2.1, (hcl2.frozen (p := ⟨w.heap.size + 1, 0, none⟩) (by simp)).trans h2.2, fun z => z, hB0, fun _ z => z.elim⟩
  rw [hA, hB, hW0]
  clear hA hB hW0 h1c bA bB bC
  refine wpIn_range rfl h1 (gf := 84) (lb := #[.pointer (some ⟨w.heap.size + 1 + 1 + 1 + 1, 0, none⟩), .pointer (some ⟨w.heap.size + 1 + 1 + 1 + 1 + 1, 0, none⟩)]) rfl trivial (enters_of Try.func84 (by kernel_rfl) rfl)
    (nodes_seq Fence.wide (n - 1) trivial rfl (by omega) (w.heap.size + 1 + 1 + 1 + 1) w.heap.size k ix nm a cap ks W0 (w.heap.size + 1 + 1 + 1 + 1 + 1) trivial hfb (by omega) hk hix hnm q0 (hs.below hB0 (fun _ x => x)) hsz) (Below.refl _ _) (fun b hb => by omega) (fun _ => rfl)
    (SzI w LL) (SzX w LL) (SzI.abid _ _) (SzX.abid _ _) ⟨hc0, hr0, by omega, fun x hx => absurd hx (by simp)⟩
    (fun i O a' W => ∃ (x : El) (b : Nat), LL[i]? = some x ∧ Box4 W b (.int .i64 x.k) (.int .i64 x.ix) (.string x.nm) (.slice x.a x.len x.cap) ∧ ¬ O b ∧ w.heap.size + 1 + 1 < b ∧ a' = { tmps := #[.agg #[.int .i64 k, .int .i64 ix, .string nm, .slice a ks.len cap], .pointer (some ⟨w.heap.size, 0, none⟩), .pointer (some ⟨w.heap.size + 1, 0, none⟩), .pointer (some ⟨w.heap.size + 1 + 1, 0, none⟩),
      .int .i64 (x.d : Int), .pointer (some ⟨b, 0, none⟩), .agg #[.int .i64 k, .int .i64 ix, .string nm, .slice a ks.len cap],
      .func (.func 84) #[] #[.pointer (some ⟨w.heap.size + 1 + 1 + 1 + 1, 0, none⟩), .pointer (some ⟨w.heap.size + 1 + 1 + 1 + 1 + 1, 0, none⟩)], .int .i64 (x.d : Int), .agg #[.int .i64 x.k, .int .i64 x.ix, .string x.nm, .slice x.a x.len x.cap], undef, undef, undef, undef, undef, undef, undef, undef, undef, undef, undef, undef, undef, undef], defers := [] })
    ?assign ?body ?done ?stop
  case assign =>
    intro l i O W K hi hNB hI hK
    obtain ⟨x, hx⟩ : ∃ x, LL[i]? = some x := ⟨_, List.getElem?_eq_getElem (by omega)⟩
    have hv : ((Fo.cons k ix nm a cap ks .nil).pre 1).getD i (0, undef) = (x.d, .agg #[.int .i64 x.k, .int .i64 x.ix, .string x.nm, .slice x.a x.len x.cap]) := by
      rw [Fo.els_pre, ← hLL, List.getD_eq_getElem?_getD, List.getElem?_map, hx]
      rfl
    have hO : ¬ O W.heap.size := fun h => by have := (hNB _ h).lt; omega
    have hlt : w.heap.size + 1 + 1 < W.heap.size := by have := block_lt_of_cell hI.2.1.1; simpa using this
    have hq := Box4.new W (.int .i64 x.k) (.int .i64 x.ix) (.string x.nm) (.slice x.a x.len x.cap) 29
    have hI' := SzI.abid _ _ i O O _ _ hI (Kept.alloc (fun b => ¬ O b) W (.cells #[.int .i64 x.k, .int .i64 x.ix, .string x.nm, .slice x.a x.len x.cap] 29)) (fun b h => .inl h)
    have HK2 := hide (hK _ _ (Kept.alloc _ W (.cells #[.int .i64 x.k, .int .i64 x.ix, .string x.nm, .slice x.a x.len x.cap] 29)) hI' ⟨x, W.heap.size, hx, hq, hO, hlt, rfl⟩)
    clear hK hI hI' hq hlt hO hx
    simp only [encsOf]
    rw [hv]
    clear hv
    gi_wp2
    exact HK2.out
  case body =>
    rintro l i O a' W1 W hi ⟨x, b, hx, hbx, hOb, hwb, rfl⟩ hkp hNB ⟨hc, hr, ht1, ht2⟩ hO
    have hbW := hbx.kept hkp hOb
    have hxm : x ∈ LL := List.mem_of_getElem? hx
    have hc' := hc.set (.int .i64 ((i : Int) + 1)) (by omega)
    have hr' := hr.other (.int .i64 ((i : Int) + 1)) (d := w.heap.size + 1) (by omega) (by omega)
    have hno : ∀ v, ¬ (O v ∨ v < w.heap.size ∨ v = w.heap.size + 1 + 1 + 1 + 1 + 1) → v = w.heap.size + 1 ∨ v = w.heap.size + 1 + 1 → True := fun _ _ _ => trivial
    have n1 : ¬ (O (w.heap.size + 1) ∨ w.heap.size + 1 < w.heap.size ∨ w.heap.size + 1 = w.heap.size + 1 + 1 + 1 + 1 + 1) := by
      rintro (h | h | h)
      · exact hc.2.2.1 h
      · omega
      · omega
    have n2 : ¬ (O (w.heap.size + 1 + 1) ∨ w.heap.size + 1 + 1 < w.heap.size ∨ w.heap.size + 1 + 1 = w.heap.size + 1 + 1 + 1 + 1 + 1) := by
      rintro (h | h | h)
      · exact hr.2.2.1 h
      · omega
      · omega
    have hkp1 : ∀ v, Kept (fun b => O b ∨ b < w.heap.size ∨ b = w.heap.size + 1 + 1 + 1 + 1 + 1) W (W.setCell ⟨w.heap.size + 1, 0, none⟩ v) := fun v => Kept.setCell _ _ _ _ n1
    have hbb : Box4 (W.setCell ⟨w.heap.size + 1, 0, none⟩ (.int .i64 ((i : Int) + 1))) b (.int .i64 x.k) (.int .i64 x.ix) (.string x.nm) (.slice x.a x.len x.cap) :=
      hbW.kept (Kept.setCell (fun c => c ≠ w.heap.size + 1) _ _ _ (by simp)) (by omega)
    have hend : ∀ W3, Below (W.setCell ⟨w.heap.size + 1, 0, none⟩ (.int .i64 ((i : Int) + 1))).heap.size (W.setCell ⟨w.heap.size + 1, 0, none⟩ (.int .i64 ((i : Int) + 1))) W3 → ¬ (LL.length ≤ 20000 ∧ ∀ x, x ∈ LL → x.ok) →
        Kept (fun b => O b ∨ b < w.heap.size ∨ b = w.heap.size + 1 + 1 + 1 + 1 + 1) W ((W3.setCell ⟨w.heap.size + 1, 0, none⟩ (.int .i64 0)).setCell ⟨w.heap.size + 1 + 1, 0, none⟩ (.bool false)) ∧
        SzX w LL .ret i O ((W3.setCell ⟨w.heap.size + 1, 0, none⟩ (.int .i64 0)).setCell ⟨w.heap.size + 1 + 1, 0, none⟩ (.bool false)) := fun W3 b3 hL =>
      ⟨(((hkp1 _).trans (Kept.of_below b3 (fun b hb _ => hb))).trans (Kept.setCell _ _ _ _ n1)).trans (Kept.setCell _ _ _ _ n2), rfl,
        ((hc'.next b3).set (.int .i64 0) (by omega)).other _ (by omega) (by omega), ((hr'.next b3).other (.int .i64 0) (d := w.heap.size + 1) (by omega) (by omega)).set _ (by omega), hL⟩
    have hgo : ∀ W3, Below (W.setCell ⟨w.heap.size + 1, 0, none⟩ (.int .i64 ((i : Int) + 1))).heap.size (W.setCell ⟨w.heap.size + 1, 0, none⟩ (.int .i64 ((i : Int) + 1))) W3 → i + 1 ≤ 20000 → x.ok →
        Kept (fun b => O b ∨ b < w.heap.size ∨ b = w.heap.size + 1 + 1 + 1 + 1 + 1) W W3 ∧ SzI w LL (i + 1) O W3 := fun W3 b3 h1 h2 =>
      ⟨(hkp1 _).trans (Kept.of_below b3 (fun b hb _ => hb)), hc'.next b3, hr'.next b3, h1, fun y hy => by
        rw [List.take_add_one, hx] at hy
        simp only [List.mem_append, Option.toList_some, List.mem_singleton] at hy
        rcases hy with hy | rfl
        · exact ht2 y hy
        · exact h2⟩
    have HS := hide (sound_any x.k x.ix x.nm x.a x.len x.cap (W.setCell ⟨w.heap.size + 1, 0, none⟩ (.int .i64 ((i : Int) + 1))))
    have HE := hide hend
    have HG := hide hgo
    have HC := hide hc'
    have HR := hide hr'
    obtain ⟨c1, c2, -, -, -⟩ := hc
    obtain ⟨r1, r2, -, -, -⟩ := hr
    obtain ⟨-, e0, ei, e1, e2, -, -, -, -⟩ := id hbb
    have hTL : ¬ i + 1 ≤ 20000 → ¬ (LL.length ≤ 20000 ∧ ∀ x, x ∈ LL → x.ok) := fun h h2 => h (by omega)
    have HT := hide hTL
    have hXL : ¬ x.ok → ¬ (LL.length ≤ 20000 ∧ ∀ x, x ∈ LL → x.ok) := fun h h2 => h (h2.2 x hxm)
    have HX := hide hXL
    have hib : (i : Int) < 2000000 := by omega
    have hbelow : Below (W.setCell ⟨w.heap.size + 1, 0, none⟩ (.int .i64 ((i : Int) + 1))).heap.size (W.setCell ⟨w.heap.size + 1, 0, none⟩ (.int .i64 ((i : Int) + 1))) (W.setCell ⟨w.heap.size + 1, 0, none⟩ (.int .i64 ((i : Int) + 1))) := Below.refl _ _
    have HB := hide hbelow
    clear hend hgo hkp1 hbb hr' hc' hbx hbW hkp hNB hno n1 n2 hTL hXL hbelow hxm hx ht2 ht1 hTG hLL hLn hi q0 hfb hr0 hc0 hB0 hs
    by_cases h1 : i + 1 ≤ 20000
    · have h1' : ¬ (20000 : Int) < (i : Int) + 1 := by omega
      by_cases h2 : 200 < x.d
      · have h2' : decide ((200 : Int) < (x.d : Int)) = true := decide_eq_true (by omega)
        have HO := hide (HE.out _ HB.out (HX.out (fun h => by have := h.1; omega)))
        clear h1 h2 HE HG HT HX HB HS HC HR
        gi_wp2_with fail
        refine ⟨trivial, ?_⟩
        gi_wp2_with fail
        exact HO.out
      · have h2' : ¬ (200 : Int) < (x.d : Int) := by omega
        by_cases h3 : okT x.k x.ix x.nm x.len
        · have HS' : Hid (Calls Try.prog 76 #[.agg #[.int .i64 x.k, .int .i64 x.ix, .string x.nm, .slice x.a x.len x.cap]] (W.setCell ⟨w.heap.size + 1, 0, none⟩ (.int .i64 ((i : Int) + 1))) fun e w' => e = .returned (.bool true) ∧ Below (W.setCell ⟨w.heap.size + 1, 0, none⟩ (.int .i64 ((i : Int) + 1))).heap.size (W.setCell ⟨w.heap.size + 1, 0, none⟩ (.int .i64 ((i : Int) + 1))) w') :=
            HS.out.mono (fun e w' h => ⟨h.1 h3, h.2.2⟩)
          have HO : Hid (∀ W3, Below (W.setCell ⟨w.heap.size + 1, 0, none⟩ (.int .i64 ((i : Int) + 1))).heap.size (W.setCell ⟨w.heap.size + 1, 0, none⟩ (.int .i64 ((i : Int) + 1))) W3 → Kept (fun b => O b ∨ b < w.heap.size ∨ b = w.heap.size + 1 + 1 + 1 + 1 + 1) W W3 ∧ SzI w LL (i + 1) O W3) :=
            fun W3 b3 => HG.out W3 b3 h1 ⟨by omega, h3⟩
          clear h1 h2 h3 HE HG HT HX HB HS HC HR
          gi_wp2_with (refine ⟨trivial, fun h => (by cases h), ?_⟩; gi_at_call 76; refine (CallsIn.inRound l (callsIn_wide.2 HS'.out)).mono ?_; rintro e w3 ⟨rfl, b3⟩)
          exact HO.out _ b3
        · have HS' : Hid (Calls Try.prog 76 #[.agg #[.int .i64 x.k, .int .i64 x.ix, .string x.nm, .slice x.a x.len x.cap]] (W.setCell ⟨w.heap.size + 1, 0, none⟩ (.int .i64 ((i : Int) + 1))) fun e w' => e = .returned (.bool false) ∧ Below (W.setCell ⟨w.heap.size + 1, 0, none⟩ (.int .i64 ((i : Int) + 1))).heap.size (W.setCell ⟨w.heap.size + 1, 0, none⟩ (.int .i64 ((i : Int) + 1))) w') :=
            HS.out.mono (fun e w' h => ⟨h.2.1 h3, h.2.2⟩)
          have HO : Hid (∀ W3, Below (W.setCell ⟨w.heap.size + 1, 0, none⟩ (.int .i64 ((i : Int) + 1))).heap.size (W.setCell ⟨w.heap.size + 1, 0, none⟩ (.int .i64 ((i : Int) + 1))) W3 →
              (Kept (fun b => O b ∨ b < w.heap.size ∨ b = w.heap.size + 1 + 1 + 1 + 1 + 1) W ((W3.setCell ⟨w.heap.size + 1, 0, none⟩ (.int .i64 0)).setCell ⟨w.heap.size + 1 + 1, 0, none⟩ (.bool false)) ∧
              SzX w LL .ret i O ((W3.setCell ⟨w.heap.size + 1, 0, none⟩ (.int .i64 0)).setCell ⟨w.heap.size + 1 + 1, 0, none⟩ (.bool false))) ∧
              (W3.cell? ⟨w.heap.size + 1, 0, none⟩ = some (.int .i64 ((i : Int) + 1)) ∧ W3.frozen? ⟨w.heap.size + 1, 0, none⟩ = false ∧ W3.cell? ⟨w.heap.size + 1 + 1, 0, none⟩ = some (.bool false) ∧ W3.frozen? ⟨w.heap.size + 1 + 1, 0, none⟩ = false)) :=
            fun W3 b3 => ⟨HE.out W3 b3 (HX.out (fun h => h3 h.2)), (HC.out.next b3).1, (HC.out.next b3).2.1, (HR.out.next b3).1, (HR.out.next b3).2.1⟩
          clear h1 h2 h3 HE HG HT HX HB HS HC HR
          gi_wp2_with (refine ⟨trivial, fun h => (by cases h), ?_⟩; gi_at_call 76; refine (CallsIn.inRound l (callsIn_wide.2 HS'.out)).mono ?_; rintro e w3 ⟨rfl, b3⟩; obtain ⟨ho, y1, y2, y3, y4⟩ := HO.out w3 b3; have HO2 := hide ho; clear ho)
          exact HO2.out
    · have h1' : decide ((20000 : Int) < (i : Int) + 1) = true := decide_eq_true (by omega)
      have HO := hide (HE.out _ HB.out (HT.out h1))
      clear h1 HE HG HT HX HB HS HC HR
      gi_wp2_with fail
      refine ⟨trivial, ?_⟩
      gi_wp2_with fail
      exact HO.out
  case done =>
    rintro D O W hD hOD hO ⟨hc, hr, ht1, ht2⟩ hK
    rw [← hLn] at ht1 ht2 hc
    rw [List.take_length] at ht2
    have hgood : TG k ix nm ks := hTG.2 ⟨ht1, ht2⟩
    obtain ⟨c1, c2, c3, c4, c5⟩ := hc
    obtain ⟨r1, r2, r3, r4, r5⟩ := hr
    have HG := hide hgood
    have HLn := hide hLn
    clear hTG hgood ht1 ht2 hLL hLn
    have hDc : D ≠ w.heap.size + 1 := fun e => c3 (e ▸ hOD)
    have hDr : D ≠ w.heap.size + 1 + 1 := fun e => r3 (e ▸ hOD)
    gi_wp2_with fail
    have hK1 := (KeepsOthers.setCell W ⟨w.heap.size + 1, 0, none⟩ (.int .i64 (LL.length : Int))).same D _ hK rfl
    have hK2 := (KeepsOthers.setCell (W.setCell ⟨w.heap.size + 1, 0, none⟩ (.int .i64 (LL.length : Int))) ⟨w.heap.size + 1 + 1, 0, none⟩ (.bool true)).same D _ hK1 rfl
    refine ⟨by simp, .inl ⟨_, _, rfl, run_takeDeferred hK2, ?_⟩⟩
    have s1 : (W.setCell ⟨w.heap.size + 1, 0, none⟩ (.int .i64 (LL.length : Int))).cell? ⟨w.heap.size + 1, 0, none⟩ = some (.int .i64 (LL.length : Int)) := World.cell?_setCell_same' _ _ _ (by rw [c1]; rfl)
    have s2 : (W.setCell ⟨w.heap.size + 1, 0, none⟩ (.int .i64 (LL.length : Int))).cell? ⟨w.heap.size + 1 + 1, 0, none⟩ = some (.bool false) := (World.cell?_setCell_other _ _ _ _ (by simp)).trans r1
    have t1 : (((W.setCell ⟨w.heap.size + 1, 0, none⟩ (.int .i64 (LL.length : Int))).setCell ⟨w.heap.size + 1 + 1, 0, none⟩ (.bool true)).putObj D (.deferred none)).cell? ⟨w.heap.size + 1, 0, none⟩ = some (.int .i64 (LL.length : Int)) :=
      (World.cell?_of_block (World.putObj_heap_other (Ne.symm hDc))).trans ((World.cell?_setCell_other _ _ _ _ (by simp)).trans s1)
    have t2 : (((W.setCell ⟨w.heap.size + 1, 0, none⟩ (.int .i64 (LL.length : Int))).setCell ⟨w.heap.size + 1 + 1, 0, none⟩ (.bool true)).putObj D (.deferred none)).cell? ⟨w.heap.size + 1 + 1, 0, none⟩ = some (.bool true) :=
      (World.cell?_of_block (World.putObj_heap_other (Ne.symm hDr))).trans (World.cell?_setCell_same' _ _ _ (by rw [s2]; rfl))
    refine ⟨.tuple #[.int .i64 (LL.length : Int), .bool true], by simp [results, Try.results46, go_sem, t1, t2], ?_, fun _ => by rw [HLn.out], fun h => absurd HG.out h⟩
    exact ((c4.setCell (by show w.heap.size ≤ w.heap.size + 1; omega) _).setCell (by show w.heap.size ≤ w.heap.size + 1 + 1; omega) _).trans (belowK_b (w := w) (Nat.le_refl _) _ D _ _ (by omega) hK2 rfl rfl)
  case stop =>
    rintro D c i O W hD hOD hO hi ⟨rfl, ⟨c1, c2, c3, c4, c5⟩, ⟨r1, r2, r3, r4, r5⟩, ht⟩ hK
    have hDc : D ≠ w.heap.size + 1 := fun e => c3 (e ▸ hOD)
    have hDr : D ≠ w.heap.size + 1 + 1 := fun e => r3 (e ▸ hOD)
    gi_wp2_with fail
    refine ⟨by simp, .inl ⟨_, _, rfl, run_takeDeferred hK, ?_⟩⟩
    have t1 : (W.putObj D (.deferred none)).cell? ⟨w.heap.size + 1, 0, none⟩ = some (.int .i64 0) := (World.cell?_of_block (World.putObj_heap_other (Ne.symm hDc))).trans c1
    have t2 : (W.putObj D (.deferred none)).cell? ⟨w.heap.size + 1 + 1, 0, none⟩ = some (.bool false) := (World.cell?_of_block (World.putObj_heap_other (Ne.symm hDr))).trans r1
    refine ⟨.tuple #[.int .i64 0, .bool false], by simp [results, Try.results46, go_sem, t1, t2], ?_, fun h => absurd (hTG.1 h) ht, fun _ => rfl⟩
    exact c4.trans (belowK_b (w := w) (Nat.le_refl _) _ D _ _ (by omega) hK rfl rfl)

theorem tsize (k ix : Int) (nm : ByteArray) (a : Option Addr) (cap : Nat) (ks : Fo) (w : World)
    (hk : (Lit.int .i64 k).wf = true) (hix : (Lit.int .i64 ix).wf = true) (hnm : nm.size ≤ maxLen) (hs : ks.Sl w (fun b => b < w.heap.size) a cap) (hsz : ks.size ≤ 1048576) :
    Calls Try.prog 46 #[nodeV k ix nm a ks.len cap] w fun e W' => Below w.heap.size w W' ∧
      (TG k ix nm ks → e = .returned (.tuple #[.int .i64 ((1 + ks.size : Nat) : Int), .bool true])) ∧ (¬ TG k ix nm ks → e = .returned (.tuple #[.int .i64 0, .bool false])) :=
  callsIn_wide.1 (tsize_in 4 (Nat.le_refl _) k ix nm a cap ks w hk hix hnm hs hsz)

open Classical in
/-- Whether a type has a fault. -/
noncomputable def fltB (k ix : Int) (nm : ByteArray) (ks : Fo) : Bool := decide (¬ TG k ix nm ks)

theorem fltB_sim {k ix : Int} {nm : ByteArray} {F G : Fo} (h : F.sim G) : fltB k ix nm F = fltB k ix nm G := by
  unfold fltB
  have : TG k ix nm F ↔ TG k ix nm G := ⟨TG.sim h, TG.sim h.symm⟩
  rcases Classical.em (TG k ix nm F) with h1 | h1
  · simp [h1, this.1 h1]
  · simp [h1]
    exact fun h2 => h1 (this.2 h2)

set_option maxRecDepth 100000 in
set_option maxHeartbeats 1000000 in
/-- The program's TypeFault. -/
theorem ifault (k ix : Int) (nm : ByteArray) (a : Option Addr) (cap : Nat) (ks : Fo) (w : World)
    (hk : (Lit.int .i64 k).wf = true) (hix : (Lit.int .i64 ix).wf = true) (hnm : nm.size ≤ maxLen) (hs : ks.Sl w (fun b => b < w.heap.size) a cap) (hsz : ks.size ≤ 1048576) :
    Calls Try.prog 12 #[nodeV k ix nm a ks.len cap] w fun e W' => e = .returned (.bool (fltB k ix nm ks)) ∧ Below w.heap.size w W' := by
  have hb := below_alloc1 w (.cells #[.int .i64 k, .int .i64 ix, .string nm, .slice a ks.len cap] 29)
  have H := tsize k ix nm a cap ks (w.alloc (.cells #[.int .i64 k, .int .i64 ix, .string nm, .slice a ks.len cap] 29)) hk hix hnm ((hs.below hb (fun _ x => x)).mono (fun b x => by simp; omega)) hsz
  unfold nodeV at H ⊢
  by_cases hT : TG k ix nm ks
  · have hf : fltB k ix nm ks = false := by simp [fltB, hT]
    rw [hf]
    go_enter Try.func12, Try.ntmps12
    go_wp2_with fail
    refine H.mono ?_
    rintro e w1 ⟨b1, h1, -⟩
    cases h1 hT
    go_wp2_with fail
    go_ret
    exact ⟨rfl, hb.trans (b1.mono (by simp))⟩
  · have hf : fltB k ix nm ks = true := by simp [fltB, hT]
    rw [hf]
    go_enter Try.func12, Try.ntmps12
    go_wp2_with fail
    refine H.mono ?_
    rintro e w1 ⟨b1, -, h1⟩
    cases h1 hT
    go_wp2_with fail
    go_ret
    exact ⟨rfl, hb.trans (b1.mono (by simp))⟩

set_option maxRecDepth 100000 in
set_option maxHeartbeats 1000000 in
/-- The model's TypeFault. -/
theorem sfault (k ix : Int) (nm : ByteArray) (a : Option Addr) (cap : Nat) (ks : Fo) (w : World) (hs : ks.Sl w (fun b => b < w.heap.size) a cap) :
    Calls Try.prog 10 #[nodeV k ix nm a ks.len cap] w fun e W' => e = .returned (.bool (fltB k ix nm ks)) ∧ Below w.heap.size w W' := by
  have hb := below_alloc2 w (.cells #[.int .i64 k, .int .i64 ix, .string nm, .slice a ks.len cap] 29) (.cells #[.int .i64 20000] 2)
  have H := flt_node _ ks (Nat.lt_succ_self _) k ix nm 1 20000 w.heap.size (w.heap.size + 1) ((w.alloc (.cells #[.int .i64 k, .int .i64 ix, .string nm, .slice a ks.len cap] 29)).alloc (.cells #[.int .i64 20000] 2)) a cap (by omega) (by simp) (by omega) (by omega) (by omega) (hs.below hb (fun _ x => x))
    (by simp) (by simp)
  unfold nodeV at H ⊢
  have H' := hide H
  clear H
  go_enter Try.func10, Try.ntmps10
  go_wp2_with fail
  refine H'.out.mono ?_
  rintro e w1 ⟨k1, h1⟩
  have b1 : Below w.heap.size w w1 := hb.trans (k1.below (fun b hb => by show b ≠ _; omega) (by simp; omega))
  rcases h1 with ⟨rfl, g1, n1, -, -⟩ | ⟨rfl, g1⟩
  · have hf : fltB k ix nm ks = false := by
      have : TG k ix nm ks := ⟨g1, by omega⟩
      simp [fltB, this]
    go_wp2_with fail
    go_ret
    exact ⟨by rw [hf]; rfl, b1⟩
  · have hf : fltB k ix nm ks = true := by
      have : ¬ TG k ix nm ks := fun h => g1 ⟨h.1, by have := h.2; omega⟩
      simp [fltB, this]
    go_wp2_with fail
    go_ret
    exact ⟨by rw [hf]; rfl, b1⟩

end Go.Proofs.Ytjlefdalobgdfaa
