import Derived.Test.YtanjgmmkodlffaaBb
import Derived.Test.YtanjgmmkodlffaaSe
import Derived.Deep.RegionHeld3
import Derived.Deep.RegionLaw
namespace Go.Proofs.Ytanjgmmkodlffaa.U
open Go.RowKit Go.Joins

def sMain : ByteArray := ⟨#[77, 97, 105, 110, 46, 109, 97, 105, 110]⟩
theorem sMain_list : sMain.toList = [77, 97, 105, 110, 46, 109, 97, 105, 110] := by simp [sMain, go_sem]
def sChar : ByteArray := ⟨#[67, 104, 97, 114]⟩

/-- Is one of these main, without preds and of a type? -/
noncomputable def hasM (want : Fo) : Fo → Bool
  | .v (.string nm) (.v _ (.s _ np _ _ (.v k (.v ix (.v tn (.s a n c K r)))))) => (decide (nm = sMain) && decide (np = 0) && sameU (.v k (.v ix (.v tn (.s a n c K .nil)))) want) || hasM want r
  | _ => false

theorem hasM_sim {want want' : Fo} (hw : want'.sim want) : ∀ (m : Nat) {F G : Fo} {n : Nat}, F.size ≤ m → Fit E F (rep (E 2) n) → G.sim F → hasM want' G = hasM want F := by
  intro m
  induction m with
  | zero =>
    intro F G n hm hf hs
    have : F = .nil := Fo.len_zero (by have := F.len_le; omega)
    subst this
    rw [Fo.sim_nil hs]
    rfl
  | succ m ih =>
    intro F G n hm hf hs
    cases n with
    | zero =>
      have e := fit_nil hf
      subst e
      rw [Fo.sim_nil hs]
      rfl
    | succ n =>
      replace hf : Fit E F ([.t, .i, .s 0, .i, .i, .t, .s 1] ++ rep (E 2) n) := hf
      obtain ⟨x0, F0, rfl, -, hf⟩ := fit_t hf
      obtain ⟨x1, F1, rfl, -, hf⟩ := fit_i hf
      obtain ⟨a2, n2, c2, k2, F2, rfl, -, hf⟩ := fit_s hf
      obtain ⟨x3, F3, rfl, -, hf⟩ := fit_i hf
      obtain ⟨x4, F4, rfl, -, hf⟩ := fit_i hf
      obtain ⟨x5, F5, rfl, -, hf⟩ := fit_t hf
      obtain ⟨a6, n6, c6, k6, F6, rfl, -, hf⟩ := fit_s hf
      obtain ⟨u0, rfl, s_1⟩ := Fo.sim_v hs
      obtain ⟨u1, rfl, s_2⟩ := Fo.sim_v s_1
      obtain ⟨d2, e2, t2, u2, rfl, r2, s_3⟩ := Fo.sim_s s_2
      obtain ⟨u3, rfl, s_4⟩ := Fo.sim_v s_3
      obtain ⟨u4, rfl, s_5⟩ := Fo.sim_v s_4
      obtain ⟨u5, rfl, s_6⟩ := Fo.sim_v s_5
      obtain ⟨d6, e6, t6, u6, rfl, r6, s_7⟩ := Fo.sim_s s_6
      have e1 : sameU (.v (.int .i64 x3) (.v (.int .i64 x4) (.v (.string x5) (.s d6 n6 e6 t6 .nil)))) want' = sameU (.v (.int .i64 x3) (.v (.int .i64 x4) (.v (.string x5) (.s a6 n6 c6 k6 .nil)))) want := by
        have h1 : (Fo.v (.int .i64 x3) (.v (.int .i64 x4) (.v (.string x5) (.s d6 n6 e6 t6 .nil)))).sim (.v (.int .i64 x3) (.v (.int .i64 x4) (.v (.string x5) (.s a6 n6 c6 k6 .nil)))) := ⟨rfl, rfl, rfl, rfl, r6, trivial⟩
        rw [Bool.eq_iff_iff, sameU_iff, sameU_iff]
        exact ⟨fun x => (h1.symm.trans x).trans hw, fun x => (h1.trans x).trans hw.symm⟩
      simp only [hasM]
      rw [e1, ih (by simp only [Fo.size] at hm; omega) hf s_7]

/-- What is wanted. -/
def textT : Fo := ty4 3 0 sList none 1 0 (ty4 3 0 sChar none 0 0 .nil)
def funT : Fo := ty4 3 0 sArrow none 2 0 (textT.app textT)

noncomputable def mainT (T : Fo) : Int := if hasM textT T = true then 1 else if hasM funT T = true then 2 else 0

noncomputable def mainK : Fo → Int
  | .v _ (.v _ (.s _ _ _ T _)) => mainT T
  | _ => 0

theorem mainK_sim {F G : Fo} (hf : Fit E F [.i, .t, .s 2, .s 3]) (hs : G.sim F) : mainK G = mainK F := by
  obtain ⟨x0, F0, rfl, -, hf⟩ := fit_i hf
  obtain ⟨x1, F1, rfl, -, hf⟩ := fit_t hf
  obtain ⟨a2, n2, c2, k2, F2, rfl, hk, hf⟩ := fit_s hf
  obtain ⟨u0, rfl, s_1⟩ := Fo.sim_v hs
  obtain ⟨u1, rfl, s_2⟩ := Fo.sim_v s_1
  obtain ⟨d2, e2, t2, u2, rfl, r2, s_3⟩ := Fo.sim_s s_2
  simp only [mainK, mainT]
  rw [hasM_sim (Fo.sim.refl textT) _ (Nat.le_refl _) hk r2, hasM_sim (Fo.sim.refl funT) _ (Nat.le_refl _) hk r2]

/-- A wanted type in memory. -/
structure Want (z : Nat) (V : World) (wa : Option Addr) (wn wc : Nat) (nm : ByteArray) (K : Fo) : Prop where
  fit : Fit E (ty4 3 0 nm wa wn wc K) (E 1)
  sub : (ty4 3 0 nm wa wn wc K).Subs V (fun c => z ≤ c ∧ c < V.heap.size)
  lv : Live V (ty4 3 0 nm wa wn wc K).inn

theorem Want.below {z : Nat} {A B : World} {wa : Option Addr} {wn wc : Nat} {nm : ByteArray} {K : Fo} (h : Want z A wa wn wc nm K) (k : Below A.heap.size A B) : Want z B wa wn wc nm K :=
  ⟨h.fit, (h.sub.below k (fun _ x => x.2)).mono (fun _ x => ⟨x.1, Nat.lt_of_lt_of_le x.2 k.size⟩), h.lv.below k (fun c hc => (h.sub.inn_of c hc).2)⟩

set_option maxHeartbeats 2000000 in
set_option maxRecDepth 100000 in
/-- Is it main? -/
theorem i_is (x0 : ByteArray) (x1 : Int) (p2 : Option Addr) (m2 e2 : Nat) (x3 x4 : Int) (x5 : ByteArray) (p6 : Option Addr) (m6 e6 : Nat) (K6 : Fo) (z pb : Nat) (wa : Option Addr) (wn wc : Nat) (wnm : ByteArray) (WK : Fo) (W : World)
    (hc : Bx W pb [.int .i64 3, .int .i64 0, .string wnm, .slice wa wn wc]) (hw : Want z W wa wn wc wnm WK) (hf : Fit E (ty4 x3 x4 x5 p6 m6 e6 K6) (E 1)) (hwt : (ty4 x3 x4 x5 p6 m6 e6 K6).wt ≤ 1048576) (ho : Own 0 W (ty4 x3 x4 x5 p6 m6 e6 K6)) (hz : ∀ c ∈ (ty4 x3 x4 x5 p6 m6 e6 K6).inn, c < z) :
    Calls Try.prog 54 #[.agg #[.string x0, .int .i64 x1, .slice p2 m2 e2, .int .i64 x3, .int .i64 x4, .string x5, .slice p6 m6 e6], .pointer (some ⟨pb, 0, none⟩)] W fun e W' => e = .returned (.bool (decide (x0 = sMain) && decide (m2 = 0) && sameU (ty4 x3 x4 x5 p6 m6 e6 K6) (ty4 3 0 wnm wa wn wc WK))) ∧ Below W.heap.size W W' := by
  obtain ⟨V, hV⟩ : ∃ V, W.alloc (.cells #[.string x0, .int .i64 x1, .slice p2 m2 e2, .int .i64 x3, .int .i64 x4, .string x5, .slice p6 m6 e6] 64) = V := ⟨_, rfl⟩
  have b0 : Below W.heap.size W V := by rw [← hV]; exact below_alloc1 _ _
  have HB := hide b0
  have HV := hide hV
  by_cases h1 : x0 = sMain
  · by_cases h2 : m2 = 0
    · have q := hc.below b0
      have d0 := q.cel 0 _ rfl
      have d1 := q.cel 1 _ rfl
      have d2 := q.cel 2 _ rfl
      have d3 := q.cel 3 _ rfl
      have qx : Bx V W.heap.size [.string x0, .int .i64 x1, .slice p2 m2 e2, .int .i64 x3, .int .i64 x4, .string x5, .slice p6 m6 e6] := by rw [← hV]; exact Bx.new _ _ _
      have y0 := qx.cel 0 _ rfl
      have y2 := qx.cel 2 _ rfl
      have y3 := qx.cel 3 _ rfl
      have y4 := qx.cel 4 _ rfl
      have y5 := qx.cel 5 _ rfl
      have y6 := qx.cel 6 _ rfl
      have hcal := i_SameType (z := z) (ty4 x3 x4 x5 p6 m6 e6 K6) (ty4 3 0 wnm wa wn wc WK) V hf (hw.below b0).fit hwt (ho.below b0) (hw.below b0).sub (hw.below b0).lv hz (fun c hc => ((hw.below b0).sub.inn_of c hc).1)
      replace hcal : Calls Try.prog 19 #[.agg #[.int .i64 x3, .int .i64 x4, .string x5, .slice p6 m6 e6], .agg #[.int .i64 3, .int .i64 0, .string wnm, .slice wa wn wc]] V _ := hcal
      have HC := hide hcal
      obtain ⟨qq, hqq⟩ : ∃ qq, qq = sameU (ty4 x3 x4 x5 p6 m6 e6 K6) (ty4 3 0 wnm wa wn wc WK) := ⟨_, rfl⟩
      rw [← hqq] at HC
      have e1 : (decide (x0 = sMain) && decide (m2 = 0) && sameU (ty4 x3 x4 x5 p6 m6 e6 K6) (ty4 3 0 wnm wa wn wc WK)) = qq := by rw [hqq]; simp [h1, h2]
      rw [e1]
      have h1' : x0 = ⟨#[77, 97, 105, 110, 46, 109, 97, 105, 110]⟩ := h1
      subst h1' h2
      clear h1 hcal hqq e1 q qx b0 hV hc hw hf hwt ho hz
      go_enter Try.func54, Try.ntmps54
      go_upto_region 1 with fail
      rw [HV.out]
      clear HV
      go_wp2_with fail
      refine HC.out.mono ?_
      rintro e w1 ⟨rfl, b1⟩
      have HB1 := hide (HB.out.trans (b1.mono HB.out.size))
      clear b1
      go_wp2_with fail
      go_ret
      exact ⟨rfl, HB1.out⟩
    · have e1 : (decide (x0 = sMain) && decide (m2 = 0) && sameU (ty4 x3 x4 x5 p6 m6 e6 K6) (ty4 3 0 wnm wa wn wc WK)) = false := by simp [h2]
      rw [e1]
      have h1' : x0 = ⟨#[77, 97, 105, 110, 46, 109, 97, 105, 110]⟩ := h1
      have h2' : ((m2 : Int) == 0) = false := beq_eq_false_iff_ne.2 (by omega)
      subst h1'
      clear h1 h2 e1 hc hw hf hwt ho hz b0 hV
      go_enter Try.func54, Try.ntmps54
      go_wp2_with fail
      go_ret
      exact ⟨rfl, by rw [HV.out]; exact HB.out⟩
  · have e1 : (decide (x0 = sMain) && decide (m2 = 0) && sameU (ty4 x3 x4 x5 p6 m6 e6 K6) (ty4 3 0 wnm wa wn wc WK)) = false := by simp [h1]
    rw [e1]
    have h1' : (x0.toList == [77, 97, 105, 110, 46, 109, 97, 105, 110]) = false := by
      have h := list_ne h1
      have e : sMain.toList = [77, 97, 105, 110, 46, 109, 97, 105, 110] := sMain_list
      rwa [e] at h
    clear h1 e1 hc hw hf hwt ho hz b0 hV
    go_enter Try.func54, Try.ntmps54
    go_wp2_with fail
    go_ret
    exact ⟨rfl, by rw [HV.out]; exact HB.out⟩

end Go.Proofs.Ytanjgmmkodlffaa.U
