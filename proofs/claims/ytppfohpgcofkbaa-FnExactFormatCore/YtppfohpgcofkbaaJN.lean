import Derived.Test.YtppfohpgcofkbaaGc
import Derived.Deep.DeepCutAuto
namespace Go.Proofs.Ytppfohpgcofkbaa
open Go.RowKit Go.Joins

/-- What l13Format answers: the row with more bytes behind it. -/
def FmP (p : Prop) (nb : Nat) (W : World) (l' : List UInt8) (e : Ending) (W' : World) : Prop := ∃ v', e = .returned v' ∧ BR nb W' v' l' ∧ BK p nb W W'

theorem u32_bounds {x : Int} (h : (Lit.int .u32 x).wf = true) : 0 ≤ x ∧ x < 4294967296 := by
  have h2 : IntKind.u32.min ≤ x ∧ x ≤ IntKind.u32.max := by simpa [Lit.wf] using h
  have e1 : IntKind.u32.min = 0 := rfl
  have e2 : IntKind.u32.max = 4294967295 := rfl
  omega

theorem getD_at {i : Nat} (L : List Int) (h : i < L.length) : L.getD i 0 = L[i] := by
  rw [List.getD_eq_getElem?_getD, List.getElem?_eq_getElem h]
  rfl

theorem lim_of {W : World} {S : Nat → Prop} {a : Option Addr} {n c : Nat} {F : Fo} (hf : Fit E F (rep (E 0) n)) (h : Fo.Sub W S a n c F) : B.Lim W (.slice a n c) n (fun i => ((rdU F).getD i 0).toNat) := by
  obtain ⟨hr, hl⟩ := lr_of hf h
  have hu : ∀ (m : Nat) (G : Fo), Fit E G (rep (E 0) m) → ∀ x ∈ rdU G, 0 ≤ x ∧ x < 4294967296 := by
    intro m
    induction m with
    | zero => intro G hG x hx; rw [fit_nil hG] at hx; simp [rdU] at hx
    | succ m ih =>
      intro G hG x hx
      replace hG : Fit E G ([.u] ++ rep (E 0) m) := hG
      obtain ⟨y, r, rfl, hy, hq⟩ := fit_u hG
      simp only [rdU, List.mem_cons] at hx
      rcases hx with rfl | hx
      · exact u32_bounds hy
      · exact ih r hq x hx
  have hx := hu n F hf
  refine ⟨a, c, rfl, by rw [← hl]; exact hr.le, hr.mx, fun i hi => ?_, fun h0 => ?_⟩
  · have hi' : i < (rdU F).length := by omega
    have := hx _ (List.getElem_mem hi')
    show ((rdU F).getD i 0).toNat < _
    rw [getD_at _ hi']
    omega
  · obtain ⟨b, o, e, -, hc⟩ := hr.at_ (fun e => by rw [e] at hl; simp at hl; omega)
    refine ⟨b, o, e, fun i hi => ?_⟩
    have hi' : i < (rdU F).length := by omega
    have h1 := hx _ (List.getElem_mem hi')
    rw [hc i _ (List.getElem?_eq_getElem hi')]
    show _ = some (Value.int IntKind.u32 (((rdU F).getD i 0).toNat : Int))
    rw [getD_at _ hi']
    congr 2
    omega

set_option maxHeartbeats 2000000 in
set_option maxRecDepth 100000 in
theorem fm_1 (p : Prop) (nb : Nat) (nm : ByteArray) (mn : Bool) (la : Option Addr) (ln lc : Nat) (na : Option Addr) (nn nc : Nat) (ka : Option Addr) (kn kc : Nat) (aa : Option Addr) (an ac : Nat) (W : World) (v : Value) (l : List UInt8) (hp : p → 2 ≤ l.length) (hnb : nb ≤ W.heap.size) (hv : BR nb W v l) (hl : l.length + (bs nm).length ≤ 35184372088832) :
    Calls Try.prog 14 #[v, .agg #[.int .i64 1, .string nm, .bool mn, .slice la ln lc, .slice na nn nc, .slice ka kn kc, .slice aa an ac]] W (FmP p nb W (l ++ bs nm)) := by
  obtain ⟨V0, hV0⟩ : ∃ V, W.alloc (.cells #[.int .i64 1, .string nm, .bool mn, .slice la ln lc, .slice na nn nc, .slice ka kn kc, .slice aa an ac] 36) = V := ⟨_, rfl⟩
  have b0 : Below W.heap.size W V0 := by rw [← hV0]; exact below_alloc1 _ _
  have z0 : V0.heap.size = W.heap.size + 1 := by rw [← hV0]; simp
  have q0 : V0.heap[W.heap.size]? = some (.cells #[.int .i64 1, .string nm, .bool mn, .slice la ln lc, .slice na nn nc, .slice ka kn kc, .slice aa an ac] 36) := by rw [← hV0]; exact (MapKept.heap_alloc W _).1
  have HR := hide (hv.below b0)
  have HK := hide (BK.of (p := p) hnb b0)
  have HPP := hide hp
  have c0 := box_cell (i := 0) q0 rfl
  have c1 := box_cell (i := 1) q0 rfl
  have c2 := box_cell (i := 2) q0 rfl
  have c3 := box_cell (i := 3) q0 rfl
  have HNB : Hid (nb ≤ V0.heap.size) := by show _ ≤ _; omega
  have HV0 := hide hV0
  have HL : Hid (l.length + (bs nm).length ≤ 70368744177664) := by show _ ≤ _; omega
  clear hV0 b0 q0 hv hnb z0 hp hl
  go_enter Try.func14, Try.ntmps14
  go_upto_region 1 with fail
  rw [HV0.out]
  clear HV0
  go_wp2_with (at_builtin; refine str_step rfl _ _ rfl nb V0 v l nm rfl rfl HPP.out HNB.out HR.out HL.out ?_; intro v1 w1 h1 k1; have H1 := hide h1; have K1 := hide k1; clear h1 k1)
  go_ret
  exact ⟨_, rfl, H1.out, HK.out.trans K1.out⟩

set_option maxHeartbeats 2000000 in
set_option maxRecDepth 100000 in
theorem fm_2 (p : Prop) (nb : Nat) (nm : ByteArray) (mn : Bool) (la : Option Addr) (ln lc : Nat) (na : Option Addr) (nn nc : Nat) (ka : Option Addr) (kn kc : Nat) (aa : Option Addr) (an ac : Nat) (W : World) (v : Value) (l : List UInt8) (hp : p → 2 ≤ l.length) (hnb : nb ≤ W.heap.size) (hv : BR nb W v l) (lk : Fo) (h3 : Fit E lk (rep (E 0) ln)) (hs3 : lk.Sub W (fun c => c < nb) la ln lc) (hl : l.length + (num mn (rdU lk)).length ≤ 35184372088832) :
    Calls Try.prog 14 #[v, .agg #[.int .i64 2, .string nm, .bool mn, .slice la ln lc, .slice na nn nc, .slice ka kn kc, .slice aa an ac]] W (FmP p nb W (l ++ num mn (rdU lk))) := by
  obtain ⟨V0, hV0⟩ : ∃ V, W.alloc (.cells #[.int .i64 2, .string nm, .bool mn, .slice la ln lc, .slice na nn nc, .slice ka kn kc, .slice aa an ac] 36) = V := ⟨_, rfl⟩
  have b0 : Below W.heap.size W V0 := by rw [← hV0]; exact below_alloc1 _ _
  have z0 : V0.heap.size = W.heap.size + 1 := by rw [← hV0]; simp
  have q0 : V0.heap[W.heap.size]? = some (.cells #[.int .i64 2, .string nm, .bool mn, .slice la ln lc, .slice na nn nc, .slice ka kn kc, .slice aa an ac] 36) := by rw [← hV0]; exact (MapKept.heap_alloc W _).1
  have HR := hide (hv.below b0)
  have HK := hide (BK.of (p := p) hnb b0)
  have HPP := hide hp
  have c0 := box_cell (i := 0) q0 rfl
  have c1 := box_cell (i := 1) q0 rfl
  have c2 := box_cell (i := 2) q0 rfl
  have c3 := box_cell (i := 3) q0 rfl
  have HNB : Hid (nb ≤ V0.heap.size) := by show _ ≤ _; omega
  have HC := hide (B.sText_any mn (.slice la ln lc) ln _ V0 (lim_of h3 (Fo.Sub.below b0 (fun c hc => by omega) hs3)))
  have HV0 := hide hV0
  have HL : Hid (l.length + (num mn (rdU lk)).length ≤ 70368744177664) := by show _ ≤ _; omega
  obtain ⟨X, hX⟩ : ∃ X, num mn (rdU lk) = X := ⟨_, rfl⟩
  rw [hX] at HL ⊢
  have hl2 := (lr_of h3 hs3).2; unfold num at hX; rw [hl2] at hX; rw [hX] at HC; clear hl2
  clear hV0 b0 q0 hv hnb z0 hp hl hX
  go_enter Try.func14, Try.ntmps14
  go_upto_region 1 with fail
  rw [HV0.out]
  clear HV0
  go_wp2_with fail
  refine HC.out.mono ?_
  rintro e w1 ⟨rfl, b1⟩
  have HR1 := hide (HR.out.below b1)
  have HK1 : Hid (BK p nb W w1) := HK.out.trans (BK.of HNB.out b1)
  have HN1 : Hid (nb ≤ w1.heap.size) := Nat.le_trans HNB.out b1.size
  clear b1 c0 c1 c2 c3 HR HK
  go_wp2_with (at_builtin; refine str_step rfl _ _ rfl nb w1 v l ⟨X.toArray⟩ rfl rfl HPP.out HN1.out HR1.out HL.out ?_; intro v1 w2 h1 k1; have H1 := hide h1; have K1 := hide k1; clear h1 k1)
  go_ret
  exact ⟨_, rfl, H1.out, HK1.out.trans K1.out⟩

set_option maxHeartbeats 2000000 in
set_option maxRecDepth 100000 in
theorem fm_3 (p : Prop) (nb : Nat) (nm : ByteArray) (mn : Bool) (la : Option Addr) (ln lc : Nat) (na : Option Addr) (nn nc : Nat) (ka : Option Addr) (kn kc : Nat) (aa : Option Addr) (an ac : Nat) (W : World) (v : Value) (l : List UInt8) (hp : p → 2 ≤ l.length) (hnb : nb ≤ W.heap.size) (hv : BR nb W v l) (hsz : nm.size ≤ 1048576) (hl : l.length + (escT 39 nm).length ≤ 35184372088832) :
    Calls Try.prog 14 #[v, .agg #[.int .i64 3, .string nm, .bool mn, .slice la ln lc, .slice na nn nc, .slice ka kn kc, .slice aa an ac]] W (FmP p nb W (l ++ escT 39 nm)) := by
  obtain ⟨V0, hV0⟩ : ∃ V, W.alloc (.cells #[.int .i64 3, .string nm, .bool mn, .slice la ln lc, .slice na nn nc, .slice ka kn kc, .slice aa an ac] 36) = V := ⟨_, rfl⟩
  have b0 : Below W.heap.size W V0 := by rw [← hV0]; exact below_alloc1 _ _
  have z0 : V0.heap.size = W.heap.size + 1 := by rw [← hV0]; simp
  have q0 : V0.heap[W.heap.size]? = some (.cells #[.int .i64 3, .string nm, .bool mn, .slice la ln lc, .slice na nn nc, .slice ka kn kc, .slice aa an ac] 36) := by rw [← hV0]; exact (MapKept.heap_alloc W _).1
  have HR := hide (hv.below b0)
  have HK := hide (BK.of (p := p) hnb b0)
  have HPP := hide hp
  have c0 := box_cell (i := 0) q0 rfl
  have c1 := box_cell (i := 1) q0 rfl
  have c2 := box_cell (i := 2) q0 rfl
  have c3 := box_cell (i := 3) q0 rfl
  have HNB : Hid (nb ≤ V0.heap.size) := by show _ ≤ _; omega
  have HC := hide (mEscape nm 39 V0 hsz)
  have HV0 := hide hV0
  have HL : Hid (l.length + (escT 39 nm).length ≤ 70368744177664) := by show _ ≤ _; omega
  obtain ⟨X, hX⟩ : ∃ X, escT 39 nm = X := ⟨_, rfl⟩
  rw [hX] at HL ⊢
  rw [hX] at HC
  clear hV0 b0 q0 hv hnb z0 hp hl hX
  go_enter Try.func14, Try.ntmps14
  go_upto_region 1 with fail
  rw [HV0.out]
  clear HV0
  go_wp2_with fail
  refine HC.out.mono ?_
  rintro e w1 ⟨rfl, b1⟩
  have HR1 := hide (HR.out.below b1)
  have HK1 : Hid (BK p nb W w1) := HK.out.trans (BK.of HNB.out b1)
  have HN1 : Hid (nb ≤ w1.heap.size) := Nat.le_trans HNB.out b1.size
  clear b1 c0 c1 c2 c3 HR HK
  go_wp2_with (at_builtin; refine str_step rfl _ _ rfl nb w1 v l ⟨X.toArray⟩ rfl rfl HPP.out HN1.out HR1.out HL.out ?_; intro v1 w2 h1 k1; have H1 := hide h1; have K1 := hide k1; clear h1 k1)
  go_ret
  exact ⟨_, rfl, H1.out, HK1.out.trans K1.out⟩

set_option maxHeartbeats 2000000 in
set_option maxRecDepth 100000 in
theorem fm_10 (p : Prop) (nb : Nat) (nm : ByteArray) (mn : Bool) (la : Option Addr) (ln lc : Nat) (na : Option Addr) (nn nc : Nat) (ka : Option Addr) (kn kc : Nat) (aa : Option Addr) (an ac : Nat) (W : World) (v : Value) (l : List UInt8) (hp : p → 2 ≤ l.length) (hnb : nb ≤ W.heap.size) (hv : BR nb W v l) (hsz : nm.size ≤ 1048576) (hl : l.length + (escT 34 nm).length ≤ 35184372088832) :
    Calls Try.prog 14 #[v, .agg #[.int .i64 10, .string nm, .bool mn, .slice la ln lc, .slice na nn nc, .slice ka kn kc, .slice aa an ac]] W (FmP p nb W (l ++ escT 34 nm)) := by
  obtain ⟨V0, hV0⟩ : ∃ V, W.alloc (.cells #[.int .i64 10, .string nm, .bool mn, .slice la ln lc, .slice na nn nc, .slice ka kn kc, .slice aa an ac] 36) = V := ⟨_, rfl⟩
  have b0 : Below W.heap.size W V0 := by rw [← hV0]; exact below_alloc1 _ _
  have z0 : V0.heap.size = W.heap.size + 1 := by rw [← hV0]; simp
  have q0 : V0.heap[W.heap.size]? = some (.cells #[.int .i64 10, .string nm, .bool mn, .slice la ln lc, .slice na nn nc, .slice ka kn kc, .slice aa an ac] 36) := by rw [← hV0]; exact (MapKept.heap_alloc W _).1
  have HR := hide (hv.below b0)
  have HK := hide (BK.of (p := p) hnb b0)
  have HPP := hide hp
  have c0 := box_cell (i := 0) q0 rfl
  have c1 := box_cell (i := 1) q0 rfl
  have c2 := box_cell (i := 2) q0 rfl
  have c3 := box_cell (i := 3) q0 rfl
  have HNB : Hid (nb ≤ V0.heap.size) := by show _ ≤ _; omega
  have HC := hide (mEscape nm 34 V0 hsz)
  have HV0 := hide hV0
  have HL : Hid (l.length + (escT 34 nm).length ≤ 70368744177664) := by show _ ≤ _; omega
  obtain ⟨X, hX⟩ : ∃ X, escT 34 nm = X := ⟨_, rfl⟩
  rw [hX] at HL ⊢
  rw [hX] at HC
  clear hV0 b0 q0 hv hnb z0 hp hl hX
  go_enter Try.func14, Try.ntmps14
  go_upto_region 1 with fail
  rw [HV0.out]
  clear HV0
  go_wp2_with fail
  refine HC.out.mono ?_
  rintro e w1 ⟨rfl, b1⟩
  have HR1 := hide (HR.out.below b1)
  have HK1 : Hid (BK p nb W w1) := HK.out.trans (BK.of HNB.out b1)
  have HN1 : Hid (nb ≤ w1.heap.size) := Nat.le_trans HNB.out b1.size
  clear b1 c0 c1 c2 c3 HR HK
  go_wp2_with (at_builtin; refine str_step rfl _ _ rfl nb w1 v l ⟨X.toArray⟩ rfl rfl HPP.out HN1.out HR1.out HL.out ?_; intro v1 w2 h1 k1; have H1 := hide h1; have K1 := hide k1; clear h1 k1)
  go_ret
  exact ⟨_, rfl, H1.out, HK1.out.trans K1.out⟩

end Go.Proofs.Ytppfohpgcofkbaa

namespace Go.Proofs.Ytppfohpgcofkbaa
open Go.RowKit Go.Joins

/-- l13Format of terms of at most m cells. -/
def FmC (nb m : Nat) : Prop := ∀ (p : Prop) (F : Fo) (W : World) (v : Value) (l : List UInt8), (p → 2 ≤ l.length) → F.size ≤ m → Fit E F (E 3) → (rdK F).good → F.wt ≤ 1048576 → F.Subs W (fun c => c < nb) → nb ≤ W.heap.size → BR nb W v l → l.length + (fx F).length ≤ 35184372088832 → Calls Try.prog 14 #[v, .agg F.vals.toArray] W (FmP p nb W (l ++ fx F))

theorem Rd.bk {p : Prop} {fs : List Fld} {n nb i : Nat} {a : Option Addr} {r : Fo} {A B : World} (h : Rd E fs n nb a i r A) (k : BK p nb A B) (hnb : nb ≤ A.heap.size) : Rd E fs n nb a i r B :=
  h.kept (S := fun c => c < nb) (Kept.of_below k.1 (fun _ _ hc => hc)) hnb (fun _ hc => hc)

theorem sub_bk {p : Prop} {A B : World} {nb : Nat} {F : Fo} (h : F.Subs A (fun c => c < nb)) (k : BK p nb A B) : F.Subs B (fun c => c < nb) := h.below k.1 (fun _ hc => hc)

/-- What is left of the kids, in a row with blanks. -/
def rest5 (b : Bool) (L : List (List UInt8)) : List UInt8 := if b = true then sepB [32] L else L.flatMap (fun t => [32] ++ t)

set_option maxHeartbeats 4000000 in
set_option maxRecDepth 100000 in
theorem fm_4 (p : Prop) (nb m : Nat) (ih : FmC nb m) (nm : ByteArray) (mn : Bool) (la : Option Addr) (ln lc : Nat) (na : Option Addr) (nn nc : Nat) (ka : Option Addr) (kn kc : Nat) (aa : Option Addr) (an ac : Nat) (kk : Fo) (W : World) (v : Value) (l : List UInt8) (hp : p → 2 ≤ l.length) (hnb : nb ≤ W.heap.size) (hv : BR nb W v l) (h5 : Fit E kk (rep (E 3) kn)) (hs5 : kk.Sub W (fun c => c < nb) ka kn kc) (hgd : (rdK kk).good) (hsz : kk.size ≤ m ∧ kk.wt ≤ 1048576) (hkx : kn ≤ 16777216) (hk0 : 0 < kn) (hl : l.length + ([40] ++ bs nm ++ (KT kk).flatMap (fun t => [32] ++ t) ++ [41]).length ≤ 35184372088832) :
    Calls Try.prog 14 #[v, .agg #[.int .i64 4, .string nm, .bool mn, .slice la ln lc, .slice na nn nc, .slice ka kn kc, .slice aa an ac]] W (FmP p nb W (l ++ ([40] ++ bs nm ++ (KT kk).flatMap (fun t => [32] ++ t) ++ [41]))) := by
  obtain ⟨V0, hV0⟩ : ∃ V, W.alloc (.cells #[.int .i64 4, .string nm, .bool mn, .slice la ln lc, .slice na nn nc, .slice ka kn kc, .slice aa an ac] 36) = V := ⟨_, rfl⟩
  have b0 : Below W.heap.size W V0 := by rw [← hV0]; exact below_alloc1 _ _
  have z0 : V0.heap.size = W.heap.size + 1 := by rw [← hV0]; simp
  have q0 : V0.heap[W.heap.size]? = some (.cells #[.int .i64 4, .string nm, .bool mn, .slice la ln lc, .slice na nn nc, .slice ka kn kc, .slice aa an ac] 36) := by rw [← hV0]; exact (MapKept.heap_alloc W _).1
  have HR := hide (hv.below b0)
  have HK := hide (BK.of (p := p) hnb b0)
  have HPP := hide hp
  have HQ : Hid (∀ V, BK p nb V0 V → V.cell? ⟨W.heap.size, 0, none⟩ = some (.int .i64 4) ∧ V.cell? ⟨W.heap.size, 1, none⟩ = some (.string nm) ∧ V.cell? ⟨W.heap.size, 5, none⟩ = some (.slice ka kn kc)) := fun V h => by
    have q := h.box (by decide) q0
    exact ⟨box_cell (i := 0) q rfl, box_cell (i := 1) q rfl, box_cell (i := 5) q rfl⟩
  have HNB : Hid (nb ≤ V0.heap.size) := by show _ ≤ _; omega
  have HRD := hide ((Rd.start h5 hs5).below b0 hnb)
  have HGD := hide hgd
  have HIH := hide ih
  have HSZ := hide hsz
  have HL := hide hl
  obtain ⟨X, hX⟩ : ∃ X, ([40] ++ bs nm ++ (KT kk).flatMap (fun t => [32] ++ t) ++ [41]) = X := ⟨_, rfl⟩
  rw [hX]
  have HX0 := hide hX
  have hkn : (kn == 0) = false := by rw [beq_eq_false_iff_ne]; omega
  have hkn2 : ((kn : Int) == 0) = false := by rw [beq_eq_false_iff_ne]; omega
  obtain ⟨c0, c1, c5⟩ := HQ.out V0 (BK.refl _ _ _)
  have d1 : BK p nb V0 V0.drew := BK.of HNB.out ((Below.refl _ _).drew)
  have d2 : BK p nb V0 (V0.alloc (.cells #[.int .u8 40] 5)).drew := BK.of HNB.out ((below_alloc1 _ _).drew)
  have kk0 := (HQ.out _ d1).2.1
  have kk1 := (HQ.out _ d2).2.1
  have HR2 : Hid (BR nb (V0.alloc (.cells #[.int .u8 40] 5)).drew v l) := HR.out.below ((below_alloc1 _ _).drew)
  have HB2 : Hid ((V0.alloc (.cells #[.int .u8 40] 5)).drew.heap[V0.heap.size]? = some (.cells #[.int .u8 40] 5)) := (MapKept.heap_alloc V0 _).1
  have HN2 : Hid (nb ≤ (V0.alloc (.cells #[.int .u8 40] 5)).drew.heap.size) := Nat.le_trans HNB.out d2.size
  have HD2 := hide d2
  have HL1 : Hid (l.length + 1 ≤ 70368744177664 ∧ (l ++ [40]).length + (bs nm).length ≤ 70368744177664) := by
    have h := HL.out
    simp only [List.length_append, List.length_cons, List.length_nil] at h
    refine ⟨by omega, ?_⟩
    simp only [List.length_append, List.length_cons, List.length_nil]
    omega
  have HV0 := hide hV0
  clear hV0 b0 q0 hv hnb z0 hl hX hp h5 hs5 hgd ih hsz d1 d2
  go_enter Try.func14, Try.ntmps14
  go_upto_region 1 with fail
  rw [HV0.out]
  clear HV0
  go_upto_region 15 with fail
  clear c0 c1 c5
  go_region_held3 (fun V => V.cell? ⟨W.heap.size, 1, none⟩ = some (.string nm))
    (first | with_reducible exact kk0 | with_reducible exact kk1 | with_reducible exact kk2 | with_reducible exact kk3)
    (first
      | (refine one_draw (by rfl) _ _ (by rfl) nb _ v l [40] 1 rfl _ rfl V0.heap.size (by rfl) (by rfl) HPP.out HN2.out HR2.out HB2.out HL1.out.1 ?_; intro v1 w1 h1 k1; have HR3 := hide h1; have HK3 : Hid (BK p nb V0 w1) := HD2.out.trans k1; have kk2 := (HQ.out w1 HK3.out).2.1; have HN3 : Hid (nb ≤ w1.heap.size) := Nat.le_trans HN2.out k1.size; clear h1 k1)
      | (refine str_draw (by rfl) _ _ (by rfl) nb w1 v1 (l ++ [40]) nm (by rfl) (by rfl) (fun h => by have := HPP.out h; rw [List.length_append]; omega) HN3.out HR3.out HL1.out.2 ?_; intro v2 w2 h2 k2; have HR4 := hide h2; have HK4 : Hid (BK p nb V0 w2) := HK3.out.trans k2; have kk3 := (HQ.out w2 HK4.out).2.1; have HN4 : Hid (nb ≤ w2.heap.size) := Nat.le_trans HN3.out k2.size; clear h2 k2)
      | fail)
  all_goals
    have HRD2 := hide (HRD.out.bk HK4.out HNB.out)
    clear kk0 kk1 kk2 kk3 HR HR2 HR3 HK3 HN3 HB2 HD2 HN2
    go_wp2_with fail
    go_loopw [0, 5] (fun s0 s5 wr => ∃ (i : Nat) (r : Fo) (vi : Value) (li : List UInt8), s0 = vi ∧ s5 = .int .i64 i ∧ i ≤ kn ∧ Hid (Rd E (E 3) kn nb ka i r wr) ∧ Hid (li ++ (KT r).flatMap (fun t => [32] ++ t) = l ++ [40] ++ bs nm ++ (KT kk).flatMap (fun t => [32] ++ t) ∧ (rdK r).good ∧ (r.size ≤ m ∧ r.wt ≤ 1048576) ∧ l.length ≤ li.length) ∧ Hid (BR nb wr vi li) ∧ Hid (BK p nb V0 wr)) (fun _ s5 _ => kn - (intOf s5).toNat)
    case atStart => exact ⟨0, kk, v2, l ++ [40] ++ bs nm, rfl, rfl, Nat.zero_le _, HRD2, ⟨by rfl, HGD.out, HSZ.out, by simp only [List.length_append]; omega⟩, HR4, HK4⟩
    case round =>
      obtain ⟨i, r, vi, li, rfl, rfl, hin, hRd, hinv, hBR, hBK⟩ := hrel
      obtain ⟨c0, c1, c5⟩ := HQ.out wr hBK.out
      have hNw : Hid (nb ≤ wr.heap.size) := Nat.le_trans HNB.out hBK.out.size
      by_cases hi : i < kn
      · obtain ⟨x, q, b, o, rfl, hx, rfl, hb', hc, hxs, hR1⟩ := hRd.out.next hi (by decide)
        have hii : (i : Int) < kn := by omega
        obtain ⟨g1, g2, ⟨g3, g4⟩, g5⟩ := hinv.out
        rw [KT_app hx] at g1
        rw [goodK_app hx] at g2
        rw [Fo.app_size] at g3
        rw [Fo.app_wt] at g4
        have HXC : Hid (∀ V, BK p nb wr V → Cel V x.vals b (o + i * 7)) := fun V k => hc.below k.1 hb'
        have HX := hide hx
        have HXS := hide hxs
        have HG : Hid ((rdK x).good ∧ (rdK q).good ∧ x.size + q.size ≤ m ∧ x.wt + q.wt ≤ 1048576) := ⟨g2.1, g2.2, g3, g4⟩
        have HR1 := hide hR1
        have HPi : Hid ((p → 2 ≤ li.length) ∧ l.length ≤ li.length) := ⟨fun h => Nat.le_trans (HPP.out h) g5, g5⟩

        have HT : Hid ((l ++ [40] ++ bs nm ++ (KT kk).flatMap (fun t => [32] ++ t)).length ≤ 35184372088832) := by
          have h := HL.out
          simp only [List.length_append, List.length_cons, List.length_nil] at h
          show _ ≤ _
          simp only [List.length_append, List.length_cons, List.length_nil]
          omega
        obtain ⟨xk, xnm, xmn, xla, xln, xlc, xlk, xna, xnn, xnc, xnk, xka, xkn, xkc, xkk, xaa, xan, xac, xak, hxe, -⟩ := core_open hx
        have HVX : Hid (x.vals.toArray = #[.int .i64 xk, .string xnm, .bool xmn, .slice xla xln xlc, .slice xna xnn xnc, .slice xka xkn xkc, .slice xaa xan xac]) := by rw [hxe]; rfl
        have HP : Hid (∀ V, BK p nb wr V → V.cell? ⟨b, o + i * 7, none⟩ = some (.int .i64 xk) ∧ V.cell? ⟨b, o + i * 7 + 1, none⟩ = some (.string xnm) ∧ V.cell? ⟨b, o + i * 7 + 2, none⟩ = some (.bool xmn) ∧ V.cell? ⟨b, o + i * 7 + 3, none⟩ = some (.slice xla xln xlc) ∧ V.cell? ⟨b, o + i * 7 + 4, none⟩ = some (.slice xna xnn xnc) ∧ V.cell? ⟨b, o + i * 7 + 5, none⟩ = some (.slice xka xkn xkc) ∧ V.cell? ⟨b, o + i * 7 + 6, none⟩ = some (.slice xaa xan xac)) := fun V k => by
          have h := HXC.out V k
          rw [hxe] at h
          exact ⟨h 0 _ rfl, h 1 _ rfl, h 2 _ rfl, h 3 _ rfl, h 4 _ rfl, h 5 _ rfl, h 6 _ rfl⟩
        -- the kid behind what stands there
        have HC : Hid (∀ V u lu, BK p nb wr V → BR nb V u lu → (p → 2 ≤ lu.length) → lu.length + (fx x).length ≤ 35184372088832 → Calls Try.prog 14 #[u, .agg #[.int .i64 xk, .string xnm, .bool xmn, .slice xla xln xlc, .slice xna xnn xnc, .slice xka xkn xkc, .slice xaa xan xac]] V (FmP p nb V (lu ++ fx x))) := fun V u lu k hu hpu hlu => by
          rw [← HVX.out]
          exact HIH.out p x V u lu hpu (by have := HG.out; omega) HX.out HG.out.1 (by have := HG.out; omega) (sub_bk HXS.out k) (Nat.le_trans hNw.out k.size) hu hlu
        by_cases hi0 : i = 0
        · have hd : ¬ (0 : Int) < i := by omega
          have hd2 : ¬ 0 < i := by omega
          have HE : Hid ((li ++ [32] ++ fx x) ++ (KT q).flatMap (fun t => [32] ++ t) = l ++ [40] ++ bs nm ++ (KT kk).flatMap (fun t => [32] ++ t)) := by
            show _ = _
            rw [← g1]
            simp
          have HLN : Hid (li.length + 1 ≤ 70368744177664 ∧ (li ++ [32]).length + (fx x).length ≤ 35184372088832) := by
            have h1 := congrArg List.length HE.out
            have h2 := HT.out
            rw [← h1] at h2
            simp only [List.length_append, List.length_cons, List.length_nil] at h2
            refine ⟨by omega, ?_⟩
            simp only [List.length_append, List.length_cons, List.length_nil]
            omega
          clear hRd hinv g1 g2 g3 g4 g5 hc hxs hx hR1 hxe hi0
          go_wp2_with (at_builtin; refine one_step rfl _ _ rfl nb _ _ li [32] 1 rfl _ rfl wr.heap.size rfl rfl HPi.out.1 (Nat.le_trans hNw.out (by simp)) (hBR.out.below (below_alloc1 _ _)) (MapKept.heap_alloc wr _).1 HLN.out.1 ?_; intro v6 w6 h6 k6; have HB6 := hide h6; have HK6 : Hid (BK p nb wr w6) := (BK.of hNw.out (below_alloc1 wr _)).trans k6; clear h6 k6 c0 c1 c5; obtain ⟨c0, c1, c5⟩ := HQ.out w6 (hBK.out.trans HK6.out); obtain ⟨p0, p1, p2, p3, p4, p5, p6⟩ := HP.out w6 HK6.out)
          refine (HC.out w6 v6 (li ++ [32]) HK6.out HB6.out (fun h => by have := HPi.out.1 h; rw [List.length_append]; omega) HLN.out.2).mono ?_
          rintro e w7 ⟨v7, rfl, h7, k7⟩
          have HB7 := hide h7
          have HK7 : Hid (BK p nb wr w7) := HK6.out.trans k7
          have HRn := hide (HR1.out.bk HK7.out hNw.out)
          have HKn : Hid (BK p nb V0 w7) := hBK.out.trans HK7.out
          clear h7 k7 p0 p1 p2 p3 p4 p5 p6 c0 c1 c5
          go_wp2_with fail
          go_roundw
          case rel => exact ⟨i + 1, q, v7, _, rfl, by go_num, by omega, HRn, ⟨HE.out, HG.out.2.1, ⟨by have := HG.out; omega, by have := HG.out; omega⟩, by have := HPi.out.2; simp only [List.length_append]; omega⟩, HB7, HKn⟩
          case measure => simp [intOf]; omega
        · have hd : (0 : Int) < i := by omega
          have hd2 : 0 < i := by omega
          have HE : Hid ((li ++ [32] ++ fx x) ++ (KT q).flatMap (fun t => [32] ++ t) = l ++ [40] ++ bs nm ++ (KT kk).flatMap (fun t => [32] ++ t)) := by
            show _ = _
            rw [← g1]
            simp
          have HLN : Hid (li.length + 1 ≤ 70368744177664 ∧ (li ++ [32]).length + (fx x).length ≤ 35184372088832) := by
            have h1 := congrArg List.length HE.out
            have h2 := HT.out
            rw [← h1] at h2
            simp only [List.length_append, List.length_cons, List.length_nil] at h2
            refine ⟨by omega, ?_⟩
            simp only [List.length_append, List.length_cons, List.length_nil]
            omega
          clear hRd hinv g1 g2 g3 g4 g5 hc hxs hx hR1 hxe hi0
          go_wp2_with (at_builtin; refine one_step rfl _ _ rfl nb _ _ li [32] 1 rfl _ rfl wr.heap.size rfl rfl HPi.out.1 (Nat.le_trans hNw.out (by simp)) (hBR.out.below (below_alloc1 _ _)) (MapKept.heap_alloc wr _).1 HLN.out.1 ?_; intro v6 w6 h6 k6; have HB6 := hide h6; have HK6 : Hid (BK p nb wr w6) := (BK.of hNw.out (below_alloc1 wr _)).trans k6; clear h6 k6 c0 c1 c5; obtain ⟨c0, c1, c5⟩ := HQ.out w6 (hBK.out.trans HK6.out); obtain ⟨p0, p1, p2, p3, p4, p5, p6⟩ := HP.out w6 HK6.out)
          refine (HC.out w6 v6 (li ++ [32]) HK6.out HB6.out (fun h => by have := HPi.out.1 h; rw [List.length_append]; omega) HLN.out.2).mono ?_
          rintro e w7 ⟨v7, rfl, h7, k7⟩
          have HB7 := hide h7
          have HK7 : Hid (BK p nb wr w7) := HK6.out.trans k7
          have HRn := hide (HR1.out.bk HK7.out hNw.out)
          have HKn : Hid (BK p nb V0 w7) := hBK.out.trans HK7.out
          clear h7 k7 p0 p1 p2 p3 p4 p5 p6 c0 c1 c5
          go_wp2_with fail
          go_roundw
          case rel => exact ⟨i + 1, q, v7, _, rfl, by go_num, by omega, HRn, ⟨HE.out, HG.out.2.1, ⟨by have := HG.out; omega, by have := HG.out; omega⟩, by have := HPi.out.2; simp only [List.length_append]; omega⟩, HB7, HKn⟩
          case measure => simp [intOf]; omega
      · obtain ⟨rfl, rfl⟩ := hRd.out.done hi
        have hii : ¬ (i : Int) < i := by omega
        obtain ⟨g1, -, -, g5⟩ := hinv.out
        have HPi : Hid (p → 2 ≤ li.length) := fun h => Nat.le_trans (HPP.out h) g5
        have HE : Hid (li ++ [41] = l ++ X) := by
          rw [KT_nil] at g1
          skip
          rw [List.flatMap_nil, List.append_nil] at g1
          show _ = _
          rw [g1, ← HX0.out]
          simp
        have HLN : Hid (li.length + 1 ≤ 70368744177664) := by
          have h1 := congrArg List.length HE.out
          have h2 := HL.out
          rw [HX0.out] at h2
          simp only [List.length_append, List.length_cons, List.length_nil] at h1 h2
          show _ ≤ _
          omega
        clear hRd hinv g1 g5
        go_wp2_with (at_builtin; refine one_step rfl _ _ rfl nb _ _ li [41] 1 rfl _ rfl wr.heap.size rfl rfl HPi.out (Nat.le_trans hNw.out (by simp)) (hBR.out.below (below_alloc1 _ _)) (MapKept.heap_alloc wr _).1 HLN.out ?_; intro v6 w6 h6 k6; have HB6 := hide h6; have HK6 : Hid (BK p nb wr w6) := (BK.of hNw.out (below_alloc1 wr _)).trans k6; clear h6 k6)
        go_ret
        exact ⟨_, rfl, by rw [← HE.out]; exact HB6.out, (HK.out.trans hBK.out).trans HK6.out⟩

set_option maxHeartbeats 4000000 in
set_option maxRecDepth 100000 in
theorem fm_9 (p : Prop) (nb m : Nat) (ih : FmC nb m) (nm : ByteArray) (mn : Bool) (la : Option Addr) (ln lc : Nat) (na : Option Addr) (nn nc : Nat) (ka : Option Addr) (kn kc : Nat) (aa : Option Addr) (an ac : Nat) (kk : Fo) (W : World) (v : Value) (l : List UInt8) (hp : p → 2 ≤ l.length) (hnb : nb ≤ W.heap.size) (hv : BR nb W v l) (h5 : Fit E kk (rep (E 3) kn)) (hs5 : kk.Sub W (fun c => c < nb) ka kn kc) (hgd : (rdK kk).good) (hsz : kk.size ≤ m ∧ kk.wt ≤ 1048576) (hkx : kn ≤ 16777216) (hk0 : 0 < kn) (hl : l.length + ([40] ++ bs nm ++ (KT kk).flatMap (fun t => [32] ++ t) ++ [41]).length ≤ 35184372088832) :
    Calls Try.prog 14 #[v, .agg #[.int .i64 9, .string nm, .bool mn, .slice la ln lc, .slice na nn nc, .slice ka kn kc, .slice aa an ac]] W (FmP p nb W (l ++ ([40] ++ bs nm ++ (KT kk).flatMap (fun t => [32] ++ t) ++ [41]))) := by
  obtain ⟨V0, hV0⟩ : ∃ V, W.alloc (.cells #[.int .i64 9, .string nm, .bool mn, .slice la ln lc, .slice na nn nc, .slice ka kn kc, .slice aa an ac] 36) = V := ⟨_, rfl⟩
  have b0 : Below W.heap.size W V0 := by rw [← hV0]; exact below_alloc1 _ _
  have z0 : V0.heap.size = W.heap.size + 1 := by rw [← hV0]; simp
  have q0 : V0.heap[W.heap.size]? = some (.cells #[.int .i64 9, .string nm, .bool mn, .slice la ln lc, .slice na nn nc, .slice ka kn kc, .slice aa an ac] 36) := by rw [← hV0]; exact (MapKept.heap_alloc W _).1
  have HR := hide (hv.below b0)
  have HK := hide (BK.of (p := p) hnb b0)
  have HPP := hide hp
  have HQ : Hid (∀ V, BK p nb V0 V → V.cell? ⟨W.heap.size, 0, none⟩ = some (.int .i64 9) ∧ V.cell? ⟨W.heap.size, 1, none⟩ = some (.string nm) ∧ V.cell? ⟨W.heap.size, 5, none⟩ = some (.slice ka kn kc)) := fun V h => by
    have q := h.box (by decide) q0
    exact ⟨box_cell (i := 0) q rfl, box_cell (i := 1) q rfl, box_cell (i := 5) q rfl⟩
  have HNB : Hid (nb ≤ V0.heap.size) := by show _ ≤ _; omega
  have HRD := hide ((Rd.start h5 hs5).below b0 hnb)
  have HGD := hide hgd
  have HIH := hide ih
  have HSZ := hide hsz
  have HL := hide hl
  obtain ⟨X, hX⟩ : ∃ X, ([40] ++ bs nm ++ (KT kk).flatMap (fun t => [32] ++ t) ++ [41]) = X := ⟨_, rfl⟩
  rw [hX]
  have HX0 := hide hX
  have hkn : (kn == 0) = false := by rw [beq_eq_false_iff_ne]; omega
  have hkn2 : ((kn : Int) == 0) = false := by rw [beq_eq_false_iff_ne]; omega
  obtain ⟨c0, c1, c5⟩ := HQ.out V0 (BK.refl _ _ _)
  have d1 : BK p nb V0 V0.drew := BK.of HNB.out ((Below.refl _ _).drew)
  have d2 : BK p nb V0 (V0.alloc (.cells #[.int .u8 40] 5)).drew := BK.of HNB.out ((below_alloc1 _ _).drew)
  have kk0 := (HQ.out _ d1).2.1
  have kk1 := (HQ.out _ d2).2.1
  have HR2 : Hid (BR nb (V0.alloc (.cells #[.int .u8 40] 5)).drew v l) := HR.out.below ((below_alloc1 _ _).drew)
  have HB2 : Hid ((V0.alloc (.cells #[.int .u8 40] 5)).drew.heap[V0.heap.size]? = some (.cells #[.int .u8 40] 5)) := (MapKept.heap_alloc V0 _).1
  have HN2 : Hid (nb ≤ (V0.alloc (.cells #[.int .u8 40] 5)).drew.heap.size) := Nat.le_trans HNB.out d2.size
  have HD2 := hide d2
  have HL1 : Hid (l.length + 1 ≤ 70368744177664 ∧ (l ++ [40]).length + (bs nm).length ≤ 70368744177664) := by
    have h := HL.out
    simp only [List.length_append, List.length_cons, List.length_nil] at h
    refine ⟨by omega, ?_⟩
    simp only [List.length_append, List.length_cons, List.length_nil]
    omega
  have HV0 := hide hV0
  clear hV0 b0 q0 hv hnb z0 hl hX hp h5 hs5 hgd ih hsz d1 d2
  go_enter Try.func14, Try.ntmps14
  go_upto_region 1 with fail
  rw [HV0.out]
  clear HV0
  go_upto_region 15 with fail
  clear c0 c1 c5
  go_region_held3 (fun V => V.cell? ⟨W.heap.size, 1, none⟩ = some (.string nm))
    (first | with_reducible exact kk0 | with_reducible exact kk1 | with_reducible exact kk2 | with_reducible exact kk3)
    (first
      | (refine one_draw (by rfl) _ _ (by rfl) nb _ v l [40] 1 rfl _ rfl V0.heap.size (by rfl) (by rfl) HPP.out HN2.out HR2.out HB2.out HL1.out.1 ?_; intro v1 w1 h1 k1; have HR3 := hide h1; have HK3 : Hid (BK p nb V0 w1) := HD2.out.trans k1; have kk2 := (HQ.out w1 HK3.out).2.1; have HN3 : Hid (nb ≤ w1.heap.size) := Nat.le_trans HN2.out k1.size; clear h1 k1)
      | (refine str_draw (by rfl) _ _ (by rfl) nb w1 v1 (l ++ [40]) nm (by rfl) (by rfl) (fun h => by have := HPP.out h; rw [List.length_append]; omega) HN3.out HR3.out HL1.out.2 ?_; intro v2 w2 h2 k2; have HR4 := hide h2; have HK4 : Hid (BK p nb V0 w2) := HK3.out.trans k2; have kk3 := (HQ.out w2 HK4.out).2.1; have HN4 : Hid (nb ≤ w2.heap.size) := Nat.le_trans HN3.out k2.size; clear h2 k2)
      | fail)
  all_goals
    have HRD2 := hide (HRD.out.bk HK4.out HNB.out)
    clear kk0 kk1 kk2 kk3 HR HR2 HR3 HK3 HN3 HB2 HD2 HN2
    go_wp2_with fail
    go_loopw [0, 5] (fun s0 s5 wr => ∃ (i : Nat) (r : Fo) (vi : Value) (li : List UInt8), s0 = vi ∧ s5 = .int .i64 i ∧ i ≤ kn ∧ Hid (Rd E (E 3) kn nb ka i r wr) ∧ Hid (li ++ (KT r).flatMap (fun t => [32] ++ t) = l ++ [40] ++ bs nm ++ (KT kk).flatMap (fun t => [32] ++ t) ∧ (rdK r).good ∧ (r.size ≤ m ∧ r.wt ≤ 1048576) ∧ l.length ≤ li.length) ∧ Hid (BR nb wr vi li) ∧ Hid (BK p nb V0 wr)) (fun _ s5 _ => kn - (intOf s5).toNat)
    case atStart => exact ⟨0, kk, v2, l ++ [40] ++ bs nm, rfl, rfl, Nat.zero_le _, HRD2, ⟨by rfl, HGD.out, HSZ.out, by simp only [List.length_append]; omega⟩, HR4, HK4⟩
    case round =>
      obtain ⟨i, r, vi, li, rfl, rfl, hin, hRd, hinv, hBR, hBK⟩ := hrel
      obtain ⟨c0, c1, c5⟩ := HQ.out wr hBK.out
      have hNw : Hid (nb ≤ wr.heap.size) := Nat.le_trans HNB.out hBK.out.size
      by_cases hi : i < kn
      · obtain ⟨x, q, b, o, rfl, hx, rfl, hb', hc, hxs, hR1⟩ := hRd.out.next hi (by decide)
        have hii : (i : Int) < kn := by omega
        obtain ⟨g1, g2, ⟨g3, g4⟩, g5⟩ := hinv.out
        rw [KT_app hx] at g1
        rw [goodK_app hx] at g2
        rw [Fo.app_size] at g3
        rw [Fo.app_wt] at g4
        have HXC : Hid (∀ V, BK p nb wr V → Cel V x.vals b (o + i * 7)) := fun V k => hc.below k.1 hb'
        have HX := hide hx
        have HXS := hide hxs
        have HG : Hid ((rdK x).good ∧ (rdK q).good ∧ x.size + q.size ≤ m ∧ x.wt + q.wt ≤ 1048576) := ⟨g2.1, g2.2, g3, g4⟩
        have HR1 := hide hR1
        have HPi : Hid ((p → 2 ≤ li.length) ∧ l.length ≤ li.length) := ⟨fun h => Nat.le_trans (HPP.out h) g5, g5⟩

        have HT : Hid ((l ++ [40] ++ bs nm ++ (KT kk).flatMap (fun t => [32] ++ t)).length ≤ 35184372088832) := by
          have h := HL.out
          simp only [List.length_append, List.length_cons, List.length_nil] at h
          show _ ≤ _
          simp only [List.length_append, List.length_cons, List.length_nil]
          omega
        obtain ⟨xk, xnm, xmn, xla, xln, xlc, xlk, xna, xnn, xnc, xnk, xka, xkn, xkc, xkk, xaa, xan, xac, xak, hxe, -⟩ := core_open hx
        have HVX : Hid (x.vals.toArray = #[.int .i64 xk, .string xnm, .bool xmn, .slice xla xln xlc, .slice xna xnn xnc, .slice xka xkn xkc, .slice xaa xan xac]) := by rw [hxe]; rfl
        have HP : Hid (∀ V, BK p nb wr V → V.cell? ⟨b, o + i * 7, none⟩ = some (.int .i64 xk) ∧ V.cell? ⟨b, o + i * 7 + 1, none⟩ = some (.string xnm) ∧ V.cell? ⟨b, o + i * 7 + 2, none⟩ = some (.bool xmn) ∧ V.cell? ⟨b, o + i * 7 + 3, none⟩ = some (.slice xla xln xlc) ∧ V.cell? ⟨b, o + i * 7 + 4, none⟩ = some (.slice xna xnn xnc) ∧ V.cell? ⟨b, o + i * 7 + 5, none⟩ = some (.slice xka xkn xkc) ∧ V.cell? ⟨b, o + i * 7 + 6, none⟩ = some (.slice xaa xan xac)) := fun V k => by
          have h := HXC.out V k
          rw [hxe] at h
          exact ⟨h 0 _ rfl, h 1 _ rfl, h 2 _ rfl, h 3 _ rfl, h 4 _ rfl, h 5 _ rfl, h 6 _ rfl⟩
        -- the kid behind what stands there
        have HC : Hid (∀ V u lu, BK p nb wr V → BR nb V u lu → (p → 2 ≤ lu.length) → lu.length + (fx x).length ≤ 35184372088832 → Calls Try.prog 14 #[u, .agg #[.int .i64 xk, .string xnm, .bool xmn, .slice xla xln xlc, .slice xna xnn xnc, .slice xka xkn xkc, .slice xaa xan xac]] V (FmP p nb V (lu ++ fx x))) := fun V u lu k hu hpu hlu => by
          rw [← HVX.out]
          exact HIH.out p x V u lu hpu (by have := HG.out; omega) HX.out HG.out.1 (by have := HG.out; omega) (sub_bk HXS.out k) (Nat.le_trans hNw.out k.size) hu hlu
        by_cases hi0 : i = 0
        · have hd : ¬ (0 : Int) < i := by omega
          have hd2 : ¬ 0 < i := by omega
          have HE : Hid ((li ++ [32] ++ fx x) ++ (KT q).flatMap (fun t => [32] ++ t) = l ++ [40] ++ bs nm ++ (KT kk).flatMap (fun t => [32] ++ t)) := by
            show _ = _
            rw [← g1]
            simp
          have HLN : Hid (li.length + 1 ≤ 70368744177664 ∧ (li ++ [32]).length + (fx x).length ≤ 35184372088832) := by
            have h1 := congrArg List.length HE.out
            have h2 := HT.out
            rw [← h1] at h2
            simp only [List.length_append, List.length_cons, List.length_nil] at h2
            refine ⟨by omega, ?_⟩
            simp only [List.length_append, List.length_cons, List.length_nil]
            omega
          clear hRd hinv g1 g2 g3 g4 g5 hc hxs hx hR1 hxe hi0
          go_wp2_with (at_builtin; refine one_step rfl _ _ rfl nb _ _ li [32] 1 rfl _ rfl wr.heap.size rfl rfl HPi.out.1 (Nat.le_trans hNw.out (by simp)) (hBR.out.below (below_alloc1 _ _)) (MapKept.heap_alloc wr _).1 HLN.out.1 ?_; intro v6 w6 h6 k6; have HB6 := hide h6; have HK6 : Hid (BK p nb wr w6) := (BK.of hNw.out (below_alloc1 wr _)).trans k6; clear h6 k6 c0 c1 c5; obtain ⟨c0, c1, c5⟩ := HQ.out w6 (hBK.out.trans HK6.out); obtain ⟨p0, p1, p2, p3, p4, p5, p6⟩ := HP.out w6 HK6.out)
          refine (HC.out w6 v6 (li ++ [32]) HK6.out HB6.out (fun h => by have := HPi.out.1 h; rw [List.length_append]; omega) HLN.out.2).mono ?_
          rintro e w7 ⟨v7, rfl, h7, k7⟩
          have HB7 := hide h7
          have HK7 : Hid (BK p nb wr w7) := HK6.out.trans k7
          have HRn := hide (HR1.out.bk HK7.out hNw.out)
          have HKn : Hid (BK p nb V0 w7) := hBK.out.trans HK7.out
          clear h7 k7 p0 p1 p2 p3 p4 p5 p6 c0 c1 c5
          go_wp2_with fail
          go_roundw
          case rel => exact ⟨i + 1, q, v7, _, rfl, by go_num, by omega, HRn, ⟨HE.out, HG.out.2.1, ⟨by have := HG.out; omega, by have := HG.out; omega⟩, by have := HPi.out.2; simp only [List.length_append]; omega⟩, HB7, HKn⟩
          case measure => simp [intOf]; omega
        · have hd : (0 : Int) < i := by omega
          have hd2 : 0 < i := by omega
          have HE : Hid ((li ++ [32] ++ fx x) ++ (KT q).flatMap (fun t => [32] ++ t) = l ++ [40] ++ bs nm ++ (KT kk).flatMap (fun t => [32] ++ t)) := by
            show _ = _
            rw [← g1]
            simp
          have HLN : Hid (li.length + 1 ≤ 70368744177664 ∧ (li ++ [32]).length + (fx x).length ≤ 35184372088832) := by
            have h1 := congrArg List.length HE.out
            have h2 := HT.out
            rw [← h1] at h2
            simp only [List.length_append, List.length_cons, List.length_nil] at h2
            refine ⟨by omega, ?_⟩
            simp only [List.length_append, List.length_cons, List.length_nil]
            omega
          clear hRd hinv g1 g2 g3 g4 g5 hc hxs hx hR1 hxe hi0
          go_wp2_with (at_builtin; refine one_step rfl _ _ rfl nb _ _ li [32] 1 rfl _ rfl wr.heap.size rfl rfl HPi.out.1 (Nat.le_trans hNw.out (by simp)) (hBR.out.below (below_alloc1 _ _)) (MapKept.heap_alloc wr _).1 HLN.out.1 ?_; intro v6 w6 h6 k6; have HB6 := hide h6; have HK6 : Hid (BK p nb wr w6) := (BK.of hNw.out (below_alloc1 wr _)).trans k6; clear h6 k6 c0 c1 c5; obtain ⟨c0, c1, c5⟩ := HQ.out w6 (hBK.out.trans HK6.out); obtain ⟨p0, p1, p2, p3, p4, p5, p6⟩ := HP.out w6 HK6.out)
          refine (HC.out w6 v6 (li ++ [32]) HK6.out HB6.out (fun h => by have := HPi.out.1 h; rw [List.length_append]; omega) HLN.out.2).mono ?_
          rintro e w7 ⟨v7, rfl, h7, k7⟩
          have HB7 := hide h7
          have HK7 : Hid (BK p nb wr w7) := HK6.out.trans k7
          have HRn := hide (HR1.out.bk HK7.out hNw.out)
          have HKn : Hid (BK p nb V0 w7) := hBK.out.trans HK7.out
          clear h7 k7 p0 p1 p2 p3 p4 p5 p6 c0 c1 c5
          go_wp2_with fail
          go_roundw
          case rel => exact ⟨i + 1, q, v7, _, rfl, by go_num, by omega, HRn, ⟨HE.out, HG.out.2.1, ⟨by have := HG.out; omega, by have := HG.out; omega⟩, by have := HPi.out.2; simp only [List.length_append]; omega⟩, HB7, HKn⟩
          case measure => simp [intOf]; omega
      · obtain ⟨rfl, rfl⟩ := hRd.out.done hi
        have hii : ¬ (i : Int) < i := by omega
        obtain ⟨g1, -, -, g5⟩ := hinv.out
        have HPi : Hid (p → 2 ≤ li.length) := fun h => Nat.le_trans (HPP.out h) g5
        have HE : Hid (li ++ [41] = l ++ X) := by
          rw [KT_nil] at g1
          skip
          rw [List.flatMap_nil, List.append_nil] at g1
          show _ = _
          rw [g1, ← HX0.out]
          simp
        have HLN : Hid (li.length + 1 ≤ 70368744177664) := by
          have h1 := congrArg List.length HE.out
          have h2 := HL.out
          rw [HX0.out] at h2
          simp only [List.length_append, List.length_cons, List.length_nil] at h1 h2
          show _ ≤ _
          omega
        clear hRd hinv g1 g5
        go_wp2_with (at_builtin; refine one_step rfl _ _ rfl nb _ _ li [41] 1 rfl _ rfl wr.heap.size rfl rfl HPi.out (Nat.le_trans hNw.out (by simp)) (hBR.out.below (below_alloc1 _ _)) (MapKept.heap_alloc wr _).1 HLN.out ?_; intro v6 w6 h6 k6; have HB6 := hide h6; have HK6 : Hid (BK p nb wr w6) := (BK.of hNw.out (below_alloc1 wr _)).trans k6; clear h6 k6)
        go_ret
        exact ⟨_, rfl, by rw [← HE.out]; exact HB6.out, (HK.out.trans hBK.out).trans HK6.out⟩

set_option maxHeartbeats 4000000 in
set_option maxRecDepth 100000 in
theorem fm_5 (p : Prop) (nb m : Nat) (ih : FmC nb m) (nm : ByteArray) (mn : Bool) (la : Option Addr) (ln lc : Nat) (na : Option Addr) (nn nc : Nat) (ka : Option Addr) (kn kc : Nat) (aa : Option Addr) (an ac : Nat) (kk : Fo) (W : World) (v : Value) (l : List UInt8) (hp : p → 2 ≤ l.length) (hnb : nb ≤ W.heap.size) (hv : BR nb W v l) (h5 : Fit E kk (rep (E 3) kn)) (hs5 : kk.Sub W (fun c => c < nb) ka kn kc) (hgd : (rdK kk).good) (hsz : kk.size ≤ m ∧ kk.wt ≤ 1048576) (hkx : kn ≤ 16777216) (hk0 : 0 < kn) (hl : l.length + ([40] ++ bs nm ++ sepB [32] (KT kk) ++ [41]).length ≤ 35184372088832) :
    Calls Try.prog 14 #[v, .agg #[.int .i64 5, .string nm, .bool mn, .slice la ln lc, .slice na nn nc, .slice ka kn kc, .slice aa an ac]] W (FmP p nb W (l ++ ([40] ++ bs nm ++ sepB [32] (KT kk) ++ [41]))) := by
  obtain ⟨V0, hV0⟩ : ∃ V, W.alloc (.cells #[.int .i64 5, .string nm, .bool mn, .slice la ln lc, .slice na nn nc, .slice ka kn kc, .slice aa an ac] 36) = V := ⟨_, rfl⟩
  have b0 : Below W.heap.size W V0 := by rw [← hV0]; exact below_alloc1 _ _
  have z0 : V0.heap.size = W.heap.size + 1 := by rw [← hV0]; simp
  have q0 : V0.heap[W.heap.size]? = some (.cells #[.int .i64 5, .string nm, .bool mn, .slice la ln lc, .slice na nn nc, .slice ka kn kc, .slice aa an ac] 36) := by rw [← hV0]; exact (MapKept.heap_alloc W _).1
  have HR := hide (hv.below b0)
  have HK := hide (BK.of (p := p) hnb b0)
  have HPP := hide hp
  have HQ : Hid (∀ V, BK p nb V0 V → V.cell? ⟨W.heap.size, 0, none⟩ = some (.int .i64 5) ∧ V.cell? ⟨W.heap.size, 1, none⟩ = some (.string nm) ∧ V.cell? ⟨W.heap.size, 5, none⟩ = some (.slice ka kn kc)) := fun V h => by
    have q := h.box (by decide) q0
    exact ⟨box_cell (i := 0) q rfl, box_cell (i := 1) q rfl, box_cell (i := 5) q rfl⟩
  have HNB : Hid (nb ≤ V0.heap.size) := by show _ ≤ _; omega
  have HRD := hide ((Rd.start h5 hs5).below b0 hnb)
  have HGD := hide hgd
  have HIH := hide ih
  have HSZ := hide hsz
  have HL := hide hl
  obtain ⟨X, hX⟩ : ∃ X, ([40] ++ bs nm ++ sepB [32] (KT kk) ++ [41]) = X := ⟨_, rfl⟩
  rw [hX]
  have HX0 := hide hX
  have hkn : (kn == 0) = false := by rw [beq_eq_false_iff_ne]; omega
  have hkn2 : ((kn : Int) == 0) = false := by rw [beq_eq_false_iff_ne]; omega
  obtain ⟨c0, c1, c5⟩ := HQ.out V0 (BK.refl _ _ _)
  have d1 : BK p nb V0 V0.drew := BK.of HNB.out ((Below.refl _ _).drew)
  have d2 : BK p nb V0 (V0.alloc (.cells #[.int .u8 40] 5)).drew := BK.of HNB.out ((below_alloc1 _ _).drew)
  have kk0 := (HQ.out _ d1).2.1
  have kk1 := (HQ.out _ d2).2.1
  have HR2 : Hid (BR nb (V0.alloc (.cells #[.int .u8 40] 5)).drew v l) := HR.out.below ((below_alloc1 _ _).drew)
  have HB2 : Hid ((V0.alloc (.cells #[.int .u8 40] 5)).drew.heap[V0.heap.size]? = some (.cells #[.int .u8 40] 5)) := (MapKept.heap_alloc V0 _).1
  have HN2 : Hid (nb ≤ (V0.alloc (.cells #[.int .u8 40] 5)).drew.heap.size) := Nat.le_trans HNB.out d2.size
  have HD2 := hide d2
  have HL1 : Hid (l.length + 1 ≤ 70368744177664 ∧ (l ++ [40]).length + (bs nm).length ≤ 70368744177664) := by
    have h := HL.out
    simp only [List.length_append, List.length_cons, List.length_nil] at h
    refine ⟨by omega, ?_⟩
    simp only [List.length_append, List.length_cons, List.length_nil]
    omega
  have HV0 := hide hV0
  clear hV0 b0 q0 hv hnb z0 hl hX hp h5 hs5 hgd ih hsz d1 d2
  go_enter Try.func14, Try.ntmps14
  go_upto_region 1 with fail
  rw [HV0.out]
  clear HV0
  go_upto_region 15 with fail
  clear c0 c1 c5
  go_region_held3 (fun V => V.cell? ⟨W.heap.size, 1, none⟩ = some (.string nm))
    (first | with_reducible exact kk0 | with_reducible exact kk1 | with_reducible exact kk2 | with_reducible exact kk3)
    (first
      | (refine one_draw (by rfl) _ _ (by rfl) nb _ v l [40] 1 rfl _ rfl V0.heap.size (by rfl) (by rfl) HPP.out HN2.out HR2.out HB2.out HL1.out.1 ?_; intro v1 w1 h1 k1; have HR3 := hide h1; have HK3 : Hid (BK p nb V0 w1) := HD2.out.trans k1; have kk2 := (HQ.out w1 HK3.out).2.1; have HN3 : Hid (nb ≤ w1.heap.size) := Nat.le_trans HN2.out k1.size; clear h1 k1)
      | (refine str_draw (by rfl) _ _ (by rfl) nb w1 v1 (l ++ [40]) nm (by rfl) (by rfl) (fun h => by have := HPP.out h; rw [List.length_append]; omega) HN3.out HR3.out HL1.out.2 ?_; intro v2 w2 h2 k2; have HR4 := hide h2; have HK4 : Hid (BK p nb V0 w2) := HK3.out.trans k2; have kk3 := (HQ.out w2 HK4.out).2.1; have HN4 : Hid (nb ≤ w2.heap.size) := Nat.le_trans HN3.out k2.size; clear h2 k2)
      | fail)
  all_goals
    have HRD2 := hide (HRD.out.bk HK4.out HNB.out)
    clear kk0 kk1 kk2 kk3 HR HR2 HR3 HK3 HN3 HB2 HD2 HN2
    go_wp2_with fail
    go_loopw [0, 5] (fun s0 s5 wr => ∃ (i : Nat) (r : Fo) (vi : Value) (li : List UInt8), s0 = vi ∧ s5 = .int .i64 i ∧ i ≤ kn ∧ Hid (Rd E (E 3) kn nb ka i r wr) ∧ Hid (li ++ rest5 (decide (i = 0)) (KT r) = l ++ [40] ++ bs nm ++ sepB [32] (KT kk) ∧ (rdK r).good ∧ (r.size ≤ m ∧ r.wt ≤ 1048576) ∧ l.length ≤ li.length) ∧ Hid (BR nb wr vi li) ∧ Hid (BK p nb V0 wr)) (fun _ s5 _ => kn - (intOf s5).toNat)
    case atStart => exact ⟨0, kk, v2, l ++ [40] ++ bs nm, rfl, rfl, Nat.zero_le _, HRD2, ⟨by simp [rest5], HGD.out, HSZ.out, by simp only [List.length_append]; omega⟩, HR4, HK4⟩
    case round =>
      obtain ⟨i, r, vi, li, rfl, rfl, hin, hRd, hinv, hBR, hBK⟩ := hrel
      obtain ⟨c0, c1, c5⟩ := HQ.out wr hBK.out
      have hNw : Hid (nb ≤ wr.heap.size) := Nat.le_trans HNB.out hBK.out.size
      by_cases hi : i < kn
      · obtain ⟨x, q, b, o, rfl, hx, rfl, hb', hc, hxs, hR1⟩ := hRd.out.next hi (by decide)
        have hii : (i : Int) < kn := by omega
        obtain ⟨g1, g2, ⟨g3, g4⟩, g5⟩ := hinv.out
        rw [KT_app hx] at g1
        rw [goodK_app hx] at g2
        rw [Fo.app_size] at g3
        rw [Fo.app_wt] at g4
        have HXC : Hid (∀ V, BK p nb wr V → Cel V x.vals b (o + i * 7)) := fun V k => hc.below k.1 hb'
        have HX := hide hx
        have HXS := hide hxs
        have HG : Hid ((rdK x).good ∧ (rdK q).good ∧ x.size + q.size ≤ m ∧ x.wt + q.wt ≤ 1048576) := ⟨g2.1, g2.2, g3, g4⟩
        have HR1 := hide hR1
        have HPi : Hid ((p → 2 ≤ li.length) ∧ l.length ≤ li.length) := ⟨fun h => Nat.le_trans (HPP.out h) g5, g5⟩

        have HT : Hid ((l ++ [40] ++ bs nm ++ sepB [32] (KT kk)).length ≤ 35184372088832) := by
          have h := HL.out
          simp only [List.length_append, List.length_cons, List.length_nil] at h
          show _ ≤ _
          simp only [List.length_append, List.length_cons, List.length_nil]
          omega
        obtain ⟨xk, xnm, xmn, xla, xln, xlc, xlk, xna, xnn, xnc, xnk, xka, xkn, xkc, xkk, xaa, xan, xac, xak, hxe, -⟩ := core_open hx
        have HVX : Hid (x.vals.toArray = #[.int .i64 xk, .string xnm, .bool xmn, .slice xla xln xlc, .slice xna xnn xnc, .slice xka xkn xkc, .slice xaa xan xac]) := by rw [hxe]; rfl
        have HP : Hid (∀ V, BK p nb wr V → V.cell? ⟨b, o + i * 7, none⟩ = some (.int .i64 xk) ∧ V.cell? ⟨b, o + i * 7 + 1, none⟩ = some (.string xnm) ∧ V.cell? ⟨b, o + i * 7 + 2, none⟩ = some (.bool xmn) ∧ V.cell? ⟨b, o + i * 7 + 3, none⟩ = some (.slice xla xln xlc) ∧ V.cell? ⟨b, o + i * 7 + 4, none⟩ = some (.slice xna xnn xnc) ∧ V.cell? ⟨b, o + i * 7 + 5, none⟩ = some (.slice xka xkn xkc) ∧ V.cell? ⟨b, o + i * 7 + 6, none⟩ = some (.slice xaa xan xac)) := fun V k => by
          have h := HXC.out V k
          rw [hxe] at h
          exact ⟨h 0 _ rfl, h 1 _ rfl, h 2 _ rfl, h 3 _ rfl, h 4 _ rfl, h 5 _ rfl, h 6 _ rfl⟩
        -- the kid behind what stands there
        have HC : Hid (∀ V u lu, BK p nb wr V → BR nb V u lu → (p → 2 ≤ lu.length) → lu.length + (fx x).length ≤ 35184372088832 → Calls Try.prog 14 #[u, .agg #[.int .i64 xk, .string xnm, .bool xmn, .slice xla xln xlc, .slice xna xnn xnc, .slice xka xkn xkc, .slice xaa xan xac]] V (FmP p nb V (lu ++ fx x))) := fun V u lu k hu hpu hlu => by
          rw [← HVX.out]
          exact HIH.out p x V u lu hpu (by have := HG.out; omega) HX.out HG.out.1 (by have := HG.out; omega) (sub_bk HXS.out k) (Nat.le_trans hNw.out k.size) hu hlu
        by_cases hi0 : i = 0
        · have hd : ¬ (0 : Int) < i := by omega
          have hd2 : ¬ 0 < i := by omega
          have HE : Hid ((li ++ fx x) ++ rest5 (decide (i + 1 = 0)) (KT q) = l ++ [40] ++ bs nm ++ sepB [32] (KT kk)) := by
            show _ = _
            rw [← g1]
            have e1 : decide (i = 0) = true := by simpa using hi0
            have e2 : decide (i + 1 = 0) = false := by simp
            rw [e1, e2]
            simp [rest5, sepB]
          have HLN : Hid (li.length + 1 ≤ 70368744177664 ∧ (li).length + (fx x).length ≤ 35184372088832) := by
            have h1 := congrArg List.length HE.out
            have h2 := HT.out
            rw [← h1] at h2
            simp only [List.length_append] at h2
            refine ⟨by omega, ?_⟩
            skip
            omega
          clear hRd hinv g1 g2 g3 g4 g5 hc hxs hx hR1 hxe hi0
          obtain ⟨p0, p1, p2, p3, p4, p5, p6⟩ := HP.out wr (BK.refl _ _ _)
          go_wp2_with fail
          refine (HC.out wr _ li (BK.refl _ _ _) hBR.out HPi.out.1 HLN.out.2).mono ?_
          rintro e w7 ⟨v7, rfl, h7, k7⟩
          have HB7 := hide h7
          have HK7 : Hid (BK p nb wr w7) := k7
          have HRn := hide (HR1.out.bk HK7.out hNw.out)
          have HKn : Hid (BK p nb V0 w7) := hBK.out.trans HK7.out
          clear h7 k7 p0 p1 p2 p3 p4 p5 p6 c0 c1 c5
          go_wp2_with fail
          go_roundw
          case rel => exact ⟨i + 1, q, v7, _, rfl, by go_num, by omega, HRn, ⟨HE.out, HG.out.2.1, ⟨by have := HG.out; omega, by have := HG.out; omega⟩, by have := HPi.out.2; simp only [List.length_append]; omega⟩, HB7, HKn⟩
          case measure => simp [intOf]; omega
        · have hd : (0 : Int) < i := by omega
          have hd2 : 0 < i := by omega
          have HE : Hid ((li ++ [32] ++ fx x) ++ rest5 (decide (i + 1 = 0)) (KT q) = l ++ [40] ++ bs nm ++ sepB [32] (KT kk)) := by
            show _ = _
            rw [← g1]
            have e1 : decide (i = 0) = false := by simpa using hi0
            have e2 : decide (i + 1 = 0) = false := by simp
            rw [e1, e2]
            simp [rest5]
          have HLN : Hid (li.length + 1 ≤ 70368744177664 ∧ (li ++ [32]).length + (fx x).length ≤ 35184372088832) := by
            have h1 := congrArg List.length HE.out
            have h2 := HT.out
            rw [← h1] at h2
            simp only [List.length_append, List.length_cons, List.length_nil] at h2
            refine ⟨by omega, ?_⟩
            simp only [List.length_append, List.length_cons, List.length_nil]
            omega
          clear hRd hinv g1 g2 g3 g4 g5 hc hxs hx hR1 hxe hi0
          go_wp2_with (at_builtin; refine one_step rfl _ _ rfl nb _ _ li [32] 1 rfl _ rfl wr.heap.size rfl rfl HPi.out.1 (Nat.le_trans hNw.out (by simp)) (hBR.out.below (below_alloc1 _ _)) (MapKept.heap_alloc wr _).1 HLN.out.1 ?_; intro v6 w6 h6 k6; have HB6 := hide h6; have HK6 : Hid (BK p nb wr w6) := (BK.of hNw.out (below_alloc1 wr _)).trans k6; clear h6 k6 c0 c1 c5; obtain ⟨c0, c1, c5⟩ := HQ.out w6 (hBK.out.trans HK6.out); obtain ⟨p0, p1, p2, p3, p4, p5, p6⟩ := HP.out w6 HK6.out)
          refine (HC.out w6 v6 (li ++ [32]) HK6.out HB6.out (fun h => by have := HPi.out.1 h; rw [List.length_append]; omega) HLN.out.2).mono ?_
          rintro e w7 ⟨v7, rfl, h7, k7⟩
          have HB7 := hide h7
          have HK7 : Hid (BK p nb wr w7) := HK6.out.trans k7
          have HRn := hide (HR1.out.bk HK7.out hNw.out)
          have HKn : Hid (BK p nb V0 w7) := hBK.out.trans HK7.out
          clear h7 k7 p0 p1 p2 p3 p4 p5 p6 c0 c1 c5
          go_wp2_with fail
          go_roundw
          case rel => exact ⟨i + 1, q, v7, _, rfl, by go_num, by omega, HRn, ⟨HE.out, HG.out.2.1, ⟨by have := HG.out; omega, by have := HG.out; omega⟩, by have := HPi.out.2; simp only [List.length_append]; omega⟩, HB7, HKn⟩
          case measure => simp [intOf]; omega
      · obtain ⟨rfl, rfl⟩ := hRd.out.done hi
        have hii : ¬ (i : Int) < i := by omega
        obtain ⟨g1, -, -, g5⟩ := hinv.out
        have HPi : Hid (p → 2 ≤ li.length) := fun h => Nat.le_trans (HPP.out h) g5
        have HE : Hid (li ++ [41] = l ++ X) := by
          rw [KT_nil] at g1
          have e0 : ∀ b, rest5 b [] = [] := fun b => by cases b <;> rfl
          rw [e0, List.append_nil] at g1
          show _ = _
          rw [g1, ← HX0.out]
          simp
        have HLN : Hid (li.length + 1 ≤ 70368744177664) := by
          have h1 := congrArg List.length HE.out
          have h2 := HL.out
          rw [HX0.out] at h2
          simp only [List.length_append, List.length_cons, List.length_nil] at h1 h2
          show _ ≤ _
          omega
        clear hRd hinv g1 g5
        go_wp2_with (at_builtin; refine one_step rfl _ _ rfl nb _ _ li [41] 1 rfl _ rfl wr.heap.size rfl rfl HPi.out (Nat.le_trans hNw.out (by simp)) (hBR.out.below (below_alloc1 _ _)) (MapKept.heap_alloc wr _).1 HLN.out ?_; intro v6 w6 h6 k6; have HB6 := hide h6; have HK6 : Hid (BK p nb wr w6) := (BK.of hNw.out (below_alloc1 wr _)).trans k6; clear h6 k6)
        go_ret
        exact ⟨_, rfl, by rw [← HE.out]; exact HB6.out, (HK.out.trans hBK.out).trans HK6.out⟩

end Go.Proofs.Ytppfohpgcofkbaa

namespace Go.Proofs.Ytppfohpgcofkbaa
open Go.RowKit Go.Joins

theorem BK.any {p : Prop} {B : Nat} {W W' : World} (h : BK True B W W') : BK p B W W' := ⟨h.1, h.2.1, fun _ => h.2.2 trivial⟩

theorem rest5_next {b : Bool} {L : List ByteArray} {i : Nat} {x : ByteArray} (h : L[i]? = some x) : rest5 b ((L.drop i).map bs) = (if b = true then [] else [32]) ++ bs x ++ rest5 false ((L.drop (i + 1)).map bs) := by
  have hl : i < L.length := (List.getElem?_eq_some_iff.1 h).1
  have e : L[i] = x := (List.getElem?_eq_some_iff.1 h).2
  rw [List.drop_eq_getElem_cons hl, e, List.map_cons]
  cases b <;> simp [rest5, sepB]

set_option maxHeartbeats 4000000 in
set_option maxRecDepth 100000 in
theorem fm_6 (p : Prop) (nb m : Nat) (ih : FmC nb m) (nm : ByteArray) (mn : Bool) (la : Option Addr) (ln lc : Nat) (na : Option Addr) (nn nc : Nat) (ka : Option Addr) (kn kc : Nat) (aa : Option Addr) (an ac : Nat) (L : List ByteArray) (kk : Fo) (W : World) (v : Value) (l : List UInt8) (hp : p → 2 ≤ l.length) (hnb : nb ≤ W.heap.size) (hv : BR nb W v l) (hsr : SR W (fun c => c < nb) na nc L) (hnn : nn = L.length) (hnx : nn ≤ 16777216) (h5 : Fit E kk (rep (E 3) kn)) (hs5 : kk.Sub W (fun c => c < nb) ka kn kc) (hgd : (rdK kk).good) (hsz : kk.size ≤ m ∧ kk.wt ≤ 1048576) (hkx : kn ≤ 16777216) (hk0 : 0 < kn) (hl : l.length + ([40, 92] ++ sepB [32] (L.map bs) ++ arrow ++ (KT kk).headD [] ++ [41]).length ≤ 35184372088832) :
    Calls Try.prog 14 #[v, .agg #[.int .i64 6, .string nm, .bool mn, .slice la ln lc, .slice na nn nc, .slice ka kn kc, .slice aa an ac]] W (FmP p nb W (l ++ ([40, 92] ++ sepB [32] (L.map bs) ++ arrow ++ (KT kk).headD [] ++ [41]))) := by
  obtain ⟨V0, hV0⟩ : ∃ V, W.alloc (.cells #[.int .i64 6, .string nm, .bool mn, .slice la ln lc, .slice na nn nc, .slice ka kn kc, .slice aa an ac] 36) = V := ⟨_, rfl⟩
  have b0 : Below W.heap.size W V0 := by rw [← hV0]; exact below_alloc1 _ _
  have z0 : V0.heap.size = W.heap.size + 1 := by rw [← hV0]; simp
  have q0 : V0.heap[W.heap.size]? = some (.cells #[.int .i64 6, .string nm, .bool mn, .slice la ln lc, .slice na nn nc, .slice ka kn kc, .slice aa an ac] 36) := by rw [← hV0]; exact (MapKept.heap_alloc W _).1
  have HR := hide (hv.below b0)
  have HK := hide (BK.of (p := p) hnb b0)
  have HPP := hide hp
  obtain ⟨x, q, b, o, rfl, hx, rfl, hb', hc, hxs, hR1⟩ := (Rd.start h5 hs5).next hk0 (by decide)
  rw [KT_app hx, List.headD_cons] at hl ⊢
  rw [goodK_app hx] at hgd
  rw [Fo.app_size, Fo.app_wt] at hsz
  obtain ⟨xk, xnm, xmn, xla, xln, xlc, xlk, xna, xnn, xnc, xnk, xka, xkn, xkc, xkk, xaa, xan, xac, xak, hxe, -⟩ := core_open hx
  have HVX : Hid (x.vals.toArray = #[.int .i64 xk, .string xnm, .bool xmn, .slice xla xln xlc, .slice xna xnn xnc, .slice xka xkn xkc, .slice xaa xan xac]) := by rw [hxe]; rfl
  have HQ : Hid (∀ V, BK p nb V0 V → V.cell? ⟨W.heap.size, 0, none⟩ = some (.int .i64 6) ∧ V.cell? ⟨W.heap.size, 4, none⟩ = some (.slice na nn nc)) := fun V h => by
    have q := h.box (by decide) q0
    exact ⟨box_cell (i := 0) q rfl, box_cell (i := 4) q rfl⟩
  have HS : Hid (∀ V, BK p nb V0 V → V.cell? ⟨W.heap.size, 5, none⟩ = some (.slice (some ⟨b, o, none⟩) kn kc) ∧ V.cell? ⟨b, o, none⟩ = some (.int .i64 xk) ∧ V.cell? ⟨b, o + 1, none⟩ = some (.string xnm) ∧ V.cell? ⟨b, o + 2, none⟩ = some (.bool xmn) ∧ V.cell? ⟨b, o + 3, none⟩ = some (.slice xla xln xlc) ∧ V.cell? ⟨b, o + 4, none⟩ = some (.slice xna xnn xnc) ∧ V.cell? ⟨b, o + 5, none⟩ = some (.slice xka xkn xkc) ∧ V.cell? ⟨b, o + 6, none⟩ = some (.slice xaa xan xac)) := fun V h => by
    have q := h.box (by decide) q0
    have hcx := (hc.below b0 (by omega)).below h.1 hb'
    rw [hxe] at hcx
    refine ⟨box_cell (i := 5) q rfl, ?_, ?_, ?_, ?_, ?_, ?_, ?_⟩
    · simpa using hcx 0 _ rfl
    · simpa using hcx 1 _ rfl
    · simpa using hcx 2 _ rfl
    · simpa using hcx 3 _ rfl
    · simpa using hcx 4 _ rfl
    · simpa using hcx 5 _ rfl
    · simpa using hcx 6 _ rfl
  have HNB : Hid (nb ≤ V0.heap.size) := by show _ ≤ _; omega
  have HSR : Hid (∀ V, BK p nb V0 V → SR V (fun c => c < nb) na nc L) := fun V h => (hsr.below b0 (fun c hc => by omega)).below h.1 (fun c hc => hc)
  have HC : Hid (∀ V u lu, BK p nb V0 V → BR nb V u lu → 2 ≤ lu.length → lu.length + (fx x).length ≤ 35184372088832 → Calls Try.prog 14 #[u, .agg #[.int .i64 xk, .string xnm, .bool xmn, .slice xla xln xlc, .slice xna xnn xnc, .slice xka xkn xkc, .slice xaa xan xac]] V (FmP True nb V (lu ++ fx x))) := fun V u lu k hu hpu hlu => by
    rw [← HVX.out]
    exact ih True x V u lu (fun _ => hpu) (by omega) hx hgd.1 (by omega) (sub_bk (hxs.below b0 (fun c hc => by omega)) k) (Nat.le_trans HNB.out k.size) hu hlu
  have HL := hide hl
  obtain ⟨X, hX⟩ : ∃ X, ([40, 92] ++ sepB [32] (L.map bs) ++ arrow ++ fx x ++ [41]) = X := ⟨_, rfl⟩
  rw [hX]
  have HX0 := hide hX
  have HNN := hide hnn
  obtain ⟨c0, c4⟩ := HQ.out V0 (BK.refl _ _ _)
  have HL1 : Hid (l.length + (bs ⟨#[40, 92]⟩).length ≤ 70368744177664) := by
    have h := HL.out
    simp only [List.length_append, List.length_cons, List.length_nil] at h
    show l.length + 2 ≤ _
    omega
  have HV0 := hide hV0
  clear hV0 b0 q0 hv hnb z0 hl hX hp h5 hs5 hgd ih hsz hsr hnn hx hxe hc hxs hR1 hb'
  go_enter Try.func14, Try.ntmps14
  go_upto_region 1 with fail
  rw [HV0.out]
  clear HV0
  go_upto_region 25 with (at_builtin; refine str_step rfl _ _ rfl nb V0 v l ⟨#[40, 92]⟩ rfl rfl HPP.out HNB.out HR.out HL1.out ?_; intro v1 w1 h1 k1; have HR1 := hide h1; have HK1 := hide k1; clear h1 k1)
  clear c0 c4 HR
  go_wp2_with fail
  go_loopw [0, 6] (fun s0 s6 wr => ∃ (i : Nat) (vi : Value) (li : List UInt8), s0 = vi ∧ s6 = .int .i64 i ∧ i ≤ nn ∧ Hid (li ++ rest5 (decide (i = 0)) ((L.drop i).map bs) = l ++ [40, 92] ++ sepB [32] (L.map bs) ∧ l.length + 2 ≤ li.length) ∧ Hid (BR nb wr vi li) ∧ Hid (BK p nb V0 wr)) (fun _ s6 _ => nn - (intOf s6).toNat)
  case atStart => exact ⟨0, v1, l ++ [40, 92], rfl, rfl, Nat.zero_le _, ⟨by simp [rest5], by simp⟩, HR1, HK1⟩
  case round =>
    obtain ⟨i, vi, li, rfl, rfl, hin, hinv, hBR, hBK⟩ := hrel
    obtain ⟨c0, c4⟩ := HQ.out wr hBK.out
    have hNw : Hid (nb ≤ wr.heap.size) := Nat.le_trans HNB.out hBK.out.size
    by_cases hi : i < nn
    · have hii : (i : Int) < nn := by omega
      obtain ⟨y, hy⟩ : ∃ y, L[i]? = some y := ⟨_, List.getElem?_eq_getElem (by rw [← HNN.out]; exact hi)⟩
      obtain ⟨g1, g5⟩ := hinv.out
      rw [rest5_next hy] at g1
      have hne : L ≠ [] := fun e => by rw [e] at hy; simp at hy
      obtain ⟨nb2, no, rfl, hnb2, hrw⟩ := (HSR.out wr hBK.out).at_ hne
      have HCE : Hid (∀ V, BK p nb wr V → V.cell? ⟨nb2, no + i, none⟩ = some (.string y)) := fun V k => (k.1.cell (p := ⟨nb2, no + i, none⟩) hnb2).trans (hrw i y hy)
      have HT : Hid ((l ++ [40, 92] ++ sepB [32] (L.map bs)).length ≤ 35184372088832) := by
        have h := HL.out
        simp only [List.length_append, List.length_cons, List.length_nil] at h
        show _ ≤ _
        simp only [List.length_append, List.length_cons, List.length_nil]
        omega
      by_cases hi0 : i = 0
      · have hd : ¬ (0 : Int) < i := by omega
        have hd2 : ¬ 0 < i := by omega
        have HE : Hid ((li ++ bs y) ++ rest5 (decide (i + 1 = 0)) ((L.drop (i + 1)).map bs) = l ++ [40, 92] ++ sepB [32] (L.map bs)) := by
          show _ = _
          rw [← g1]
          have e1 : decide (i = 0) = true := by simpa using hi0
          have e2 : decide (i + 1 = 0) = false := by simp
          rw [e1, e2]
          simp
        have HLN : Hid (li.length + (bs y).length ≤ 70368744177664) := by
          have h1 := congrArg List.length HE.out
          have h2 := HT.out
          rw [← h1] at h2
          simp only [List.length_append] at h2
          show _ ≤ _
          omega
        have HPi : Hid ((p → 2 ≤ li.length) ∧ l.length + 2 ≤ li.length) := ⟨fun _ => by omega, g5⟩
        have p1 := HCE.out wr (BK.refl _ _ _)
        clear hinv g1 g5 hrw hy hi0 hne
        go_wp2_with (at_builtin; refine str_step rfl _ _ rfl nb wr _ li y rfl rfl HPi.out.1 hNw.out (by exact hBR.out) HLN.out ?_; intro v6 w6 h6 k6; have HB6 := hide h6; have HKn : Hid (BK p nb V0 w6) := hBK.out.trans k6; clear h6 k6)
        go_roundw
        case rel => exact ⟨i + 1, v6, _, rfl, by go_num, by omega, ⟨HE.out, by have := HPi.out.2; simp only [List.length_append]; omega⟩, HB6, HKn⟩
        case measure => simp [intOf]; omega
      · have hd : (0 : Int) < i := by omega
        have hd2 : 0 < i := by omega
        have HE : Hid ((li ++ [32] ++ bs y) ++ rest5 (decide (i + 1 = 0)) ((L.drop (i + 1)).map bs) = l ++ [40, 92] ++ sepB [32] (L.map bs)) := by
          show _ = _
          rw [← g1]
          have e1 : decide (i = 0) = false := by simpa using hi0
          have e2 : decide (i + 1 = 0) = false := by simp
          rw [e1, e2]
          simp
        have HLN : Hid (li.length + 1 ≤ 70368744177664 ∧ (li ++ [32]).length + (bs y).length ≤ 70368744177664) := by
          have h1 := congrArg List.length HE.out
          have h2 := HT.out
          rw [← h1] at h2
          simp only [List.length_append, List.length_cons, List.length_nil] at h2
          refine ⟨by omega, ?_⟩
          simp only [List.length_append, List.length_cons, List.length_nil]
          omega
        have HPi : Hid ((p → 2 ≤ li.length) ∧ l.length + 2 ≤ li.length) := ⟨fun _ => by omega, g5⟩
        clear hinv g1 g5 hrw hy hi0 hne
        go_wp2_with (first
          | (at_builtin; refine one_step rfl _ _ rfl nb _ _ li [32] 1 rfl _ rfl wr.heap.size rfl rfl HPi.out.1 (Nat.le_trans hNw.out (by simp)) (hBR.out.below (below_alloc1 _ _)) (MapKept.heap_alloc wr _).1 HLN.out.1 ?_; intro v6 w6 h6 k6; have HB6 := hide h6; have HK6 : Hid (BK p nb wr w6) := (BK.of hNw.out (below_alloc1 wr _)).trans k6; have hN6 : Hid (nb ≤ w6.heap.size) := Nat.le_trans hNw.out HK6.out.size; have p1 := HCE.out w6 HK6.out; clear h6 k6 c0 c4; obtain ⟨c0, c4⟩ := HQ.out w6 (hBK.out.trans HK6.out))
          | (at_builtin; refine str_step rfl _ _ rfl nb w6 v6 (li ++ [32]) y rfl rfl (fun h => by have := HPi.out.1 h; rw [List.length_append]; omega) hN6.out HB6.out HLN.out.2 ?_; intro v7 w7 h7 k7; have HB7 := hide h7; have HKn : Hid (BK p nb V0 w7) := (hBK.out.trans HK6.out).trans k7; clear h7 k7))
        go_roundw
        case rel => exact ⟨i + 1, v7, _, rfl, by go_num, by omega, ⟨HE.out, by have := HPi.out.2; simp only [List.length_append]; omega⟩, HB7, HKn⟩
        case measure => simp [intOf]; omega
    · obtain rfl : i = nn := by omega
      have hii : ¬ (i : Int) < i := by omega
      obtain ⟨g1, g5⟩ := hinv.out
      have HE : Hid (li ++ arrow ++ fx x ++ [41] = l ++ X) := by
        have e : (L.drop i).map bs = [] := by rw [List.drop_eq_nil_of_le (by rw [HNN.out]; exact Nat.le_refl _)]; rfl
        have e0 : ∀ b, rest5 b [] = [] := fun b => by cases b <;> rfl
        rw [e, e0, List.append_nil] at g1
        show _ = _
        rw [g1, ← HX0.out]
        simp
      have HT : Hid (li.length + 4 + (fx x).length + 1 ≤ 35184372088832) := by
        have h1 := congrArg List.length HE.out
        have h2 := HL.out
        rw [HX0.out] at h2
        simp only [List.length_append, List.length_cons, List.length_nil, arrow] at h1 h2
        show _ ≤ _
        omega
      have HPi : Hid (2 ≤ li.length) := by show _ ≤ _; omega
      have d1 : BK p nb V0 wr.drew := hBK.out.trans (BK.of hNw.out ((Below.refl _ _).drew))
      have d2 : BK p nb V0 (wr.alloc (.cells #[.int .u8 41] 5)).drew := hBK.out.trans (BK.of hNw.out ((below_alloc1 _ _).drew))
      have kk0 := HS.out _ d1
      have kk1 := HS.out _ d2
      have HD1 := hide d1
      have HD2 := hide d2
      have HRa : Hid (BR nb wr.drew u0 li) := hBR.out.below ((Below.refl _ _).drew)
      have HRb : Hid (BR nb (wr.alloc (.cells #[.int .u8 41] 5)).drew u0 li) := hBR.out.below ((below_alloc1 _ _).drew)
      have HBb : Hid ((wr.alloc (.cells #[.int .u8 41] 5)).drew.heap[wr.heap.size]? = some (.cells #[.int .u8 41] 5)) := (MapKept.heap_alloc wr _).1
      have HNb : Hid (nb ≤ (wr.alloc (.cells #[.int .u8 41] 5)).drew.heap.size) := Nat.le_trans HNB.out d2.size
      have HT1 : Hid (li.length + (bs ⟨#[32, 45, 62, 32]⟩).length ≤ 70368744177664 ∧ 2 ≤ (li ++ arrow).length ∧ (li ++ arrow).length + (fx x).length ≤ 35184372088832 ∧ 2 ≤ (li ++ arrow ++ fx x).length ∧ (li ++ arrow ++ fx x).length + 1 ≤ 70368744177664) := by
        have h := HT.out
        have h2 := HPi.out
        have e : (bs ⟨#[32, 45, 62, 32]⟩).length = 4 := rfl
        have e2 : arrow.length = 4 := rfl
        rw [e]
        simp only [List.length_append, e2]
        exact ⟨by omega, by omega, by omega, by omega, by omega⟩
      have HKA : Hid (∀ w1, BK p nb V0 w1 → BK p nb V0 (w1.alloc (.cells #[.int .u8 41] 5))) := fun w1 k => k.trans (BK.of (Nat.le_trans HNB.out k.size) (below_alloc1 _ _))
      have hki : (0 : Int) < kn := by omega
      clear d1 d2 hinv g1 g5 hi
      go_upto_region 31 with fail
      go_region_held3 (fun V => V.cell? ⟨W.heap.size, 5, none⟩ = some (.slice (some ⟨b, o, none⟩) kn kc) ∧ V.cell? ⟨b, o, none⟩ = some (.int .i64 xk) ∧ V.cell? ⟨b, o + 1, none⟩ = some (.string xnm) ∧ V.cell? ⟨b, o + 2, none⟩ = some (.bool xmn) ∧ V.cell? ⟨b, o + 3, none⟩ = some (.slice xla xln xlc) ∧ V.cell? ⟨b, o + 4, none⟩ = some (.slice xna xnn xnc) ∧ V.cell? ⟨b, o + 5, none⟩ = some (.slice xka xkn xkc) ∧ V.cell? ⟨b, o + 6, none⟩ = some (.slice xaa xan xac))
        (first | with_reducible exact kk0 | with_reducible exact kk1 | with_reducible exact kk2 | with_reducible exact kk2b | with_reducible exact kk3 | with_reducible exact kk3b | with_reducible exact kk4)
        (first
          | (refine str_draw (p := True) (by rfl) _ _ (by rfl) nb wr.drew u0 li ⟨#[32, 45, 62, 32]⟩ (by rfl) (by rfl) (fun _ => HPi.out) hNw.out HRa.out HT1.out.1 ?_; intro v1 w1 h1 k1; have HR1 : Hid (BR nb w1 v1 (li ++ arrow)) := h1; have HK1 : Hid (BK p nb V0 w1) := HD1.out.trans k1.any; have HN1 : Hid (nb ≤ w1.heap.size) := Nat.le_trans HNB.out HK1.out.size; have kk2 := HS.out w1 HK1.out; have kk2b := HS.out _ (HKA.out w1 HK1.out); clear h1 k1)
          | (refine str_draw (p := True) (by rfl) _ _ (by rfl) nb (wr.alloc (.cells #[.int .u8 41] 5)).drew u0 li ⟨#[32, 45, 62, 32]⟩ (by rfl) (by rfl) (fun _ => HPi.out) HNb.out HRb.out HT1.out.1 ?_; intro v1 w1 h1 k1; have HR1 : Hid (BR nb w1 v1 (li ++ arrow)) := h1; have HK1 : Hid (BK p nb V0 w1) := HD2.out.trans k1.any; have HN1 : Hid (nb ≤ w1.heap.size) := Nat.le_trans HNB.out HK1.out.size; have HBB : Hid (w1.heap[wr.heap.size]? = some (.cells #[.int .u8 41] 5)) := k1.2.2 trivial _ _ HBb.out; have kk2 := HS.out w1 HK1.out; have kk2b := HS.out _ (HKA.out w1 HK1.out); clear h1 k1)
          | (go_at_call 14; refine (HC.out w1 v1 (li ++ arrow) HK1.out HR1.out HT1.out.2.1 HT1.out.2.2.1).mono ?_; rintro e w2 ⟨v2, rfl, h2, k2⟩; have HR2 := hide h2; have HK2 : Hid (BK p nb V0 w2) := HK1.out.trans k2.any; have HN2 : Hid (nb ≤ w2.heap.size) := Nat.le_trans HNB.out HK2.out.size; have kk3 := HS.out w2 HK2.out; have kk3b := HS.out _ (HKA.out w2 HK2.out); (first | (have HBB2 := hide (k2.2.2 trivial _ _ HBB.out)) | skip); clear h2 k2)
          | (go_at_call 14; refine (HC.out (w1.alloc (.cells #[.int .u8 41] 5)) v1 (li ++ arrow) (HKA.out w1 HK1.out) (HR1.out.below (below_alloc1 _ _)) HT1.out.2.1 HT1.out.2.2.1).mono ?_; rintro e w2 ⟨v2, rfl, h2, k2⟩; have HR2 := hide h2; have HK2 : Hid (BK p nb V0 w2) := (HKA.out w1 HK1.out).trans k2.any; have HN2 : Hid (nb ≤ w2.heap.size) := Nat.le_trans HNB.out HK2.out.size; have kk3 := HS.out w2 HK2.out; have HBB2 : Hid (w2.heap[w1.heap.size]? = some (.cells #[.int .u8 41] 5)) := k2.2.2 trivial _ _ (MapKept.heap_alloc w1 _).1; clear h2 k2)
          | (refine one_draw (p := True) (by rfl) _ _ (by rfl) nb w2 v2 (li ++ arrow ++ fx x) [41] 1 rfl _ rfl _ (by rfl) (by rfl) (fun _ => HT1.out.2.2.2.1) HN2.out HR2.out HBB2.out HT1.out.2.2.2.2 ?_; intro v3 w3 h3 k3; have HR3 := hide h3; have HK3 : Hid (BK p nb V0 w3) := HK2.out.trans k3.any; have kk4 := HS.out w3 HK3.out; clear h3 k3)
          | (refine one_draw (p := True) (by rfl) _ _ (by rfl) nb (w2.alloc (.cells #[.int .u8 41] 5)) v2 (li ++ arrow ++ fx x) [41] 1 rfl _ rfl w2.heap.size (by rfl) (by rfl) (fun _ => HT1.out.2.2.2.1) (Nat.le_trans HN2.out (by simp)) (HR2.out.below (below_alloc1 _ _)) (MapKept.heap_alloc w2 _).1 HT1.out.2.2.2.2 ?_; intro v3 w3 h3 k3; have HR3 := hide h3; have HK3 : Hid (BK p nb V0 w3) := (HKA.out w2 HK2.out).trans k3.any; have kk4 := HS.out w3 HK3.out; clear h3 k3)
          | fail)
      all_goals
        go_wp2_with fail
        go_ret
        exact ⟨_, rfl, by rw [← HE.out]; exact HR3.out, HK.out.trans HK3.out⟩

end Go.Proofs.Ytppfohpgcofkbaa
