import Derived.Test.YtanjgmmkodlffaaSd
import Derived.Test.YtanjgmmkodlffaaKa
import Derived.Test.YtanjgmmkodlffaaUw
namespace Go.Proofs.Ytanjgmmkodlffaa
open Go.RowKit Go.Joins

/-- Types as rows of cells. -/
def cv : Fo → U.Fo
  | .nil => .nil
  | .cons k ix nm a cap ks r => .v (.int .i64 k) (.v (.int .i64 ix) (.v (.string nm) (.s a ks.len cap (cv ks) (cv r))))

theorem cv_len : ∀ F : Fo, (cv F).len = F.len * 4
  | .nil => rfl
  | .cons _ _ _ _ _ _ r => by simp only [cv, U.Fo.len, Fo.len, cv_len r]; omega

theorem cv_of : ∀ (m : Nat) (F : U.Fo) (n : Nat), F.size ≤ m → U.Fit U.E F (U.rep (U.E 1) n) → ∃ G : Fo, cv G = F ∧ G.len = n := by
  intro m
  induction m with
  | zero =>
    intro F n hm hf
    have e : F = .nil := U.Fo.len_zero (by have := F.len_le; omega)
    subst e
    cases n with
    | zero => exact ⟨.nil, rfl, rfl⟩
    | succ n =>
      have := hf.len
      rw [U.rep_len] at this
      simp [U.Fo.len, U.E] at this
  | succ m ih =>
    intro F n hm hf
    cases n with
    | zero => exact ⟨.nil, (U.fit_nil hf).symm, rfl⟩
    | succ n =>
      replace hf : U.Fit U.E F ([.i, .i, .t, .s 1] ++ U.rep (U.E 1) n) := hf
      obtain ⟨k, F0, rfl, -, hf⟩ := U.fit_i hf
      obtain ⟨ix, F1, rfl, -, hf⟩ := U.fit_i hf
      obtain ⟨nm, F2, rfl, -, hf⟩ := U.fit_t hf
      obtain ⟨a, q, cap, ks, r, rfl, hks, hfr⟩ := U.fit_s hf
      simp only [U.Fo.size] at hm
      obtain ⟨R, hR0, hR⟩ := ih r n (by omega) hfr
      obtain ⟨K, hK0, hK⟩ := ih ks q (by omega) hks
      subst hR0 hK0
      exact ⟨.cons k ix nm a cap K R, by simp only [cv, hK], by simp only [Fo.len, hR]⟩

theorem cv_fit : ∀ {F : Fo} {k ix : Int} {nm : ByteArray} {a : Option Addr} {cap : Nat} {ks : Fo} {n : Nat}, F = .cons k ix nm a cap ks .nil → U.Fit U.E (cv F) (U.rep (U.E 1) n) → True := fun _ _ => trivial

theorem row_of {W : World} {S : Nat → Prop} : ∀ (F : Fo) (n b o : Nat), U.Fit U.E (cv F) (U.rep (U.E 1) n) → U.Cel W (cv F).vals b o → (cv F).Subs W S → F.Row W S b o
  | .nil, _, _, _, _, _, _ => trivial
  | .cons k ix nm a cap ks r, n, b, o, hf, hc, hs => by
    cases n with
    | zero => exact absurd (U.fit_nil hf) (by simp [cv])
    | succ n =>
      replace hf : U.Fit U.E (cv (.cons k ix nm a cap ks r)) ([.i, .i, .t, .s 1] ++ U.rep (U.E 1) n) := hf
      obtain ⟨h1, h2, h3, h4, h5⟩ := hf
      obtain ⟨⟨g1, g2, g3⟩, g4⟩ := hs
      have c0 := hc 0 _ rfl
      have c1 := hc 1 _ rfl
      have c2 := hc 2 _ rfl
      have c3 := hc 3 _ rfl
      refine ⟨h1, h2, h3, c0, c1, c2, c3, g1, g2, fun hl => ?_, row_of r n b (o + 4) h5 (fun i v hv => ?_) g4⟩
      · obtain ⟨b', o', e, s, cc, ss⟩ := g3 (by rw [cv_len]; omega)
        exact ⟨b', o', e, s, row_of ks ks.len b' o' h4 cc ss⟩
      · have := hc (i + 4) v hv
        rwa [← Nat.add_assoc, Nat.add_right_comm] at this

theorem sl_of {W : World} {S : Nat → Prop} {F : Fo} {a : Option Addr} {cap : Nat} (hf : U.Fit U.E (cv F) (U.rep (U.E 1) F.len)) (h : U.Fo.Sub W S a F.len cap (cv F)) : F.Sl W S a cap :=
  ⟨h.1, h.2.1, fun hl => by
    obtain ⟨b', o', e, s, cc, ss⟩ := h.2.2 (by rw [cv_len]; omega)
    exact ⟨b', o', e, s, row_of F F.len b' o' hf cc ss⟩⟩

theorem of_row {W : World} {S : Nat → Prop} : ∀ (F : Fo) (b o : Nat), F.Row W S b o → U.Cel W (cv F).vals b o ∧ (cv F).Subs W S ∧ U.Fit U.E (cv F) (U.rep (U.E 1) F.len)
  | .nil, _, _, _ => ⟨fun i v hv => by simp [cv, U.Fo.vals] at hv, trivial, trivial⟩
  | .cons k ix nm a cap ks r, b, o, ⟨h1, h2, h3, c0, c1, c2, c3, g1, g2, g3, g4⟩ => by
    obtain ⟨r1, r2, r3⟩ := of_row r b (o + 4) g4
    have hk : U.Fit U.E (cv ks) (U.rep (U.E 1) ks.len) ∧ (0 < (cv ks).len → ∃ b o, a = some ⟨b, o, none⟩ ∧ S b ∧ U.Cel W (cv ks).vals b o ∧ (cv ks).Subs W S) := by
      by_cases hl : 0 < ks.len
      · obtain ⟨b', o', e, s, hr⟩ := g3 hl
        obtain ⟨q1, q2, q3⟩ := of_row ks b' o' hr
        exact ⟨q3, fun _ => ⟨b', o', e, s, q1, q2⟩⟩
      · have e : ks = .nil := by
          cases ks with
          | nil => rfl
          | cons _ _ _ _ _ _ _ => simp [Fo.len] at hl
        subst e
        exact ⟨trivial, fun h => by simp [cv, U.Fo.len] at h⟩
    refine ⟨fun i v hv => ?_, ⟨⟨g1, g2, hk.2⟩, r2⟩, ⟨h1, h2, h3, hk.1, r3⟩⟩
    match i, hv with
    | 0, hv => cases hv; exact c0
    | 1, hv => cases hv; exact c1
    | 2, hv => cases hv; exact c2
    | 3, hv => cases hv; exact c3
    | i + 4, hv =>
      have := r1 i v hv
      rwa [← Nat.add_assoc, Nat.add_right_comm]

theorem of_sl {W : World} {S : Nat → Prop} {F : Fo} {a : Option Addr} {cap : Nat} (h : F.Sl W S a cap) : U.Fo.Sub W S a F.len cap (cv F) ∧ U.Fit U.E (cv F) (U.rep (U.E 1) F.len) := by
  by_cases hl : 0 < F.len
  · obtain ⟨b', o', e, s, hr⟩ := h.2.2 hl
    obtain ⟨q1, q2, q3⟩ := of_row F b' o' hr
    exact ⟨⟨h.1, h.2.1, fun _ => ⟨b', o', e, s, q1, q2⟩⟩, q3⟩
  · have e : F = .nil := by
      cases F with
      | nil => rfl
      | cons _ _ _ _ _ _ _ => simp [Fo.len] at hl
    subst e
    exact ⟨⟨h.1, h.2.1, fun h => by simp [cv, U.Fo.len] at h⟩, trivial⟩

theorem cv_sim : ∀ {F G : Fo}, F.sim G → (cv F).sim (cv G)
  | .nil, .nil, _ => trivial
  | .cons _ _ _ _ _ ks r, .cons _ _ _ _ _ ks' r', ⟨h1, h2, h3, h4, h5⟩ => by
    subst h1 h2 h3
    exact ⟨rfl, rfl, rfl, h4.len, cv_sim h4, cv_sim h5⟩
  | .nil, .cons _ _ _ _ _ _ _, h => h.elim
  | .cons _ _ _ _ _ _ _, .nil, h => h.elim

theorem sim_cv : ∀ {F G : Fo}, (cv F).sim (cv G) → F.sim G
  | .nil, .nil, _ => trivial
  | .cons _ _ _ _ _ ks r, .cons _ _ _ _ _ ks' r', ⟨h1, h2, h3, _, h4, h5⟩ => by
    cases h1
    cases h2
    cases h3
    exact ⟨rfl, rfl, rfl, sim_cv h4, sim_cv h5⟩
  | .nil, .cons _ _ _ _ _ _ _, h => h.elim
  | .cons _ _ _ _ _ _ _, .nil, h => h.elim

theorem cv_blk (a : Option Addr) (F : Fo) : U.blk a (cv F).len = blk a F.len := by
  rw [cv_len]
  cases F with
  | nil => cases a <;> rfl
  | cons _ _ _ _ _ _ r =>
    have : (Fo.cons ‹_› ‹_› ‹_› ‹_› ‹_› ‹_› r).len * 4 = (r.len * 4 + 3) + 1 := by simp only [Fo.len]; omega
    cases a with
    | none => rfl
    | some a => simp only [Fo.len]; rfl

theorem cv_inn : ∀ F : Fo, (cv F).inn = F.inn
  | .nil => rfl
  | .cons _ _ _ a _ ks r => by simp only [cv, U.Fo.inn, Fo.inn, cv_inn ks, cv_inn r, cv_blk]

theorem cv_size : ∀ F : Fo, F.size ≤ F.len + (cv F).wt
  | .nil => Nat.le_refl _
  | .cons _ _ nm _ _ ks r => by
    have h1 := cv_size ks
    have h2 := cv_size r
    simp only [cv, Fo.size, Fo.len, U.Fo.wt]
    omega

theorem Fo.Row.shp {W : World} {S : Nat → Prop} : ∀ {F : Fo} {b o : Nat}, F.Row W S b o → F.Row W (fun c => S c ∧ ∃ j v, W.cell? ⟨c, j, none⟩ = some v) b o
  | .nil, _, _, _ => trivial
  | .cons _ _ _ _ _ ks r, b, o, ⟨h1, h2, h3, c0, c1, c2, c3, g1, g2, g3, g4⟩ => by
    refine ⟨h1, h2, h3, c0, c1, c2, c3, g1, g2, fun hl => ?_, Fo.Row.shp g4⟩
    obtain ⟨b', o', e, s, hr⟩ := g3 hl
    refine ⟨b', o', e, ⟨s, ?_⟩, Fo.Row.shp hr⟩
    cases ks with
    | nil => simp [Fo.len] at hl
    | cons _ _ _ _ _ _ _ => exact ⟨_, _, hr.2.2.2.1⟩

theorem Fo.Sl.shp {W : World} {S : Nat → Prop} {F : Fo} {a : Option Addr} {cap : Nat} (h : F.Sl W S a cap) : F.Sl W (fun c => S c ∧ ∃ j v, W.cell? ⟨c, j, none⟩ = some v) a cap :=
  ⟨h.1, h.2.1, fun hl => by
    obtain ⟨b', o', e, s, hr⟩ := h.2.2 hl
    refine ⟨b', o', e, ⟨s, ?_⟩, hr.shp⟩
    cases F with
    | nil => simp [Fo.len] at hl
    | cons _ _ _ _ _ _ _ => exact ⟨_, _, hr.2.2.2.1⟩⟩

open Classical in
/-- Are two types alike? -/
noncomputable def sameU (F G : U.Fo) : Bool := decide (F.sim G)

theorem sameU_iff (F G : U.Fo) : sameU F G = true ↔ F.sim G := by simp [sameU]

theorem sameU_sim {F F' G G' : U.Fo} {fs gs : List U.Fld} (_h1 : U.Fit U.E F fs) (_h2 : U.Fit U.E G gs) (h : F'.sim F) (k : G'.sim G) : sameU F' G' = sameU F G := by
  have e : (F'.sim G') ↔ (F.sim G) := ⟨fun x => (h.symm.trans x).trans k, fun x => (h.trans x).trans k.symm⟩
  rw [Bool.eq_iff_iff, sameU_iff, sameU_iff]
  exact e

/-- A type in hand. -/
theorem type_of {G : U.Fo} (hf : U.Fit U.E G (U.E 1)) : ∃ (k ix : Int) (nm : ByteArray) (a : Option Addr) (cap : Nat) (ks : Fo), G = cv (.cons k ix nm a cap ks .nil) ∧ (Lit.int .i64 k).wf = true ∧ (Lit.int .i64 ix).wf = true ∧ nm.size ≤ maxLen ∧ U.Fit U.E (cv ks) (U.rep (U.E 1) ks.len) := by
  replace hf : U.Fit U.E G [.i, .i, .t, .s 1] := hf
  obtain ⟨k, F0, rfl, w1, hf⟩ := U.fit_i hf
  obtain ⟨ix, F1, rfl, w2, hf⟩ := U.fit_i hf
  obtain ⟨nm, F2, rfl, w3, hf⟩ := U.fit_t hf
  obtain ⟨a, n, cap, K, r, rfl, hK, hf⟩ := U.fit_s hf
  obtain rfl := U.fit_nil hf
  obtain ⟨ks, rfl, rfl⟩ := cv_of _ K n (Nat.le_refl _) hK
  exact ⟨k, ix, nm, a, cap, ks, rfl, w1, w2, w3, hK⟩

theorem m_SameType (F G : U.Fo) (V : World) (hf : U.Fit U.E F (U.E 1)) (hg : U.Fit U.E G (U.E 1)) (_hw : F.wt ≤ 1048576) (_hv : G.wt ≤ 1048576) (hF : F.Subs V (fun c => c < V.heap.size)) (hG : G.Subs V (fun c => c < V.heap.size)) :
    Calls Try.prog 17 #[.agg F.vals.toArray, .agg G.vals.toArray] V fun e V' => e = .returned (.bool (sameU F G)) ∧ Below V.heap.size V V' := by
  obtain ⟨k, ix, nm, a, cap, ks, rfl, -, -, -, h4⟩ := type_of hf
  obtain ⟨k', ix', nm', a', cap', ks', rfl, -, -, -, g4⟩ := type_of hg
  have s1 : ks.Sl V (fun b => b < V.heap.size) a cap := sl_of h4 hF.1
  have s2 : ks'.Sl V (fun b => b < V.heap.size) a' cap' := sl_of g4 hG.1
  exact ssame_any _ ks (Nat.lt_succ_self _) k ix nm a cap k' ix' nm' a' cap' ks' V.heap.size V _ (Nat.le_refl _) s1 s2 ((sameU_iff _ _).trans ⟨sim_cv, cv_sim⟩)

theorem i_SameType {lo lo' z : Nat} (F G : U.Fo) (V : World) (hf : U.Fit U.E F (U.E 1)) (hg : U.Fit U.E G (U.E 1)) (hw : F.wt ≤ 1048576) (hF : U.Own lo V F) (hG : G.Subs V (fun c => lo' ≤ c ∧ c < V.heap.size)) (hl : U.Live V G.inn) (hz : ∀ c ∈ F.inn, c < z) (hz2 : ∀ c ∈ G.inn, z ≤ c) :
    Calls Try.prog 19 #[.agg F.vals.toArray, .agg G.vals.toArray] V fun e V' => e = .returned (.bool (sameU F G)) ∧ Below V.heap.size V V' := by
  obtain ⟨k, ix, nm, a, cap, ks, rfl, w1, w2, w3, h4⟩ := type_of hf
  obtain ⟨k', ix', nm', a', cap', ks', rfl, w1', w2', w3', g4⟩ := type_of hg
  have s1 : ks.Sl V (fun b => lo ≤ b ∧ b < V.heap.size) a cap := sl_of h4 hF.subs.1
  have s2 : ks'.Sl V (fun b => lo' ≤ b ∧ b < V.heap.size) a' cap' := sl_of g4 hG.1
  have e1 : (cv (.cons k ix nm a cap ks .nil)).inn = blk a ks.len ++ ks.inn := by rw [cv_inn]; simp [Fo.inn]
  have e2 : (cv (.cons k' ix' nm' a' cap' ks' .nil)).inn = blk a' ks'.len ++ ks'.inn := by rw [cv_inn]; simp [Fo.inn]
  have hsz : ks.size ≤ 1048576 := by
    have h1 := cv_size ks
    simp only [cv, U.Fo.wt] at hw
    omega
  refine isame k ix nm a cap ks k' ix' nm' a' cap' ks' V z _ w1 w2 w3 w1' w2' w3' (s1.mono (fun _ x => x.2)) (s2.mono (fun _ x => x.2)) (e1 ▸ hF.nodup) (fun c hc => ?_) (fun c hc => ?_) hsz ((sameU_iff _ _).trans ⟨sim_cv, cv_sim⟩)
  · obtain ⟨⟨-, h1⟩, j, v, h2⟩ := s1.shp.all_of c hc
    exact ⟨⟨fun j => hF.live c (by rw [e1]; exact hc) j, shape_of_cell h2⟩, h1, hz c (by rw [e1]; exact hc)⟩
  · obtain ⟨⟨-, h1⟩, j, v, h2⟩ := s2.shp.all_of c hc
    exact ⟨⟨fun j => hl c (by rw [e2]; exact hc) j, shape_of_cell h2⟩, h1, hz2 c (by rw [e2]; exact hc)⟩

theorem i_SameType2 {lo lo' : Nat} (F G : U.Fo) (V : World) (hf : U.Fit U.E F (U.E 1)) (hg : U.Fit U.E G (U.E 1)) (hw : F.wt ≤ 1048576) (_hv : G.wt ≤ 1048576) (hF : U.Own lo V F) (hG : U.Own lo' V G) (hz : ∀ c ∈ F.inn, c < lo') :
    Calls Try.prog 19 #[.agg F.vals.toArray, .agg G.vals.toArray] V fun e V' => e = .returned (.bool (sameU F G)) ∧ Below V.heap.size V V' :=
  i_SameType F G V hf hg hw hF hG.subs hG.live hz (fun c hc => (hG.subs.inn_of c hc).1)

end Go.Proofs.Ytanjgmmkodlffaa
