import Derived.Test.YteminjgoepmppaaWo
import Derived.Test.YteminjgoepmppaaKa
import Derived.Test.YteminjgoepmppaaUw
namespace Go.Proofs.Yteminjgoepmppaa
open Go.RowKit Go.Joins

/-- Types as rows of cells. -/
def cv : Fo → U.Fo
  | .nil => .nil
  | .cons k ix nm a cap ks r => .v (.int .i64 k) (.v (.int .i64 ix) (.v (.string nm) (.s a ks.len cap (cv ks) (cv r))))

theorem cv_len : ∀ F : Fo, (cv F).len = F.len * 4
  | .nil => rfl
  | .cons _ _ _ _ _ _ r => by simp only [cv, U.Fo.len, Fo.len, cv_len r]; omega

theorem cv_of : ∀ (m : Nat) (F : U.Fo) (n : Nat), F.size ≤ m → U.Fit U.E F (U.rep (U.E 0) n) → ∃ G : Fo, cv G = F ∧ G.len = n := by
  intro m
  induction m with
  | zero =>
    intro F n hm hf
    have e : F = .nil := U.Fo.len_zero (by have := F.len_le; omega)
    subst e
    cases n with
    | zero => exact ⟨.nil, rfl, rfl⟩
    | succ n =>
      have := hf.len
      rw [U.rep_len] at this
      simp [U.Fo.len, U.E] at this
  | succ m ih =>
    intro F n hm hf
    cases n with
    | zero => exact ⟨.nil, (U.fit_nil hf).symm, rfl⟩
    | succ n =>
      replace hf : U.Fit U.E F ([.i, .i, .t, .s 0] ++ U.rep (U.E 0) n) := hf
      obtain ⟨k, F0, rfl, -, hf⟩ := U.fit_i hf
      obtain ⟨ix, F1, rfl, -, hf⟩ := U.fit_i hf
      obtain ⟨nm, F2, rfl, -, hf⟩ := U.fit_t hf
      obtain ⟨a, q, cap, ks, r, rfl, hks, hfr⟩ := U.fit_s hf
      simp only [U.Fo.size] at hm
      obtain ⟨R, hR0, hR⟩ := ih r n (by omega) hfr
      obtain ⟨K, hK0, hK⟩ := ih ks q (by omega) hks
      subst hR0 hK0
      exact ⟨.cons k ix nm a cap K R, by simp only [cv, hK], by simp only [Fo.len, hR]⟩

theorem cv_fit : ∀ {F : Fo} {k ix : Int} {nm : ByteArray} {a : Option Addr} {cap : Nat} {ks : Fo} {n : Nat}, F = .cons k ix nm a cap ks .nil → U.Fit U.E (cv F) (U.rep (U.E 0) n) → True := fun _ _ => trivial

theorem row_of {W : World} {S : Nat → Prop} : ∀ (F : Fo) (n b o : Nat), U.Fit U.E (cv F) (U.rep (U.E 0) n) → U.Cel W (cv F).vals b o → (cv F).Subs W S → F.Row W S b o
  | .nil, _, _, _, _, _, _ => trivial
  | .cons k ix nm a cap ks r, n, b, o, hf, hc, hs => by
    cases n with
    | zero => exact absurd (U.fit_nil hf) (by simp [cv])
    | succ n =>
      replace hf : U.Fit U.E (cv (.cons k ix nm a cap ks r)) ([.i, .i, .t, .s 0] ++ U.rep (U.E 0) n) := hf
      obtain ⟨h1, h2, h3, h4, h5⟩ := hf
      obtain ⟨⟨g1, g2, g3⟩, g4⟩ := hs
      have c0 := hc 0 _ rfl
      have c1 := hc 1 _ rfl
      have c2 := hc 2 _ rfl
      have c3 := hc 3 _ rfl
      refine ⟨h1, h2, h3, c0, c1, c2, c3, g1, g2, fun hl => ?_, row_of r n b (o + 4) h5 (fun i v hv => ?_) g4⟩
      · obtain ⟨b', o', e, s, cc, ss⟩ := g3 (by rw [cv_len]; omega)
        exact ⟨b', o', e, s, row_of ks ks.len b' o' h4 cc ss⟩
      · have := hc (i + 4) v hv
        rwa [← Nat.add_assoc, Nat.add_right_comm] at this

theorem sl_of {W : World} {S : Nat → Prop} {F : Fo} {a : Option Addr} {cap : Nat} (hf : U.Fit U.E (cv F) (U.rep (U.E 0) F.len)) (h : U.Fo.Sub W S a F.len cap (cv F)) : F.Sl W S a cap :=
  ⟨h.1, h.2.1, fun hl => by
    obtain ⟨b', o', e, s, cc, ss⟩ := h.2.2 (by rw [cv_len]; omega)
    exact ⟨b', o', e, s, row_of F F.len b' o' hf cc ss⟩⟩

theorem of_row {W : World} {S : Nat → Prop} : ∀ (F : Fo) (b o : Nat), F.Row W S b o → U.Cel W (cv F).vals b o ∧ (cv F).Subs W S ∧ U.Fit U.E (cv F) (U.rep (U.E 0) F.len)
  | .nil, _, _, _ => ⟨fun i v hv => by simp [cv, U.Fo.vals] at hv, trivial, trivial⟩
  | .cons k ix nm a cap ks r, b, o, ⟨h1, h2, h3, c0, c1, c2, c3, g1, g2, g3, g4⟩ => by
    obtain ⟨r1, r2, r3⟩ := of_row r b (o + 4) g4
    have hk : U.Fit U.E (cv ks) (U.rep (U.E 0) ks.len) ∧ (0 < (cv ks).len → ∃ b o, a = some ⟨b, o, none⟩ ∧ S b ∧ U.Cel W (cv ks).vals b o ∧ (cv ks).Subs W S) := by
      by_cases hl : 0 < ks.len
      · obtain ⟨b', o', e, s, hr⟩ := g3 hl
        obtain ⟨q1, q2, q3⟩ := of_row ks b' o' hr
        exact ⟨q3, fun _ => ⟨b', o', e, s, q1, q2⟩⟩
      · have e : ks = .nil := by
          cases ks with
          | nil => rfl
          | cons _ _ _ _ _ _ _ => simp [Fo.len] at hl
        subst e
        exact ⟨trivial, fun h => by simp [cv, U.Fo.len] at h⟩
    refine ⟨fun i v hv => ?_, ⟨⟨g1, g2, hk.2⟩, r2⟩, ⟨h1, h2, h3, hk.1, r3⟩⟩
    match i, hv with
    | 0, hv => cases hv; exact c0
    | 1, hv => cases hv; exact c1
    | 2, hv => cases hv; exact c2
    | 3, hv => cases hv; exact c3
    | i + 4, hv =>
      have := r1 i v hv
      rwa [← Nat.add_assoc, Nat.add_right_comm]

theorem of_sl {W : World} {S : Nat → Prop} {F : Fo} {a : Option Addr} {cap : Nat} (h : F.Sl W S a cap) : U.Fo.Sub W S a F.len cap (cv F) ∧ U.Fit U.E (cv F) (U.rep (U.E 0) F.len) := by
  by_cases hl : 0 < F.len
  · obtain ⟨b', o', e, s, hr⟩ := h.2.2 hl
    obtain ⟨q1, q2, q3⟩ := of_row F b' o' hr
    exact ⟨⟨h.1, h.2.1, fun _ => ⟨b', o', e, s, q1, q2⟩⟩, q3⟩
  · have e : F = .nil := by
      cases F with
      | nil => rfl
      | cons _ _ _ _ _ _ _ => simp [Fo.len] at hl
    subst e
    exact ⟨⟨h.1, h.2.1, fun h => by simp [cv, U.Fo.len] at h⟩, trivial⟩

theorem cv_sim : ∀ {F G : Fo}, F.sim G → (cv F).sim (cv G)
  | .nil, .nil, _ => trivial
  | .cons _ _ _ _ _ ks r, .cons _ _ _ _ _ ks' r', ⟨h1, h2, h3, h4, h5⟩ => by
    subst h1 h2 h3
    exact ⟨rfl, rfl, rfl, h4.len, cv_sim h4, cv_sim h5⟩
  | .nil, .cons _ _ _ _ _ _ _, h => h.elim
  | .cons _ _ _ _ _ _ _, .nil, h => h.elim

theorem sim_cv : ∀ {F G : Fo}, (cv F).sim (cv G) → F.sim G
  | .nil, .nil, _ => trivial
  | .cons _ _ _ _ _ ks r, .cons _ _ _ _ _ ks' r', ⟨h1, h2, h3, _, h4, h5⟩ => by
    cases h1
    cases h2
    cases h3
    exact ⟨rfl, rfl, rfl, sim_cv h4, sim_cv h5⟩
  | .nil, .cons _ _ _ _ _ _ _, h => h.elim
  | .cons _ _ _ _ _ _ _, .nil, h => h.elim

theorem cv_blk (a : Option Addr) (F : Fo) : U.blk a (cv F).len = blk a F.len := by
  rw [cv_len]
  cases F with
  | nil => cases a <;> rfl
  | cons _ _ _ _ _ _ r =>
    have : (Fo.cons ‹_› ‹_› ‹_› ‹_› ‹_› ‹_› r).len * 4 = (r.len * 4 + 3) + 1 := by simp only [Fo.len]; omega
    cases a with
    | none => rfl
    | some a => simp only [Fo.len]; rfl

theorem cv_inn : ∀ F : Fo, (cv F).inn = F.inn
  | .nil => rfl
  | .cons _ _ _ a _ ks r => by simp only [cv, U.Fo.inn, Fo.inn, cv_inn ks, cv_inn r, cv_blk]

theorem cv_wt : ∀ F : Fo, F.tot = F.len + (cv F).wt
  | .nil => rfl
  | .cons _ _ nm _ _ ks r => by
    have h1 := cv_wt ks
    have h2 := cv_wt r
    simp only [cv, U.Fo.wt, U.textSize, Fo.tot, Fo.len]
    omega

end Go.Proofs.Yteminjgoepmppaa
