import Derived.Test.YtjlefdalobgdfaaAo
import Derived.Test.YtjlefdalobgdfaaKa
import Derived.Test.YtjlefdalobgdfaaUw
namespace Go.Proofs.Ytjlefdalobgdfaa
open Go.RowKit Go.Joins

/-- Types as rows of cells. -/
def cv : Fo → U.Fo
  | .nil => .nil
  | .cons k ix nm a cap ks r => .v (.int .i64 k) (.v (.int .i64 ix) (.v (.string nm) (.s a ks.len cap (cv ks) (cv r))))

theorem cv_len : ∀ F : Fo, (cv F).len = F.len * 4
  | .nil => rfl
  | .cons _ _ _ _ _ _ r => by simp only [cv, U.Fo.len, Fo.len, cv_len r]; omega

theorem cv_of : ∀ (m : Nat) (F : U.Fo) (n : Nat), F.size ≤ m → U.Fit U.E F (U.rep (U.E 0) n) → ∃ G : Fo, cv G = F ∧ G.len = n := by
  intro m
  induction m with
  | zero =>
    intro F n hm hf
    have e : F = .nil := U.Fo.len_zero (by have := F.len_le; omega)
    subst e
    cases n with
    | zero => exact ⟨.nil, rfl, rfl⟩
    | succ n =>
      have := hf.len
      rw [U.rep_len] at this
      simp [U.Fo.len, U.E] at this
  | succ m ih =>
    intro F n hm hf
    cases n with
    | zero => exact ⟨.nil, (U.fit_nil hf).symm, rfl⟩
    | succ n =>
      replace hf : U.Fit U.E F ([.i, .i, .t, .s 0] ++ U.rep (U.E 0) n) := hf
      obtain ⟨k, F0, rfl, -, hf⟩ := U.fit_i hf
      obtain ⟨ix, F1, rfl, -, hf⟩ := U.fit_i hf
      obtain ⟨nm, F2, rfl, -, hf⟩ := U.fit_t hf
      obtain ⟨a, q, cap, ks, r, rfl, hks, hfr⟩ := U.fit_s hf
      simp only [U.Fo.size] at hm
      obtain ⟨R, hR0, hR⟩ := ih r n (by omega) hfr
      obtain ⟨K, hK0, hK⟩ := ih ks q (by omega) hks
      subst hR0 hK0
      exact ⟨.cons k ix nm a cap K R, by simp only [cv, hK], by simp only [Fo.len, hR]⟩

theorem row_of {W : World} {S : Nat → Prop} : ∀ (F : Fo) (n b o : Nat), U.Fit U.E (cv F) (U.rep (U.E 0) n) → U.Cel W (cv F).vals b o → (cv F).Subs W S → F.Row W S b o
  | .nil, _, _, _, _, _, _ => trivial
  | .cons k ix nm a cap ks r, n, b, o, hf, hc, hs => by
    cases n with
    | zero => exact absurd (U.fit_nil hf) (by simp [cv])
    | succ n =>
      replace hf : U.Fit U.E (cv (.cons k ix nm a cap ks r)) ([.i, .i, .t, .s 0] ++ U.rep (U.E 0) n) := hf
      obtain ⟨h1, h2, h3, h4, h5⟩ := hf
      obtain ⟨⟨g1, g2, g3⟩, g4⟩ := hs
      have c0 := hc 0 _ rfl
      have c1 := hc 1 _ rfl
      have c2 := hc 2 _ rfl
      have c3 := hc 3 _ rfl
      refine ⟨h1, h2, h3, c0, c1, c2, c3, g1, g2, fun hl => ?_, row_of r n b (o + 4) h5 (fun i v hv => ?_) g4⟩
      · obtain ⟨b', o', e, s, cc, ss⟩ := g3 (by rw [cv_len]; omega)
        exact ⟨b', o', e, s, row_of ks ks.len b' o' h4 cc ss⟩
      · have := hc (i + 4) v hv
        rwa [← Nat.add_assoc, Nat.add_right_comm] at this

theorem sl_of {W : World} {S : Nat → Prop} {F : Fo} {a : Option Addr} {cap : Nat} (hf : U.Fit U.E (cv F) (U.rep (U.E 0) F.len)) (h : U.Fo.Sub W S a F.len cap (cv F)) : F.Sl W S a cap :=
  ⟨h.1, h.2.1, fun hl => by
    obtain ⟨b', o', e, s, cc, ss⟩ := h.2.2 (by rw [cv_len]; omega)
    exact ⟨b', o', e, s, row_of F F.len b' o' hf cc ss⟩⟩

theorem of_row {W : World} {S : Nat → Prop} : ∀ (F : Fo) (b o : Nat), F.Row W S b o → U.Cel W (cv F).vals b o ∧ (cv F).Subs W S ∧ U.Fit U.E (cv F) (U.rep (U.E 0) F.len)
  | .nil, _, _, _ => ⟨fun i v hv => by simp [cv, U.Fo.vals] at hv, trivial, trivial⟩
  | .cons k ix nm a cap ks r, b, o, ⟨h1, h2, h3, c0, c1, c2, c3, g1, g2, g3, g4⟩ => by
    obtain ⟨r1, r2, r3⟩ := of_row r b (o + 4) g4
    have hk : U.Fit U.E (cv ks) (U.rep (U.E 0) ks.len) ∧ (0 < (cv ks).len → ∃ b o, a = some ⟨b, o, none⟩ ∧ S b ∧ U.Cel W (cv ks).vals b o ∧ (cv ks).Subs W S) := by
      by_cases hl : 0 < ks.len
      · obtain ⟨b', o', e, s, hr⟩ := g3 hl
        obtain ⟨q1, q2, q3⟩ := of_row ks b' o' hr
        exact ⟨q3, fun _ => ⟨b', o', e, s, q1, q2⟩⟩
      · have e : ks = .nil := by
          cases ks with
          | nil => rfl
          | cons _ _ _ _ _ _ _ => simp [Fo.len] at hl
        subst e
        exact ⟨trivial, fun h => by simp [cv, U.Fo.len] at h⟩
    refine ⟨fun i v hv => ?_, ⟨⟨g1, g2, hk.2⟩, r2⟩, ⟨h1, h2, h3, hk.1, r3⟩⟩
    match i, hv with
    | 0, hv => cases hv; exact c0
    | 1, hv => cases hv; exact c1
    | 2, hv => cases hv; exact c2
    | 3, hv => cases hv; exact c3
    | i + 4, hv =>
      have := r1 i v hv
      rwa [← Nat.add_assoc, Nat.add_right_comm]

theorem of_sl {W : World} {S : Nat → Prop} {F : Fo} {a : Option Addr} {cap : Nat} (h : F.Sl W S a cap) : U.Fo.Sub W S a F.len cap (cv F) ∧ U.Fit U.E (cv F) (U.rep (U.E 0) F.len) := by
  by_cases hl : 0 < F.len
  · obtain ⟨b', o', e, s, hr⟩ := h.2.2 hl
    obtain ⟨q1, q2, q3⟩ := of_row F b' o' hr
    exact ⟨⟨h.1, h.2.1, fun _ => ⟨b', o', e, s, q1, q2⟩⟩, q3⟩
  · have e : F = .nil := by
      cases F with
      | nil => rfl
      | cons _ _ _ _ _ _ _ => simp [Fo.len] at hl
    subst e
    exact ⟨⟨h.1, h.2.1, fun h => by simp [cv, U.Fo.len] at h⟩, trivial⟩

theorem cv_sim : ∀ {F G : Fo}, F.sim G → (cv F).sim (cv G)
  | .nil, .nil, _ => trivial
  | .cons _ _ _ _ _ ks r, .cons _ _ _ _ _ ks' r', ⟨h1, h2, h3, h4, h5⟩ => by
    subst h1 h2 h3
    exact ⟨rfl, rfl, rfl, h4.len, cv_sim h4, cv_sim h5⟩
  | .nil, .cons _ _ _ _ _ _ _, h => h.elim
  | .cons _ _ _ _ _ _ _, .nil, h => h.elim

theorem sim_cv : ∀ {F G : Fo}, (cv F).sim (cv G) → F.sim G
  | .nil, .nil, _ => trivial
  | .cons _ _ _ _ _ ks r, .cons _ _ _ _ _ ks' r', ⟨h1, h2, h3, _, h4, h5⟩ => by
    cases h1
    cases h2
    cases h3
    exact ⟨rfl, rfl, rfl, sim_cv h4, sim_cv h5⟩
  | .nil, .cons _ _ _ _ _ _ _, h => h.elim
  | .cons _ _ _ _ _ _ _, .nil, h => h.elim

theorem cv_blk (a : Option Addr) (F : Fo) : U.blk a (cv F).len = blk a F.len := by
  rw [cv_len]
  cases F with
  | nil => cases a <;> rfl
  | cons _ _ _ _ _ _ r =>
    have : (Fo.cons ‹_› ‹_› ‹_› ‹_› ‹_› ‹_› r).len * 4 = (r.len * 4 + 3) + 1 := by simp only [Fo.len]; omega
    cases a with
    | none => rfl
    | some a => simp only [Fo.len]; rfl

theorem cv_inn : ∀ F : Fo, (cv F).inn = F.inn
  | .nil => rfl
  | .cons _ _ _ a _ ks r => by simp only [cv, U.Fo.inn, Fo.inn, cv_inn ks, cv_inn r, cv_blk]

theorem cv_wt : ∀ F : Fo, F.tot = F.len + (cv F).wt
  | .nil => rfl
  | .cons _ _ nm _ _ ks r => by
    have h1 := cv_wt ks
    have h2 := cv_wt r
    simp only [cv, U.Fo.wt, U.textSize, Fo.tot, Fo.len]
    omega

theorem hEM : ∀ k, (U.E k).length ≤ 8 := by
  intro k
  match k with
  | 0 | 1 | 2 | 3 => simp [U.E]
  | _ + 4 => simp [U.E]

def ucv : U.Fo → Fo
  | .v (.int _ k) (.v (.int _ ix) (.v (.string nm) (.s a _ cap ks r))) => .cons k ix nm a cap (ucv ks) (ucv r)
  | _ => .nil

theorem ucv_cv : ∀ F : Fo, ucv (cv F) = F
  | .nil => rfl
  | .cons k ix nm a cap ks r => by simp only [cv, ucv, ucv_cv ks, ucv_cv r]

theorem nd_own {d : Nd} {W : World} {lo : Nat} (ho : d.Ok W (fun c => lo ≤ c ∧ c < W.heap.size)) (hn : (blk d.a d.ks.len ++ d.ks.inn).Nodup) (hl : Live W (blk d.a d.ks.len ++ d.ks.inn)) : U.Own lo W (cv d.fo) := by
  obtain ⟨h1, -⟩ := of_sl ho.sl
  have e : (cv d.fo).inn = blk d.a d.ks.len ++ d.ks.inn := by rw [cv_inn]; simp only [Nd.fo, Fo.inn, List.append_nil]
  exact ⟨⟨h1, trivial⟩, by rw [e]; exact hn, by rw [e]; exact hl⟩

theorem ty_of {F : U.Fo} (hf : U.Fit U.E F (U.E 0)) : ∃ (k ix : Int) (nm : ByteArray) (a : Option Addr) (cap : Nat) (G : Fo), F = .v (.int .i64 k) (.v (.int .i64 ix) (.v (.string nm) (.s a G.len cap (cv G) .nil))) ∧
    (Lit.int .i64 k).wf = true ∧ (Lit.int .i64 ix).wf = true ∧ nm.size ≤ maxLen ∧ U.Fit U.E (cv G) (U.rep (U.E 0) G.len) := by
  replace hf : U.Fit U.E F [.i, .i, .t, .s 0] := hf
  obtain ⟨k, F2, rfl, hk, hf⟩ := U.fit_i hf
  obtain ⟨ix, F3, rfl, hix, hf⟩ := U.fit_i hf
  obtain ⟨nm, F4, rfl, hnm, hf⟩ := U.fit_t hf
  obtain ⟨a, n, cap, K, F5, rfl, hK, hf⟩ := U.fit_s hf
  obtain rfl := U.fit_nil hf
  obtain ⟨G, rfl, rfl⟩ := cv_of _ K n (Nat.le_refl _) hK
  exact ⟨k, ix, nm, a, cap, G, rfl, hk, hix, hnm, hK⟩

theorem sl_fit {F : U.Fo} {e : Nat} (hf : U.Fit U.E F [.s e]) : ∃ (a : Option Addr) (n cap : Nat) (K : U.Fo), F = .s a n cap K .nil ∧ U.Fit U.E K (U.rep (U.E e) n) := by
  obtain ⟨a, n, cap, K, F5, rfl, hK, hf⟩ := U.fit_s hf
  obtain rfl := U.fit_nil hf
  exact ⟨a, n, cap, K, rfl, hK⟩

theorem U.Fo.sim_refl' : ∀ F : U.Fo, F.sim F
  | .nil => trivial
  | .v _ r => ⟨rfl, U.Fo.sim_refl' r⟩
  | .s _ _ _ ks r => ⟨rfl, U.Fo.sim_refl' ks, U.Fo.sim_refl' r⟩

/-- Binds out of a row of cells. -/
def bdsOf : U.Fo → List Bd
  | .v (.int _ id) (.v (.int _ k) (.v (.int _ ix) (.v (.string nm) (.s a _ cap ks r)))) => ⟨id, ⟨k, ix, nm, a, cap, ucv ks⟩⟩ :: bdsOf r
  | _ => []

theorem bd_of {n : Nat} {F : U.Fo} (h : U.Fit U.E F (U.rep (U.E 1) (n + 1))) : ∃ (id k ix : Int) (nm : ByteArray) (a : Option Addr) (cap : Nat) (G : Fo) (r : U.Fo), F = .v (.int .i64 id) (.v (.int .i64 k) (.v (.int .i64 ix) (.v (.string nm) (.s a G.len cap (cv G) r)))) ∧ (Lit.int .i64 id).wf = true ∧ (Lit.int .i64 k).wf = true ∧ (Lit.int .i64 ix).wf = true ∧ nm.size ≤ maxLen ∧ U.Fit U.E (cv G) (U.rep (U.E 0) G.len) ∧ U.Fit U.E r (U.rep (U.E 1) n) := by
  replace h : U.Fit U.E F ([.i, .i, .i, .t, .s 0] ++ U.rep (U.E 1) n) := h
  obtain ⟨id, F0, rfl, h0, h⟩ := U.fit_i h
  obtain ⟨k, F1, rfl, h1, h⟩ := U.fit_i h
  obtain ⟨ix, F2, rfl, h2, h⟩ := U.fit_i h
  obtain ⟨nm, F3, rfl, h3, h⟩ := U.fit_t h
  obtain ⟨a, q, cap, K, r, rfl, hK, h5⟩ := U.fit_s h
  obtain ⟨G, rfl, rfl⟩ := cv_of _ K q (Nat.le_refl _) hK
  exact ⟨id, k, ix, nm, a, cap, G, r, rfl, h0, h1, h2, h3, hK, h5⟩

theorem bds_len : ∀ (n : Nat) (F : U.Fo), U.Fit U.E F (U.rep (U.E 1) n) → (bdsOf F).length = n ∧ ∀ x ∈ bdsOf F, x.d.nm.size + x.d.ks.tot ≤ F.wt ∧ (Lit.int .i64 x.d.k).wf = true ∧ (Lit.int .i64 x.d.ix).wf = true ∧ x.d.nm.size ≤ maxLen ∧ U.Fit U.E (cv x.d.ks) (U.rep (U.E 0) x.d.ks.len)
  | 0, F, h => by
    obtain rfl := U.fit_nil h
    exact ⟨rfl, fun x hx => by simp [bdsOf] at hx⟩
  | n + 1, F, h => by
    obtain ⟨id, k, ix, nm, a, cap, G, r, rfl, h0, h1, h2, h3, hK, h⟩ := bd_of h
    obtain ⟨r1, r2⟩ := bds_len n r h
    have hw := cv_wt G
    refine ⟨by simp only [bdsOf, List.length_cons, r1], fun x hx => ?_⟩
    simp only [bdsOf, ucv_cv] at hx
    simp only [U.Fo.wt, U.textSize]
    rcases List.mem_cons.1 hx with rfl | hx
    · exact ⟨by show nm.size + G.tot ≤ _; omega, h1, h2, h3, hK⟩
    · exact ⟨by have := (r2 x hx).1; omega, (r2 x hx).2⟩

theorem bat_of {W : World} {nb : Nat} : ∀ (n : Nat) (F : U.Fo) (b o : Nat), U.Fit U.E F (U.rep (U.E 1) n) → U.Cel W F.vals b o → F.Subs W (fun c => c < nb) → ∀ (i : Nat) (x : Bd), (bdsOf F)[i]? = some x → x.At W nb b (o + i * 5)
  | 0, F, b, o, h, _, _, i, x, hx => by
    obtain rfl := U.fit_nil h
    simp [bdsOf] at hx
  | n + 1, F, b, o, h, hc, hs, i, x, hx => by
    obtain ⟨id, k, ix, nm, a, cap, G, r, rfl, h0, h1, h2, h3, hK, h⟩ := bd_of h
    obtain ⟨g1, g2⟩ := hs
    simp only [bdsOf, ucv_cv] at hx
    cases i with
    | zero =>
      simp only [List.getElem?_cons_zero, Option.some.injEq] at hx
      subst hx
      simp only [Nat.zero_mul, Nat.add_zero]
      exact ⟨h0, hc 0 _ rfl, ⟨h1, h2, h3, hc 1 _ rfl, hc 2 _ rfl, hc 3 _ rfl, hc 4 _ rfl, sl_of hK g1⟩⟩
    | succ i =>
      simp only [List.getElem?_cons_succ] at hx
      have := bat_of n r b (o + 5) h (fun j v hv => by have := hc (j + 5) v hv; rwa [← Nat.add_assoc, Nat.add_right_comm] at this) g2 i x hx
      rw [show o + (i + 1) * 5 = o + 5 + i * 5 by omega]
      exact this

theorem bl_of {W : World} {nb n cap : Nat} {a : Option Addr} {F : U.Fo} (hf : U.Fit U.E F (U.rep (U.E 1) n)) (h : U.Fo.Sub W (fun c => c < nb) a n cap F) : BL W nb a n cap (bdsOf F) := by
  obtain ⟨r1, -⟩ := bds_len n F hf
  refine ⟨r1, h.1, h.2.1, fun hl => ?_⟩
  have hlen : 0 < F.len := by
    cases n with
    | zero => omega
    | succ n =>
      obtain ⟨id, k, ix, nm, a, cap, G, r, rfl, -⟩ := bd_of hf
      simp [U.Fo.len]
  obtain ⟨b, o, e, s, c, ss⟩ := h.2.2 hlen
  exact ⟨b, o, e, s, bat_of n F b o hf c ss⟩

/-- Binds of any make. -/
def BSim : List Bd → List Bd → Prop
  | [], [] => True
  | x :: A, y :: B => x.id = y.id ∧ x.d.fo.sim y.d.fo ∧ BSim A B
  | _, _ => False

theorem bds_sim : ∀ {n : Nat} {F G : U.Fo}, U.Fit U.E F (U.rep (U.E 1) n) → G.sim F → BSim (bdsOf G) (bdsOf F)
  | 0, F, G, hf, h => by
    obtain rfl := U.fit_nil hf
    obtain rfl := U.Fo.sim_nil h
    trivial
  | n + 1, F, G, hf, h => by
    obtain ⟨id', k', ix', nm', a', cap', H, r', rfl, -⟩ := bd_of (h.fit hf)
    obtain ⟨id, k, ix, nm, a, cap, K, r, rfl, -, -, -, -, -, hr⟩ := bd_of hf
    obtain ⟨e1, e2, e3, e4, -, e5, e6⟩ := h
    cases e1
    cases e2
    cases e3
    cases e4
    simp only [bdsOf, ucv_cv]
    exact ⟨rfl, ⟨rfl, rfl, rfl, sim_cv e5, trivial⟩, bds_sim hr e6⟩

theorem look_sim {i : Int} : ∀ {A B : List Bd}, BSim A B → (lookB i A = none ∧ lookB i B = none) ∨ ∃ d e, lookB i A = some d ∧ lookB i B = some e ∧ d.fo.sim e.fo
  | [], [], _ => .inl ⟨rfl, rfl⟩
  | [], _ :: _, h => h.elim
  | _ :: _, [], h => h.elim
  | x :: A, y :: B, ⟨h1, h2, h3⟩ => by
    simp only [lookB, h1]
    by_cases e : y.id = i
    · exact .inr ⟨x.d, y.d, by rw [if_pos e], by rw [if_pos e], h2⟩
    · rw [if_neg e, if_neg e]
      exact look_sim h3

theorem sb_sim {A B : List Bd} (h : BSim A B) (k ix : Int) : (sb A k ix = none ∧ sb B k ix = none) ∨ ∃ d e, sb A k ix = some d ∧ sb B k ix = some e ∧ d.fo.sim e.fo := by
  unfold sb
  split
  · exact look_sim h
  · exact .inl ⟨rfl, rfl⟩

theorem ap_sim {A B : List Bd} (h : BSim A B) : ∀ {F G : Fo}, F.sim G → (F.ap A).sim (G.ap B) ∧ ∀ d, F.gd A d ↔ G.gd B d
  | .nil, .nil, _ => ⟨trivial, fun _ => Iff.rfl⟩
  | .nil, .cons _ _ _ _ _ _ _, h' => h'.elim
  | .cons _ _ _ _ _ _ _, .nil, h' => h'.elim
  | .cons k ix nm a cap ks r, .cons k' ix' nm' a' cap' ks' r', ⟨h1, h2, h3, h4, h5⟩ => by
    subst h1 h2 h3
    obtain ⟨r1, r2⟩ := ap_sim h h5
    obtain ⟨k1, k2⟩ := ap_sim h h4
    simp only [Fo.ap, Fo.gd]
    rcases sb_sim h k ix with ⟨e1, e2⟩ | ⟨d, e, e1, e2, hs⟩
    · rw [e1, e2]
      exact ⟨⟨rfl, rfl, rfl, k1, r1⟩, fun x => by simp only [k2, r2]⟩
    · rw [e1, e2]
      obtain ⟨s1, s2, s3, s4, -⟩ := id hs
      refine ⟨⟨s1, s2, s3, s4, r1⟩, fun x => ?_⟩
      simp only [r2]
      exact and_congr ⟨fun g => hs.good _ g, fun g => hs.symm.good _ g⟩ Iff.rfl

theorem allB_sim : ∀ {A B : List Bd}, BSim A B → allB A = allB B
  | [], [], _ => rfl
  | [], _ :: _, h => h.elim
  | _ :: _, [], h => h.elim
  | x :: A, y :: B, ⟨_, h2, h3⟩ => by
    obtain ⟨s1, s2, s3, s4, -⟩ := h2
    simp only [allB, allB_sim h3]
    rw [show x.d.k = y.d.k from s1, show x.d.ix = y.d.ix from s2, show x.d.nm = y.d.nm from s3, fltB_sim s4]

theorem resA_sim {A B : List Bd} (h : BSim A B) {k ix : Int} {nm : ByteArray} {F G : Fo} (hs : F.sim G) : (resA A k ix nm F).sim (resA B k ix nm G) := by
  obtain ⟨h1, h2⟩ := ap_sim h (F := .cons k ix nm none 0 F .nil) (G := .cons k ix nm none 0 G .nil) ⟨rfl, rfl, rfl, hs, trivial⟩
  have e : okA A k ix nm F ↔ okA B k ix nm G := by
    unfold okA
    rw [fltB_sim hs, allB_sim h, h2 1, Fo.cn_eq, Fo.cn_eq, h1.size]
  by_cases o : okA A k ix nm F
  · rw [resA_pos o, resA_pos (e.1 o)]
    exact h1
  · rw [resA_neg o, resA_neg (fun x => o (e.2 x))]
    exact Fo.sim.refl _

/-- The answer as a row of cells. -/
noncomputable def aU : U.Fo → U.Fo → U.Fo
  | .s _ _ _ bk _, .v (.int _ k) (.v (.int _ ix) (.v (.string nm) (.s _ _ _ ks _))) => cv (resA (bdsOf bk) k ix nm (ucv ks))
  | _, _ => .nil

theorem aU_sim {F0 F1 G0 G1 : U.Fo} (h0 : U.Fit U.E F0 [.s 1]) (h1 : U.Fit U.E F1 (U.E 0)) (s0 : G0.sim F0) (s1 : G1.sim F1) : (aU G0 G1).sim (aU F0 F1) := by
  obtain ⟨k', ix', nm', a', cap', H, rfl, -⟩ := ty_of (s1.fit h1)
  obtain ⟨k, ix, nm, a, cap, K, rfl, -⟩ := ty_of h1
  obtain ⟨p', n', c', Q', rfl, -⟩ := sl_fit (s0.fit h0)
  obtain ⟨p, n, c, Q, rfl, hQ⟩ := sl_fit h0
  obtain ⟨e1, e2, e3, -, e4, -⟩ := s1
  cases e1
  cases e2
  cases e3
  simp only [aU, ucv_cv]
  exact cv_sim (resA_sim (bds_sim hQ s0.2.1) (sim_cv e4))

theorem ap_len (L : List Bd) : ∀ F : Fo, (F.ap L).len = F.len
  | .nil => rfl
  | .cons k ix _ _ _ _ r => by
    simp only [Fo.ap]
    split <;> simp only [Fo.len, ap_len L r]

theorem ap_fit {L : List Bd} (hL : ∀ x ∈ L, (Lit.int .i64 x.d.k).wf = true ∧ (Lit.int .i64 x.d.ix).wf = true ∧ x.d.nm.size ≤ maxLen ∧ U.Fit U.E (cv x.d.ks) (U.rep (U.E 0) x.d.ks.len)) : ∀ (F : Fo), U.Fit U.E (cv F) (U.rep (U.E 0) F.len) → U.Fit U.E (cv (F.ap L)) (U.rep (U.E 0) F.len)
  | .nil, _ => trivial
  | .cons k ix nm a cap ks r, hf => by
    replace hf : U.Fit U.E (cv (.cons k ix nm a cap ks r)) ([.i, .i, .t, .s 0] ++ U.rep (U.E 0) r.len) := hf
    obtain ⟨f1, f2, f3, f4, f5⟩ := hf
    have r1 := ap_fit hL r f5
    have k1 := ap_fit hL ks f4
    simp only [Fo.ap]
    cases e : sb L k ix with
    | some x =>
      obtain ⟨y, hy, rfl⟩ := sb_mem e
      obtain ⟨g1, g2, g3, g4⟩ := hL y hy
      exact ⟨g1, g2, g3, g4, r1⟩
    | none =>
      refine ⟨f1, f2, f3, ?_, r1⟩
      rw [ap_len]
      exact k1

theorem cv_ct : ∀ F : Fo, (cv F).ct ≤ 4 * F.size
  | .nil => Nat.zero_le _
  | .cons _ _ _ _ _ ks r => by
    have h1 := cv_ct ks
    have h2 := cv_ct r
    simp only [cv, U.Fo.ct, Fo.size]
    omega

theorem aU_fit {F0 F1 : U.Fo} (h0 : U.Fit U.E F0 [.s 1]) (h1 : U.Fit U.E F1 (U.E 0)) : U.Fit U.E (aU F0 F1) (U.E 0) ∧ (aU F0 F1).sct ≤ 1048577 := by
  obtain ⟨k, ix, nm, a, cap, G, rfl, hk, hix, hnm, hG⟩ := ty_of h1
  obtain ⟨p, n, c, Q, rfl, hQ⟩ := sl_fit h0
  obtain ⟨r1, r2⟩ := bds_len n Q hQ
  simp only [aU, ucv_cv]
  by_cases o : okA (bdsOf Q) k ix nm G
  · rw [resA_pos o]
    refine ⟨ap_fit (fun x hx => (r2 x hx).2) (.cons k ix nm none 0 G .nil) ⟨hk, hix, hnm, hG, trivial⟩, ?_⟩
    have hs := o.2.2.2
    rw [Fo.cn_eq] at hs
    obtain ⟨k', ix', nm', a', cap', ks', hap⟩ := ap_one (bdsOf Q) k ix nm none 0 G
    rw [hap] at hs ⊢
    have := cv_ct ks'
    simp only [cv, U.Fo.sct, Fo.size] at hs ⊢
    omega
  · rw [resA_neg o]
    exact ⟨⟨by decide, by decide, by decide, trivial, trivial⟩, by simp [zT, cv, U.Fo.sct, U.Fo.ct]⟩

theorem i_Apply (a0 : Option Addr) (n0 c0 : Nat) (K0 : U.Fo) (F1 : U.Fo) (W : World) (h0 : U.Fit U.E (.s a0 n0 c0 K0 .nil) [.s 1]) (h1 : U.Fit U.E F1 (U.E 0))
    (w0 : U.Fo.wt (.s a0 n0 c0 K0 .nil) ≤ 1048576) (w1 : F1.wt ≤ 1048576) (s0 : U.Fo.Subs W (fun c => c < W.heap.size) (.s a0 n0 c0 K0 .nil)) (s1 : F1.Subs W (fun c => c < W.heap.size)) :
    Calls Try.prog 25 #[.slice a0 n0 c0, .agg F1.vals.toArray] W fun e W' => ∃ R : U.Fo, e = .returned (.agg R.vals.toArray) ∧ R.sim (aU (.s a0 n0 c0 K0 .nil) F1) ∧ Below W.heap.size W W' ∧ U.Own W.heap.size W' R := by
  obtain ⟨k, ix, nm, a, cap, G, rfl, hk, hix, hnm, hG⟩ := ty_of h1
  have hsl : G.Sl W (fun b => b < W.heap.size) a cap := sl_of hG s1.1
  have hw := cv_wt G
  simp only [U.Fo.wt, U.textSize] at w0 w1
  obtain ⟨r1, r2⟩ := bds_len n0 K0 h0.1
  have h := iapply a0 n0 c0 (bdsOf K0) k ix nm a cap G W (bl_of h0.1 s0.1) hsl hk hix hnm (by omega) (fun x hx => by have := (r2 x hx).1; omega)
  refine h.mono ?_
  rintro e W' ⟨v, rfl, d, rfl, sd, od, nd, ld, bd⟩
  refine ⟨cv d.fo, rfl, ?_, bd, nd_own od nd ld⟩
  simp only [aU, ucv_cv]
  exact cv_sim sd

theorem m_Apply (a0 : Option Addr) (n0 c0 : Nat) (K0 : U.Fo) (F1 : U.Fo) (W : World) (h0 : U.Fit U.E (.s a0 n0 c0 K0 .nil) [.s 1]) (h1 : U.Fit U.E F1 (U.E 0))
    (_w0 : U.Fo.wt (.s a0 n0 c0 K0 .nil) ≤ 1048576) (_w1 : F1.wt ≤ 1048576) (s0 : U.Fo.Subs W (fun c => c < W.heap.size) (.s a0 n0 c0 K0 .nil)) (s1 : F1.Subs W (fun c => c < W.heap.size)) :
    Calls Try.prog 23 #[.slice a0 n0 c0, .agg F1.vals.toArray] W fun e W' => ∃ R : U.Fo, e = .returned (.agg R.vals.toArray) ∧ R.sim (aU (.s a0 n0 c0 K0 .nil) F1) ∧ Below W.heap.size W W' ∧ R.Subs W' (fun c => c < W'.heap.size) := by
  obtain ⟨k, ix, nm, a, cap, G, rfl, hk, hix, hnm, hG⟩ := ty_of h1
  have hsl : G.Sl W (fun b => b < W.heap.size) a cap := sl_of hG s1.1
  have h := sapply a0 n0 c0 (bdsOf K0) k ix nm a cap G W (bl_of h0.1 s0.1) hsl hk hix hnm
  refine h.mono ?_
  rintro e W' ⟨d, rfl, sd, od, bd⟩
  obtain ⟨g1, -⟩ := of_sl od.sl
  refine ⟨cv d.fo, rfl, ?_, bd, ⟨U.Fo.Sub.mono (fun c hc => hc.2) g1, trivial⟩⟩
  simp only [aU, ucv_cv]
  exact cv_sim sd

end Go.Proofs.Ytjlefdalobgdfaa

namespace Go.Proofs.Ytjlefdalobgdfaa
open Go.RowKit Go.Joins

theorem m_Apply2 (a0 : Option Addr) (n0 c0 : Nat) (K0 : U.Fo) (F1 : U.Fo) (W : World) (h0 : U.Fit U.E (.s a0 n0 c0 K0 .nil) [.s 1]) (h1 : U.Fit U.E F1 (U.E 0))
    (_w0 : U.Fo.wt (.s a0 n0 c0 K0 .nil) ≤ 1048576) (_w1 : F1.wt ≤ 1048576) (s0 : U.Fo.Subs W (fun c => c < W.heap.size) (.s a0 n0 c0 K0 .nil)) (s1 : F1.Subs W (fun c => c < W.heap.size)) :
    Calls Try.prog 23 #[.slice a0 n0 c0, .agg F1.vals.toArray] W fun e W' => ∃ R : U.Fo, e = .returned (.agg R.vals.toArray) ∧ R.sim (aU (.s a0 n0 c0 K0 .nil) F1) ∧ Below W.heap.size W W' ∧ R.Subs W' (fun c => W.heap.size ≤ c ∧ c < W'.heap.size) := by
  obtain ⟨k, ix, nm, a, cap, G, rfl, hk, hix, hnm, hG⟩ := ty_of h1
  have hsl : G.Sl W (fun b => b < W.heap.size) a cap := sl_of hG s1.1
  have h := sapply a0 n0 c0 (bdsOf K0) k ix nm a cap G W (bl_of h0.1 s0.1) hsl hk hix hnm
  refine h.mono ?_
  rintro e W' ⟨d, rfl, sd, od, bd⟩
  obtain ⟨g1, -⟩ := of_sl od.sl
  refine ⟨cv d.fo, rfl, ?_, bd, ⟨g1, trivial⟩⟩
  simp only [aU, ucv_cv]
  exact cv_sim sd

end Go.Proofs.Ytjlefdalobgdfaa

namespace Go.Proofs.Ytjlefdalobgdfaa.U
open Go.RowKit Go.Joins

theorem Law.late {W cur wc wx : World} {bs : List (Nat × List Value)} {fs : List Fo} {os : List (Nat × Fo)} (h : Law W bs fs os cur) (b : Below cur.heap.size cur wc) {T : Nat} (hT : cur.heap.size ≤ T) (k : Kept (fun c => c ≠ T) wc wx) {L : List Value} (hb : Bx wx T L) {R : Fo} (hR : R.Subs wc (fun c => c ≠ T ∧ c < wc.heap.size)) : Law W ((T, L) :: bs) (R :: fs) [] wx := by
  have hz := h.be.size
  have h1 : Law W bs fs [] wc := (h.below b).drop (fun _ x => x) (fun _ x => x) (fun p hp => absurd hp List.not_mem_nil)
  have h2 : Law W bs fs [] wx := h1.kept k (fun c hc => by omega) (fun p hp => by have := (h.bx p hp).lt; omega) (fun F hF c hc => by have := (h.fo F hF).inn_of c hc; omega) (fun p hp => absurd hp List.not_mem_nil)
  have h3 := h2.add (F := R) ((hR.kept k (fun c hc => hc)).mono (fun c hc => Nat.lt_of_lt_of_le hc.2 k.size))
  refine ⟨h3.be, fun p hp => ?_, h3.fo, h3.ow⟩
  rcases List.mem_cons.1 hp with rfl | hp
  · exact hb
  · exact h3.bx p hp

theorem sub_ne {R : Fo} {U V : World} {T : Nat} {L : List Value} (hb : Bx U T L) (h : R.Subs V (fun c => U.heap.size ≤ c ∧ c < V.heap.size)) : R.Subs V (fun c => c ≠ T ∧ c < V.heap.size) := h.mono (fun c hc => ⟨by have := hb.lt; omega, hc.2⟩)

theorem sub_at {R : Fo} {U V : World} (h : R.Subs V (fun c => U.heap.size ≤ c ∧ c < V.heap.size)) : R.Subs V (fun c => c ≠ V.heap.size ∧ c < V.heap.size) := h.mono (fun c hc => ⟨by omega, hc.2⟩)

theorem fill4 {w : World} {T : Nat} {z0 z1 z2 z3 : Value} (h : Bx w T [z0, z1, z2, z3]) (a b c d : Value) : Bx ((((w.setCell ⟨T, 0, none⟩ a).setCell ⟨T, 1, none⟩ b).setCell ⟨T, 2, none⟩ c).setCell ⟨T, 3, none⟩ d) T [a, b, c, d] :=
  (((h.put 0 a (by simp)).put 1 b (by simp)).put 2 c (by simp)).put 3 d (by simp)

theorem keep4 (w : World) (T : Nat) (a b c d : Value) : Kept (fun x => x ≠ T) w ((((w.setCell ⟨T, 0, none⟩ a).setCell ⟨T, 1, none⟩ b).setCell ⟨T, 2, none⟩ c).setCell ⟨T, 3, none⟩ d) :=
  (((Kept.setCell _ _ _ _ (by simp)).trans (Kept.setCell _ _ _ _ (by simp))).trans (Kept.setCell _ _ _ _ (by simp))).trans (Kept.setCell _ _ _ _ (by simp))

end Go.Proofs.Ytjlefdalobgdfaa.U
