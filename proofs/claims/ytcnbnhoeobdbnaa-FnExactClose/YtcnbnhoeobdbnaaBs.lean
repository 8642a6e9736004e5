import Derived.Test.YtcnbnhoeobdbnaaWo
import Derived.Test.YtcnbnhoeobdbnaaKa
import Derived.Test.YtcnbnhoeobdbnaaUw
import Derived.Test.YtcnbnhoeobdbnaaSp
namespace Go.Proofs.Ytcnbnhoeobdbnaa
open Go.RowKit Go.Joins

/-- Types as rows of cells. -/
def cv : Fo → U.Fo
  | .nil => .nil
  | .cons k ix nm a cap ks r => .v (.int .i64 k) (.v (.int .i64 ix) (.v (.string nm) (.s a ks.len cap (cv ks) (cv r))))

theorem cv_len : ∀ F : Fo, (cv F).len = F.len * 4
  | .nil => rfl
  | .cons _ _ _ _ _ _ r => by simp only [cv, U.Fo.len, Fo.len, cv_len r]; omega

theorem cv_of : ∀ (m : Nat) (F : U.Fo) (n : Nat), F.size ≤ m → U.Fit U.E F (U.rep (U.E 0) n) → ∃ G : Fo, cv G = F ∧ G.len = n := by
  intro m
  induction m with
  | zero =>
    intro F n hm hf
    have e : F = .nil := U.Fo.len_zero (by have := F.len_le; omega)
    subst e
    cases n with
    | zero => exact ⟨.nil, rfl, rfl⟩
    | succ n =>
      have := hf.len
      rw [U.rep_len] at this
      simp [U.Fo.len, U.E] at this
  | succ m ih =>
    intro F n hm hf
    cases n with
    | zero => exact ⟨.nil, (U.fit_nil hf).symm, rfl⟩
    | succ n =>
      replace hf : U.Fit U.E F ([.i, .i, .t, .s 0] ++ U.rep (U.E 0) n) := hf
      obtain ⟨k, F0, rfl, -, hf⟩ := U.fit_i hf
      obtain ⟨ix, F1, rfl, -, hf⟩ := U.fit_i hf
      obtain ⟨nm, F2, rfl, -, hf⟩ := U.fit_t hf
      obtain ⟨a, q, cap, ks, r, rfl, hks, hfr⟩ := U.fit_s hf
      simp only [U.Fo.size] at hm
      obtain ⟨R, hR0, hR⟩ := ih r n (by omega) hfr
      obtain ⟨K, hK0, hK⟩ := ih ks q (by omega) hks
      subst hR0 hK0
      exact ⟨.cons k ix nm a cap K R, by simp only [cv, hK], by simp only [Fo.len, hR]⟩

theorem cv_fit : ∀ {F : Fo} {k ix : Int} {nm : ByteArray} {a : Option Addr} {cap : Nat} {ks : Fo} {n : Nat}, F = .cons k ix nm a cap ks .nil → U.Fit U.E (cv F) (U.rep (U.E 0) n) → True := fun _ _ => trivial

theorem row_of {W : World} {S : Nat → Prop} : ∀ (F : Fo) (n b o : Nat), U.Fit U.E (cv F) (U.rep (U.E 0) n) → U.Cel W (cv F).vals b o → (cv F).Subs W S → F.Row W S b o
  | .nil, _, _, _, _, _, _ => trivial
  | .cons k ix nm a cap ks r, n, b, o, hf, hc, hs => by
    cases n with
    | zero => exact absurd (U.fit_nil hf) (by simp [cv])
    | succ n =>
      replace hf : U.Fit U.E (cv (.cons k ix nm a cap ks r)) ([.i, .i, .t, .s 0] ++ U.rep (U.E 0) n) := hf
      obtain ⟨h1, h2, h3, h4, h5⟩ := hf
      obtain ⟨⟨g1, g2, g3⟩, g4⟩ := hs
      have c0 := hc 0 _ rfl
      have c1 := hc 1 _ rfl
      have c2 := hc 2 _ rfl
      have c3 := hc 3 _ rfl
      refine ⟨h1, h2, h3, c0, c1, c2, c3, g1, g2, fun hl => ?_, row_of r n b (o + 4) h5 (fun i v hv => ?_) g4⟩
      · obtain ⟨b', o', e, s, cc, ss⟩ := g3 (by rw [cv_len]; omega)
        exact ⟨b', o', e, s, row_of ks ks.len b' o' h4 cc ss⟩
      · have := hc (i + 4) v hv
        rwa [← Nat.add_assoc, Nat.add_right_comm] at this

theorem sl_of {W : World} {S : Nat → Prop} {F : Fo} {a : Option Addr} {cap : Nat} (hf : U.Fit U.E (cv F) (U.rep (U.E 0) F.len)) (h : U.Fo.Sub W S a F.len cap (cv F)) : F.Sl W S a cap :=
  ⟨h.1, h.2.1, fun hl => by
    obtain ⟨b', o', e, s, cc, ss⟩ := h.2.2 (by rw [cv_len]; omega)
    exact ⟨b', o', e, s, row_of F F.len b' o' hf cc ss⟩⟩

theorem of_row {W : World} {S : Nat → Prop} : ∀ (F : Fo) (b o : Nat), F.Row W S b o → U.Cel W (cv F).vals b o ∧ (cv F).Subs W S ∧ U.Fit U.E (cv F) (U.rep (U.E 0) F.len)
  | .nil, _, _, _ => ⟨fun i v hv => by simp [cv, U.Fo.vals] at hv, trivial, trivial⟩
  | .cons k ix nm a cap ks r, b, o, ⟨h1, h2, h3, c0, c1, c2, c3, g1, g2, g3, g4⟩ => by
    obtain ⟨r1, r2, r3⟩ := of_row r b (o + 4) g4
    have hk : U.Fit U.E (cv ks) (U.rep (U.E 0) ks.len) ∧ (0 < (cv ks).len → ∃ b o, a = some ⟨b, o, none⟩ ∧ S b ∧ U.Cel W (cv ks).vals b o ∧ (cv ks).Subs W S) := by
      by_cases hl : 0 < ks.len
      · obtain ⟨b', o', e, s, hr⟩ := g3 hl
        obtain ⟨q1, q2, q3⟩ := of_row ks b' o' hr
        exact ⟨q3, fun _ => ⟨b', o', e, s, q1, q2⟩⟩
      · have e : ks = .nil := by
          cases ks with
          | nil => rfl
          | cons _ _ _ _ _ _ _ => simp [Fo.len] at hl
        subst e
        exact ⟨trivial, fun h => by simp [cv, U.Fo.len] at h⟩
    refine ⟨fun i v hv => ?_, ⟨⟨g1, g2, hk.2⟩, r2⟩, ⟨h1, h2, h3, hk.1, r3⟩⟩
    match i, hv with
    | 0, hv => cases hv; exact c0
    | 1, hv => cases hv; exact c1
    | 2, hv => cases hv; exact c2
    | 3, hv => cases hv; exact c3
    | i + 4, hv =>
      have := r1 i v hv
      rwa [← Nat.add_assoc, Nat.add_right_comm]

theorem of_sl {W : World} {S : Nat → Prop} {F : Fo} {a : Option Addr} {cap : Nat} (h : F.Sl W S a cap) : U.Fo.Sub W S a F.len cap (cv F) ∧ U.Fit U.E (cv F) (U.rep (U.E 0) F.len) := by
  by_cases hl : 0 < F.len
  · obtain ⟨b', o', e, s, hr⟩ := h.2.2 hl
    obtain ⟨q1, q2, q3⟩ := of_row F b' o' hr
    exact ⟨⟨h.1, h.2.1, fun _ => ⟨b', o', e, s, q1, q2⟩⟩, q3⟩
  · have e : F = .nil := by
      cases F with
      | nil => rfl
      | cons _ _ _ _ _ _ _ => simp [Fo.len] at hl
    subst e
    exact ⟨⟨h.1, h.2.1, fun h => by simp [cv, U.Fo.len] at h⟩, trivial⟩

theorem cv_sim : ∀ {F G : Fo}, F.sim G → (cv F).sim (cv G)
  | .nil, .nil, _ => trivial
  | .cons _ _ _ _ _ ks r, .cons _ _ _ _ _ ks' r', ⟨h1, h2, h3, h4, h5⟩ => by
    subst h1 h2 h3
    exact ⟨rfl, rfl, rfl, h4.len, cv_sim h4, cv_sim h5⟩
  | .nil, .cons _ _ _ _ _ _ _, h => h.elim
  | .cons _ _ _ _ _ _ _, .nil, h => h.elim

theorem sim_cv : ∀ {F G : Fo}, (cv F).sim (cv G) → F.sim G
  | .nil, .nil, _ => trivial
  | .cons _ _ _ _ _ ks r, .cons _ _ _ _ _ ks' r', ⟨h1, h2, h3, _, h4, h5⟩ => by
    cases h1
    cases h2
    cases h3
    exact ⟨rfl, rfl, rfl, sim_cv h4, sim_cv h5⟩
  | .nil, .cons _ _ _ _ _ _ _, h => h.elim
  | .cons _ _ _ _ _ _ _, .nil, h => h.elim

theorem cv_blk (a : Option Addr) (F : Fo) : U.blk a (cv F).len = blk a F.len := by
  rw [cv_len]
  cases F with
  | nil => cases a <;> rfl
  | cons _ _ _ _ _ _ r =>
    have : (Fo.cons ‹_› ‹_› ‹_› ‹_› ‹_› ‹_› r).len * 4 = (r.len * 4 + 3) + 1 := by simp only [Fo.len]; omega
    cases a with
    | none => rfl
    | some a => simp only [Fo.len]; rfl

theorem cv_inn : ∀ F : Fo, (cv F).inn = F.inn
  | .nil => rfl
  | .cons _ _ _ a _ ks r => by simp only [cv, U.Fo.inn, Fo.inn, cv_inn ks, cv_inn r, cv_blk]

theorem cv_wt : ∀ F : Fo, F.tot = F.len + (cv F).wt
  | .nil => rfl
  | .cons _ _ nm _ _ ks r => by
    have h1 := cv_wt ks
    have h2 := cv_wt r
    simp only [cv, U.Fo.wt, U.textSize, Fo.tot, Fo.len]
    omega

end Go.Proofs.Ytcnbnhoeobdbnaa

namespace Go.Proofs.Ytcnbnhoeobdbnaa
open Go.RowKit Go.Joins

def sch : List U.Fld := [.i, .s 2, .i, .i, .t, .s 0]

theorem hEM : ∀ k, (U.E k).length ≤ 8 := by
  intro k
  match k with
  | 0 | 1 | 2 | 3 => simp [U.E]
  | _ + 4 => simp [U.E]

def ucv : U.Fo → Fo
  | .v (.int _ k) (.v (.int _ ix) (.v (.string nm) (.s a _ cap ks r))) => .cons k ix nm a cap (ucv ks) (ucv r)
  | _ => .nil

theorem ucv_cv : ∀ F : Fo, ucv (cv F) = F
  | .nil => rfl
  | .cons k ix nm a cap ks r => by simp only [cv, ucv, ucv_cv ks, ucv_cv r]

noncomputable def oU (f : Int) : U.Fo → U.Fo
  | .v (.int _ c) (.s _ _ _ _ (.v (.int _ k) (.v (.int _ ix) (.v (.string nm) (.s _ _ _ ks _))))) => cv (oT c f k ix nm (ucv ks))
  | _ => cv zeroT

theorem sch_of {F : U.Fo} (hf : U.Fit U.E F sch) : ∃ (c : Int) (pa : Option Addr) (pn pc : Nat) (pk : U.Fo) (k ix : Int) (nm : ByteArray) (a : Option Addr) (cap : Nat) (G : Fo), F = .v (.int .i64 c) (.s pa pn pc pk (.v (.int .i64 k) (.v (.int .i64 ix) (.v (.string nm) (.s a G.len cap (cv G) .nil))))) ∧
    (Lit.int .i64 k).wf = true ∧ (Lit.int .i64 ix).wf = true ∧ nm.size ≤ maxLen ∧ U.Fit U.E (cv G) (U.rep (U.E 0) G.len) := by
  obtain ⟨c, F0, rfl, -, hf⟩ := U.fit_i hf
  obtain ⟨pa, pn, pc, pk, F1, rfl, -, hf⟩ := U.fit_s hf
  obtain ⟨k, F2, rfl, hk, hf⟩ := U.fit_i hf
  obtain ⟨ix, F3, rfl, hix, hf⟩ := U.fit_i hf
  obtain ⟨nm, F4, rfl, hnm, hf⟩ := U.fit_t hf
  obtain ⟨a, n, cap, K, F5, rfl, hK, hf⟩ := U.fit_s hf
  obtain rfl := U.fit_nil hf
  obtain ⟨G, rfl, rfl⟩ := cv_of _ K n (Nat.le_refl _) hK
  exact ⟨c, pa, pn, pc, pk, k, ix, nm, a, cap, G, rfl, hk, hix, hnm, hK⟩

theorem oU_eq (f c : Int) (pa : Option Addr) (pn pc : Nat) (pk : U.Fo) (k ix : Int) (nm : ByteArray) (a : Option Addr) (cap : Nat) (G : Fo) : oU f (.v (.int .i64 c) (.s pa pn pc pk (.v (.int .i64 k) (.v (.int .i64 ix) (.v (.string nm) (.s a G.len cap (cv G) .nil)))))) = cv (oT c f k ix nm G) := by
  simp only [oU, ucv_cv]

theorem oU_sim {f : Int} {F G : U.Fo} (hf : U.Fit U.E F sch) (hs : G.sim F) : (oU f G).sim (oU f F) := by
  obtain ⟨c', pa', pn', pc', pk', k', ix', nm', a', cap', H, rfl, -⟩ := sch_of (hs.fit hf)
  obtain ⟨c, pa, pn, pc, pk, k, ix, nm, a, cap, K, rfl, -⟩ := sch_of hf
  rw [oU_eq, oU_eq]
  obtain ⟨h1, -, -, h2, h3, h4, -, h5, -⟩ := hs
  cases h1
  cases h2
  cases h3
  cases h4
  exact cv_sim (oT_sim (sim_cv h5))

theorem op_len (f : Int) : ∀ F : Fo, (F.op f).len = F.len
  | .nil => rfl
  | .cons k _ _ _ _ _ r => by
    unfold Fo.op
    split <;> simp only [Fo.len, op_len f r]

theorem op_fit {f : Int} (h0 : 0 ≤ f) (h1 : f ≤ 1099511627776) : ∀ (F : Fo), U.Fit U.E (cv F) (U.rep (U.E 0) F.len) → F.pl → U.Fit U.E (cv (F.op f)) (U.rep (U.E 0) (F.op f).len) ∧ (cv (F.op f)).wt ≤ (cv F).wt
  | .nil, _, _ => ⟨trivial, Nat.le_refl _⟩
  | .cons k ix nm a cap ks r, hf, hp => by
    replace hf : U.Fit U.E (cv (.cons k ix nm a cap ks r)) ([.i, .i, .t, .s 0] ++ U.rep (U.E 0) r.len) := hf
    obtain ⟨f1, f2, f3, f4, f5⟩ := hf
    obtain ⟨p1, p2, p3⟩ := hp
    obtain ⟨r1, r2⟩ := op_fit h0 h1 r f5 p3
    obtain ⟨k1, k2⟩ := op_fit h0 h1 ks f4 p2
    unfold Fo.op
    split
    · next e =>
      have hb := p1 e
      refine ⟨⟨by decide, wf_sum h0 h1 hb.1 hb.2, by decide, trivial, r1⟩, ?_⟩
      have e0 : (⟨#[]⟩ : ByteArray).size = 0 := rfl
      simp only [cv, U.Fo.wt, U.textSize, Fo.len, e0]
      omega
    · refine ⟨⟨f1, f2, f3, k1, r1⟩, ?_⟩
      simp only [cv, U.Fo.wt, U.textSize, op_len]
      omega

theorem oT_fit {c f k ix : Int} {nm : ByteArray} {G : Fo} (hk : (Lit.int .i64 k).wf = true) (hix : (Lit.int .i64 ix).wf = true) (hnm : nm.size ≤ maxLen) (hG : U.Fit U.E (cv G) (U.rep (U.E 0) G.len)) :
    U.Fit U.E (cv (oT c f k ix nm G)) (U.E 0) ∧ (cv (oT c f k ix nm G)).wt ≤ nm.size + (G.len + (cv G).wt) := by
  unfold oT
  split
  · next o =>
    obtain ⟨t, f0, f1, c0, c1, pls⟩ := o
    have hpl := Fo.pl_of c1 _ 1 t.1 pls
    obtain ⟨q1, q2⟩ := op_fit f0 f1 (.cons k ix nm none 0 G .nil) ⟨hk, hix, hnm, hG, trivial⟩ hpl
    rw [op_len] at q1
    refine ⟨q1, ?_⟩
    simp only [cv, U.Fo.wt, U.textSize] at q2
    omega
  · exact ⟨⟨by decide, by decide, by decide, trivial, trivial⟩, Nat.zero_le _⟩

theorem oU_fit {f : Int} {F : U.Fo} (hf : U.Fit U.E F sch) : U.Fit U.E (oU f F) (U.E 0) := by
  obtain ⟨c, pa, pn, pc, pk, k, ix, nm, a, cap, K, rfl, h1, h2, h3, h4⟩ := sch_of hf
  rw [oU_eq]
  exact (oT_fit h1 h2 h3 h4).1

theorem oU_wt {f : Int} {F : U.Fo} (hf : U.Fit U.E F sch) (h : F.wt ≤ 1048576) : (oU f F).wt ≤ 1048576 := by
  obtain ⟨c, pa, pn, pc, pk, k, ix, nm, a, cap, K, rfl, h1, h2, h3, h4⟩ := sch_of hf
  rw [oU_eq]
  have := (oT_fit (c := c) (f := f) h1 h2 h3 h4).2
  simp only [U.Fo.wt, U.textSize] at h
  omega

theorem nd_own {d : Nd} {W : World} {lo : Nat} (ho : d.Ok W (fun c => lo ≤ c ∧ c < W.heap.size)) (hn : (blk d.a d.ks.len ++ d.ks.inn).Nodup) (hl : Live W (blk d.a d.ks.len ++ d.ks.inn)) : U.Own lo W (cv d.fo) := by
  obtain ⟨h1, -⟩ := of_sl ho.sl
  have e : (cv d.fo).inn = blk d.a d.ks.len ++ d.ks.inn := by rw [cv_inn]; simp only [Nd.fo, Fo.inn, List.append_nil]
  exact ⟨⟨h1, trivial⟩, by rw [e]; exact hn, by rw [e]; exact hl⟩

theorem i_Open (F : U.Fo) (f : Int) (nb : Nat) (W : World) (hf : U.Fit U.E F sch) (hn : nb ≤ W.heap.size) (hwt : F.wt ≤ 1048576) (hs : F.Subs W (fun c => c < nb)) :
    Calls Try.prog 42 #[.agg F.vals.toArray, .int .i64 f] W fun e W' => ∃ R : U.Fo, e = .returned (.agg R.vals.toArray) ∧ R.sim (oU f F) ∧ Below W.heap.size W W' ∧ U.Own W.heap.size W' R := by
  obtain ⟨c, pa, pn, pc, pk, k, ix, nm, a, cap, K, rfl, h1, h2, h3, h4⟩ := sch_of hf
  obtain ⟨-, hs5, -⟩ := hs
  have hsl : K.Sl W (fun b => b < W.heap.size) a cap := sl_of h4 (U.Fo.Sub.mono (fun b x => Nat.lt_of_lt_of_le x hn) hs5)
  have hw := cv_wt K
  simp only [U.Fo.wt, U.textSize] at hwt
  rw [oU_eq]
  refine (iopen c pa pn pc k ix nm a cap K f W h1 h2 h3 hsl (by omega)).mono ?_
  rintro e W' ⟨d, rfl, sd, od, nd, ld, bd⟩
  exact ⟨cv d.fo, rfl, cv_sim sd, bd, nd_own od nd ld⟩

theorem m_Open (F : U.Fo) (f : Int) (nb : Nat) (W : World) (hf : U.Fit U.E F sch) (hn : nb ≤ W.heap.size) (hwt : F.wt ≤ 1048576) (hs : F.Subs W (fun c => c < nb)) :
    Calls Try.prog 40 #[.agg F.vals.toArray, .int .i64 f] W fun e W' => ∃ R : U.Fo, e = .returned (.agg R.vals.toArray) ∧ R.sim (oU f F) ∧ Below W.heap.size W W' ∧ R.Subs W' (fun c => c < W'.heap.size) := by
  obtain ⟨c, pa, pn, pc, pk, k, ix, nm, a, cap, K, rfl, h1, h2, h3, h4⟩ := sch_of hf
  obtain ⟨-, hs5, -⟩ := hs
  have hsl : K.Sl W (fun b => b < W.heap.size) a cap := sl_of h4 (U.Fo.Sub.mono (fun b x => Nat.lt_of_lt_of_le x hn) hs5)
  have hw := cv_wt K
  simp only [U.Fo.wt, U.textSize] at hwt
  rw [oU_eq]
  refine (sopen c pa pn pc k ix nm a cap K f W h1 h2 h3 hsl (by omega)).mono ?_
  rintro e W' ⟨d, rfl, sd, od, bd⟩
  obtain ⟨g1, -⟩ := of_sl od.sl
  exact ⟨cv d.fo, rfl, cv_sim sd, bd, ⟨U.Fo.Sub.mono (fun c hc => hc.2) g1, trivial⟩⟩

end Go.Proofs.Ytcnbnhoeobdbnaa
