import Derived.Test.YteminjgoepmppaaBr
import Derived.Test.YteminjgoepmppaaSp
namespace Go.Proofs.Yteminjgoepmppaa
open Go.RowKit Go.Joins

def sch : List U.Fld := [.i, .s 2, .i, .i, .t, .s 0]

theorem hEM : ∀ k, (U.E k).length ≤ 8 := by
  intro k
  match k with
  | 0 | 1 | 2 | 3 => simp [U.E]
  | _ + 4 => simp [U.E]

def ucv : U.Fo → Fo
  | .v (.int _ k) (.v (.int _ ix) (.v (.string nm) (.s a _ cap ks r))) => .cons k ix nm a cap (ucv ks) (ucv r)
  | _ => .nil

theorem ucv_cv : ∀ F : Fo, ucv (cv F) = F
  | .nil => rfl
  | .cons k ix nm a cap ks r => by simp only [cv, ucv, ucv_cv ks, ucv_cv r]

noncomputable def oU (f : Int) : U.Fo → U.Fo
  | .v (.int _ c) (.s _ _ _ _ (.v (.int _ k) (.v (.int _ ix) (.v (.string nm) (.s _ _ _ ks _))))) => cv (oT c f k ix nm (ucv ks))
  | _ => cv zeroT

theorem sch_of {F : U.Fo} (hf : U.Fit U.E F sch) : ∃ (c : Int) (pa : Option Addr) (pn pc : Nat) (pk : U.Fo) (k ix : Int) (nm : ByteArray) (a : Option Addr) (cap : Nat) (G : Fo), F = .v (.int .i64 c) (.s pa pn pc pk (.v (.int .i64 k) (.v (.int .i64 ix) (.v (.string nm) (.s a G.len cap (cv G) .nil))))) ∧
    (Lit.int .i64 k).wf = true ∧ (Lit.int .i64 ix).wf = true ∧ nm.size ≤ maxLen ∧ U.Fit U.E (cv G) (U.rep (U.E 0) G.len) := by
  obtain ⟨c, F0, rfl, -, hf⟩ := U.fit_i hf
  obtain ⟨pa, pn, pc, pk, F1, rfl, -, hf⟩ := U.fit_s hf
  obtain ⟨k, F2, rfl, hk, hf⟩ := U.fit_i hf
  obtain ⟨ix, F3, rfl, hix, hf⟩ := U.fit_i hf
  obtain ⟨nm, F4, rfl, hnm, hf⟩ := U.fit_t hf
  obtain ⟨a, n, cap, K, F5, rfl, hK, hf⟩ := U.fit_s hf
  obtain rfl := U.fit_nil hf
  obtain ⟨G, rfl, rfl⟩ := cv_of _ K n (Nat.le_refl _) hK
  exact ⟨c, pa, pn, pc, pk, k, ix, nm, a, cap, G, rfl, hk, hix, hnm, hK⟩

theorem oU_eq (f c : Int) (pa : Option Addr) (pn pc : Nat) (pk : U.Fo) (k ix : Int) (nm : ByteArray) (a : Option Addr) (cap : Nat) (G : Fo) : oU f (.v (.int .i64 c) (.s pa pn pc pk (.v (.int .i64 k) (.v (.int .i64 ix) (.v (.string nm) (.s a G.len cap (cv G) .nil)))))) = cv (oT c f k ix nm G) := by
  simp only [oU, ucv_cv]

theorem oU_sim {f : Int} {F G : U.Fo} (hf : U.Fit U.E F sch) (hs : G.sim F) : (oU f G).sim (oU f F) := by
  obtain ⟨c', pa', pn', pc', pk', k', ix', nm', a', cap', H, rfl, -⟩ := sch_of (hs.fit hf)
  obtain ⟨c, pa, pn, pc, pk, k, ix, nm, a, cap, K, rfl, -⟩ := sch_of hf
  rw [oU_eq, oU_eq]
  obtain ⟨h1, -, -, h2, h3, h4, -, h5, -⟩ := hs
  cases h1
  cases h2
  cases h3
  cases h4
  exact cv_sim (oT_sim (sim_cv h5))

theorem op_len (f : Int) : ∀ F : Fo, (F.op f).len = F.len
  | .nil => rfl
  | .cons k _ _ _ _ _ r => by
    unfold Fo.op
    split <;> simp only [Fo.len, op_len f r]

theorem op_fit {f : Int} (h0 : 0 ≤ f) (h1 : f ≤ 1099511627776) : ∀ (F : Fo), U.Fit U.E (cv F) (U.rep (U.E 0) F.len) → F.pl → U.Fit U.E (cv (F.op f)) (U.rep (U.E 0) (F.op f).len) ∧ (cv (F.op f)).wt ≤ (cv F).wt
  | .nil, _, _ => ⟨trivial, Nat.le_refl _⟩
  | .cons k ix nm a cap ks r, hf, hp => by
    replace hf : U.Fit U.E (cv (.cons k ix nm a cap ks r)) ([.i, .i, .t, .s 0] ++ U.rep (U.E 0) r.len) := hf
    obtain ⟨f1, f2, f3, f4, f5⟩ := hf
    obtain ⟨p1, p2, p3⟩ := hp
    obtain ⟨r1, r2⟩ := op_fit h0 h1 r f5 p3
    obtain ⟨k1, k2⟩ := op_fit h0 h1 ks f4 p2
    unfold Fo.op
    split
    · next e =>
      have hb := p1 e
      refine ⟨⟨by decide, wf_sum h0 h1 hb.1 hb.2, by decide, trivial, r1⟩, ?_⟩
      have e0 : (⟨#[]⟩ : ByteArray).size = 0 := rfl
      simp only [cv, U.Fo.wt, U.textSize, Fo.len, e0]
      omega
    · refine ⟨⟨f1, f2, f3, k1, r1⟩, ?_⟩
      simp only [cv, U.Fo.wt, U.textSize, op_len]
      omega

theorem oT_fit {c f k ix : Int} {nm : ByteArray} {G : Fo} (hk : (Lit.int .i64 k).wf = true) (hix : (Lit.int .i64 ix).wf = true) (hnm : nm.size ≤ maxLen) (hG : U.Fit U.E (cv G) (U.rep (U.E 0) G.len)) :
    U.Fit U.E (cv (oT c f k ix nm G)) (U.E 0) ∧ (cv (oT c f k ix nm G)).wt ≤ nm.size + (G.len + (cv G).wt) := by
  unfold oT
  split
  · next o =>
    obtain ⟨t, f0, f1, c0, c1, pls⟩ := o
    have hpl := Fo.pl_of c1 _ 1 t.1 pls
    obtain ⟨q1, q2⟩ := op_fit f0 f1 (.cons k ix nm none 0 G .nil) ⟨hk, hix, hnm, hG, trivial⟩ hpl
    rw [op_len] at q1
    refine ⟨q1, ?_⟩
    simp only [cv, U.Fo.wt, U.textSize] at q2
    omega
  · exact ⟨⟨by decide, by decide, by decide, trivial, trivial⟩, Nat.zero_le _⟩

theorem oU_fit {f : Int} {F : U.Fo} (hf : U.Fit U.E F sch) : U.Fit U.E (oU f F) (U.E 0) := by
  obtain ⟨c, pa, pn, pc, pk, k, ix, nm, a, cap, K, rfl, h1, h2, h3, h4⟩ := sch_of hf
  rw [oU_eq]
  exact (oT_fit h1 h2 h3 h4).1

theorem oU_wt {f : Int} {F : U.Fo} (hf : U.Fit U.E F sch) (h : F.wt ≤ 1048576) : (oU f F).wt ≤ 1048576 := by
  obtain ⟨c, pa, pn, pc, pk, k, ix, nm, a, cap, K, rfl, h1, h2, h3, h4⟩ := sch_of hf
  rw [oU_eq]
  have := (oT_fit (c := c) (f := f) h1 h2 h3 h4).2
  simp only [U.Fo.wt, U.textSize] at h
  omega

theorem nd_own {d : Nd} {W : World} {lo : Nat} (ho : d.Ok W (fun c => lo ≤ c ∧ c < W.heap.size)) (hn : (blk d.a d.ks.len ++ d.ks.inn).Nodup) (hl : Live W (blk d.a d.ks.len ++ d.ks.inn)) : U.Own lo W (cv d.fo) := by
  obtain ⟨h1, -⟩ := of_sl ho.sl
  have e : (cv d.fo).inn = blk d.a d.ks.len ++ d.ks.inn := by rw [cv_inn]; simp only [Nd.fo, Fo.inn, List.append_nil]
  exact ⟨⟨h1, trivial⟩, by rw [e]; exact hn, by rw [e]; exact hl⟩

theorem i_Open (F : U.Fo) (f : Int) (nb : Nat) (W : World) (hf : U.Fit U.E F sch) (hn : nb ≤ W.heap.size) (hwt : F.wt ≤ 1048576) (hs : F.Subs W (fun c => c < nb)) :
    Calls Try.prog 42 #[.agg F.vals.toArray, .int .i64 f] W fun e W' => ∃ R : U.Fo, e = .returned (.agg R.vals.toArray) ∧ R.sim (oU f F) ∧ Below W.heap.size W W' ∧ U.Own W.heap.size W' R := by
  obtain ⟨c, pa, pn, pc, pk, k, ix, nm, a, cap, K, rfl, h1, h2, h3, h4⟩ := sch_of hf
  obtain ⟨-, hs5, -⟩ := hs
  have hsl : K.Sl W (fun b => b < W.heap.size) a cap := sl_of h4 (U.Fo.Sub.mono (fun b x => Nat.lt_of_lt_of_le x hn) hs5)
  have hw := cv_wt K
  simp only [U.Fo.wt, U.textSize] at hwt
  rw [oU_eq]
  refine (iopen c pa pn pc k ix nm a cap K f W h1 h2 h3 hsl (by omega)).mono ?_
  rintro e W' ⟨d, rfl, sd, od, nd, ld, bd⟩
  exact ⟨cv d.fo, rfl, cv_sim sd, bd, nd_own od nd ld⟩

theorem m_Open (F : U.Fo) (f : Int) (nb : Nat) (W : World) (hf : U.Fit U.E F sch) (hn : nb ≤ W.heap.size) (hwt : F.wt ≤ 1048576) (hs : F.Subs W (fun c => c < nb)) :
    Calls Try.prog 40 #[.agg F.vals.toArray, .int .i64 f] W fun e W' => ∃ R : U.Fo, e = .returned (.agg R.vals.toArray) ∧ R.sim (oU f F) ∧ Below W.heap.size W W' ∧ R.Subs W' (fun c => c < W'.heap.size) := by
  obtain ⟨c, pa, pn, pc, pk, k, ix, nm, a, cap, K, rfl, h1, h2, h3, h4⟩ := sch_of hf
  obtain ⟨-, hs5, -⟩ := hs
  have hsl : K.Sl W (fun b => b < W.heap.size) a cap := sl_of h4 (U.Fo.Sub.mono (fun b x => Nat.lt_of_lt_of_le x hn) hs5)
  have hw := cv_wt K
  simp only [U.Fo.wt, U.textSize] at hwt
  rw [oU_eq]
  refine (sopen c pa pn pc k ix nm a cap K f W h1 h2 h3 hsl (by omega)).mono ?_
  rintro e W' ⟨d, rfl, sd, od, bd⟩
  obtain ⟨g1, -⟩ := of_sl od.sl
  exact ⟨cv d.fo, rfl, cv_sim sd, bd, ⟨U.Fo.Sub.mono (fun c hc => hc.2) g1, trivial⟩⟩

end Go.Proofs.Yteminjgoepmppaa
