import Derived.Test.YtcnbnhoeobdbnaaCc
import Derived.Test.YtcnbnhoeobdbnaaBs
namespace Go.Proofs.Ytcnbnhoeobdbnaa
open Go.RowKit Go.Joins

theorem pls_none : ∀ P : List Pd, pls [] P = [] := by
  have key : ∀ (P : List Pd) (out : List Pd), P.foldl (pst []) out = out := by
    intro P
    induction P with
    | nil => intro out; rfl
    | cons p P ih =>
      intro out
      rw [List.foldl_cons, ih]
      simp [pst]
  exact fun P => key P []

theorem clL_bad {k ix : Int} {nm : ByteArray} {ks : Fo} {K : List Int} (h : fltB k ix nm ks = true) : clL k ix nm ks K = [] := by
  unfold clL idsOf
  rw [h]
  rfl

/-- The program's Close. -/
theorem iclose (k ix : Int) (nm : ByteArray) (a : Option Addr) (cap : Nat) (ks : Fo) (pa : Option Addr) (pc : Nat) (P : List Pd) (la : Option Addr) (lc : Nat) (K : List Int) (w : World)
    (hk : (Lit.int .i64 k).wf = true) (hix : (Lit.int .i64 ix).wf = true) (hnm : nm.size ≤ maxLen) (hs : ks.Sl w (fun b => b < w.heap.size) a cap) (hsz : nm.size + ks.tot ≤ 1048576)
    (hP : PSl w w.heap.size pa pc P) (hPn : pns P ≤ 1048576) (hPl : P.length ≤ 1048576) (hK : IS w w.heap.size la lc K) (hKl : K.length ≤ 1048576) :
    Calls Try.prog 33 #[nodeV k ix nm a ks.len cap, .slice pa P.length pc, .slice la K.length lc] w fun e W' => ClP w ((clL k ix nm ks K).length : Nat) (pls (clL k ix nm ks K) P) (clT k ix nm ks K) e W' := by
  by_cases h : fltB k ix nm ks = true
  · unfold clT
    rw [clL_bad h, pls_none, if_pos h]
    exact iclose_bad k ix nm a cap ks pa pc P la lc K w hk hix hnm hs hsz h
  · unfold clT
    rw [if_neg h]
    exact iclose_good k ix nm a cap ks pa pc P la lc K w hk hix hnm hs hsz (by simpa using h) hP hPn hPl hK hKl

/-- The model's Close. -/
theorem sclose (k ix : Int) (nm : ByteArray) (a : Option Addr) (cap : Nat) (ks : Fo) (pa : Option Addr) (pc : Nat) (P : List Pd) (la : Option Addr) (lc : Nat) (K : List Int) (w : World)
    (hk : (Lit.int .i64 k).wf = true) (hix : (Lit.int .i64 ix).wf = true) (hnm : nm.size ≤ maxLen) (hs : ks.Sl w (fun b => b < w.heap.size) a cap)
    (hP : PSl w w.heap.size pa pc P) (hPl : P.length ≤ 1048576) (hK : IS w w.heap.size la lc K) (hKl : K.length ≤ 1048576) :
    Calls Try.prog 30 #[nodeV k ix nm a ks.len cap, .slice pa P.length pc, .slice la K.length lc] w fun e W' => ClM w ((clL k ix nm ks K).length : Nat) (pls (clL k ix nm ks K) P) (clT k ix nm ks K) e W' := by
  by_cases h : fltB k ix nm ks = true
  · unfold clT
    rw [clL_bad h, pls_none, if_pos h]
    exact sclose_bad k ix nm a cap ks pa pc P la lc K w hs h
  · have hT : TG k ix nm ks := Classical.byContradiction fun h2 => h (by simp [fltB, h2])
    unfold clT
    rw [if_neg h]
    exact sclose_good k ix nm a cap ks pa pc P la lc K w hk hix hnm hs hT hP hPl hK hKl

/-- Preds out of a row of cells, and back. -/
def pdsOf : U.Fo → List Pd
  | .v (.string nm) (.v (.int _ sd) r) => ⟨nm, sd⟩ :: pdsOf r
  | _ => []

def intsOf : U.Fo → List Int
  | .v (.int _ x) r => x :: intsOf r
  | _ => []

def pfo : List Pd → U.Fo
  | [] => .nil
  | x :: r => .v (.string x.nm) (.v (.int .i64 x.sd) (pfo r))

theorem pfo_vals : ∀ L : List Pd, (pfo L).vals = pfl L
  | [] => rfl
  | x :: r => by
    have := pfo_vals r
    simp only [pfo, U.Fo.vals, this, pfl, List.flatMap_cons]
    rfl

theorem pfo_fit : ∀ {L : List Pd}, (∀ x ∈ L, x.Ok) → U.Fit U.E (pfo L) (U.rep (U.E 2) L.length)
  | [], _ => trivial
  | x :: _, h => ⟨(h x List.mem_cons_self).n, (h x List.mem_cons_self).s, pfo_fit (fun y hy => h y (List.mem_cons_of_mem _ hy))⟩

theorem pfo_wt : ∀ L : List Pd, (pfo L).wt = pns L
  | [] => rfl
  | x :: r => by
    have := pfo_wt r
    simp only [pfo, U.Fo.wt, U.textSize, pns, this]
    omega

theorem pfo_inn : ∀ L : List Pd, (pfo L).inn = []
  | [] => rfl
  | _ :: r => pfo_inn r

theorem pds_fit : ∀ (n : Nat) (F : U.Fo), U.Fit U.E F (U.rep (U.E 2) n) → (pdsOf F).length = n ∧ pns (pdsOf F) = F.wt ∧ (∀ x ∈ pdsOf F, x.Ok) ∧ F = pfo (pdsOf F)
  | 0, F, h => by
    obtain rfl := U.fit_nil h
    exact ⟨rfl, rfl, fun x hx => by simp [pdsOf] at hx, rfl⟩
  | n + 1, F, h => by
    replace h : U.Fit U.E F ([.t, .i] ++ U.rep (U.E 2) n) := h
    obtain ⟨nm, F0, rfl, h1, h⟩ := U.fit_t h
    obtain ⟨sd, F1, rfl, h2, h⟩ := U.fit_i h
    obtain ⟨r1, r2, r3, r4⟩ := pds_fit n F1 h
    refine ⟨by simp only [pdsOf, List.length_cons, r1], by simp only [pdsOf, pns, r2, U.Fo.wt, U.textSize]; omega, fun x hx => ?_, by simp only [pdsOf, pfo]; rw [← r4]⟩
    simp only [pdsOf] at hx
    rcases List.mem_cons.1 hx with rfl | hx
    · exact ⟨h2, h1⟩
    · exact r3 x hx

theorem ints_fit : ∀ (n : Nat) (F : U.Fo), U.Fit U.E F (U.rep (U.E 3) n) → (intsOf F).length = n ∧ (∀ x ∈ intsOf F, (Lit.int .i64 x).wf = true) ∧ F.vals = (intsOf F).map iv
  | 0, F, h => by
    obtain rfl := U.fit_nil h
    exact ⟨rfl, fun x hx => by simp [intsOf] at hx, rfl⟩
  | n + 1, F, h => by
    replace h : U.Fit U.E F ([.i] ++ U.rep (U.E 3) n) := h
    obtain ⟨x, F1, rfl, h2, h⟩ := U.fit_i h
    obtain ⟨r1, r2, r3⟩ := ints_fit n F1 h
    refine ⟨by simp only [intsOf, List.length_cons, r1], fun y hy => ?_, by simp only [intsOf, U.Fo.vals, List.map_cons, r3]; rfl⟩
    simp only [intsOf] at hy
    rcases List.mem_cons.1 hy with rfl | hy
    · exact h2
    · exact r2 y hy

theorem pds_sim {n : Nat} {F G : U.Fo} (hf : U.Fit U.E F (U.rep (U.E 2) n)) (h : G.sim F) : pdsOf G = pdsOf F := by
  induction n generalizing F G with
  | zero =>
    obtain rfl := U.fit_nil hf
    obtain rfl := U.Fo.sim_nil h
    rfl
  | succ n ih =>
    replace hf : U.Fit U.E F ([.t, .i] ++ U.rep (U.E 2) n) := hf
    obtain ⟨nm, F0, rfl, -, hf⟩ := U.fit_t hf
    obtain ⟨sd, F1, rfl, -, hf⟩ := U.fit_i hf
    obtain ⟨u0, rfl, h2⟩ := U.Fo.sim_v h
    obtain ⟨u1, rfl, h3⟩ := U.Fo.sim_v h2
    simp only [pdsOf, ih hf h3]

theorem ints_sim {n : Nat} {F G : U.Fo} (hf : U.Fit U.E F (U.rep (U.E 3) n)) (h : G.sim F) : intsOf G = intsOf F := by
  induction n generalizing F G with
  | zero =>
    obtain rfl := U.fit_nil hf
    obtain rfl := U.Fo.sim_nil h
    rfl
  | succ n ih =>
    replace hf : U.Fit U.E F ([.i] ++ U.rep (U.E 3) n) := hf
    obtain ⟨x, F1, rfl, -, hf⟩ := U.fit_i hf
    obtain ⟨u1, rfl, h2⟩ := U.Fo.sim_v h
    simp only [intsOf, ih hf h2]

theorem psl_of {W : World} {nb n cap : Nat} {a : Option Addr} {F : U.Fo} (hf : U.Fit U.E F (U.rep (U.E 2) n)) (h : U.Fo.Sub W (fun c => c < nb) a n cap F) : PSl W nb a cap (pdsOf F) := by
  obtain ⟨r1, -, r3, r4⟩ := pds_fit n F hf
  refine ⟨by rw [r1]; exact h.1, h.2.1, r3, fun hl => ?_⟩
  have hlen : F.len = (pdsOf F).length * 2 := by rw [← U.Fo.vals_length, r4, pfo_vals, ← r4, pfl_len]
  obtain ⟨b, o, e, s, c, -⟩ := h.2.2 (by omega)
  refine ⟨b, o, e, s, fun i x hx => ?_⟩
  have hv : F.vals = pfl (pdsOf F) := by rw [← pfo_vals, ← r4]
  obtain ⟨g1, g2⟩ := pfl_get _ i x hx
  exact ⟨c _ _ (by rw [hv]; exact g1), by rw [Nat.add_assoc]; exact c _ _ (by rw [hv]; exact g2)⟩

theorem is_of {W : World} {nb n cap : Nat} {a : Option Addr} {F : U.Fo} (hf : U.Fit U.E F (U.rep (U.E 3) n)) (h : U.Fo.Sub W (fun c => c < nb) a n cap F) : IS W nb a cap (intsOf F) := by
  obtain ⟨r1, r2, r3⟩ := ints_fit n F hf
  refine ⟨by rw [r1]; exact h.1, h.2.1, r2, fun hl => ?_⟩
  have hlen : F.len = (intsOf F).length := by rw [← U.Fo.vals_length, r3, List.length_map]
  obtain ⟨b, o, e, s, c, -⟩ := h.2.2 (by omega)
  refine ⟨b, o, e, s, fun i x hx => c i (iv x) ?_⟩
  rw [r3, List.getElem?_map, hx]
  rfl

/-- The answer as a row of cells. -/
noncomputable def mkU (k ix : Int) (nm : ByteArray) (G : Fo) (P : List Pd) (K : List Int) : U.Fo :=
  .v (.int .i64 ((clL k ix nm G K).length : Nat)) (.s none (pls (clL k ix nm G K) P).length 0 (pfo (pls (clL k ix nm G K) P)) (cv (clT k ix nm G K)))

noncomputable def cU : U.Fo → U.Fo → U.Fo → U.Fo
  | .v (.int _ k) (.v (.int _ ix) (.v (.string nm) (.s _ _ _ ks _))), .s _ _ _ pk _, .s _ _ _ kk _ => mkU k ix nm (ucv ks) (pdsOf pk) (intsOf kk)
  | _, _, _ => .nil

theorem ty_of {F : U.Fo} (hf : U.Fit U.E F (U.E 0)) : ∃ (k ix : Int) (nm : ByteArray) (a : Option Addr) (cap : Nat) (G : Fo), F = .v (.int .i64 k) (.v (.int .i64 ix) (.v (.string nm) (.s a G.len cap (cv G) .nil))) ∧
    (Lit.int .i64 k).wf = true ∧ (Lit.int .i64 ix).wf = true ∧ nm.size ≤ maxLen ∧ U.Fit U.E (cv G) (U.rep (U.E 0) G.len) := by
  replace hf : U.Fit U.E F [.i, .i, .t, .s 0] := hf
  obtain ⟨k, F2, rfl, hk, hf⟩ := U.fit_i hf
  obtain ⟨ix, F3, rfl, hix, hf⟩ := U.fit_i hf
  obtain ⟨nm, F4, rfl, hnm, hf⟩ := U.fit_t hf
  obtain ⟨a, n, cap, K, F5, rfl, hK, hf⟩ := U.fit_s hf
  obtain rfl := U.fit_nil hf
  obtain ⟨G, rfl, rfl⟩ := cv_of _ K n (Nat.le_refl _) hK
  exact ⟨k, ix, nm, a, cap, G, rfl, hk, hix, hnm, hK⟩

theorem sl_fit {F : U.Fo} {e : Nat} (hf : U.Fit U.E F [.s e]) : ∃ (a : Option Addr) (n cap : Nat) (K : U.Fo), F = .s a n cap K .nil ∧ U.Fit U.E K (U.rep (U.E e) n) := by
  obtain ⟨a, n, cap, K, F5, rfl, hK, hf⟩ := U.fit_s hf
  obtain rfl := U.fit_nil hf
  exact ⟨a, n, cap, K, rfl, hK⟩

theorem clT_sim {k ix : Int} {nm : ByteArray} {F G : Fo} {K : List Int} (h : F.sim G) : clL k ix nm F K = clL k ix nm G K ∧ (clT k ix nm F K).sim (clT k ix nm G K) := by
  have e : clL k ix nm F K = clL k ix nm G K := by unfold clL; rw [idsOf_sim h]
  refine ⟨e, ?_⟩
  unfold clT
  rw [e, fltB_sim h]
  split
  · exact Fo.sim.refl _
  · exact wc_sim ⟨rfl, rfl, rfl, h, trivial⟩

theorem U.Fo.sim_refl' : ∀ F : U.Fo, F.sim F
  | .nil => trivial
  | .v _ r => ⟨rfl, U.Fo.sim_refl' r⟩
  | .s _ _ _ ks r => ⟨rfl, U.Fo.sim_refl' ks, U.Fo.sim_refl' r⟩

theorem cU_sim {F0 F1 F2 G0 G1 G2 : U.Fo} (h0 : U.Fit U.E F0 (U.E 0)) (h1 : U.Fit U.E F1 [.s 2]) (h2 : U.Fit U.E F2 [.s 3]) (s0 : G0.sim F0) (s1 : G1.sim F1) (s2 : G2.sim F2) : (cU G0 G1 G2).sim (cU F0 F1 F2) := by
  obtain ⟨k', ix', nm', a', cap', H, rfl, -⟩ := ty_of (s0.fit h0)
  obtain ⟨k, ix, nm, a, cap, K, rfl, -⟩ := ty_of h0
  obtain ⟨p', n', c', Q', rfl, -⟩ := sl_fit (s1.fit h1)
  obtain ⟨p, n, c, Q, rfl, hQ⟩ := sl_fit h1
  obtain ⟨l', m', d', R', rfl, -⟩ := sl_fit (s2.fit h2)
  obtain ⟨l, m, d, R, rfl, hR⟩ := sl_fit h2
  obtain ⟨e1, e2, e3, -, e4, -⟩ := s0
  cases e1
  cases e2
  cases e3
  have eP := pds_sim hQ s1.2.1
  have eK := ints_sim hR s2.2.1
  simp only [cU, ucv_cv]
  rw [eP, eK]
  obtain ⟨t1, t2⟩ := clT_sim (k := k') (ix := ix') (nm := nm') (K := intsOf R) (sim_cv e4)
  unfold mkU
  rw [t1]
  exact ⟨rfl, rfl, U.Fo.sim_refl' _, cv_sim t2⟩

theorem wc_len (L : List Int) : ∀ F : Fo, (F.wc L).len = F.len
  | .nil => rfl
  | .cons k _ _ _ _ _ r => by
    unfold Fo.wc
    split <;> simp only [Fo.len, wc_len L r]

theorem wc_fit {L : List Int} (hL : L.length ≤ 1048576) : ∀ (F : Fo), U.Fit U.E (cv F) (U.rep (U.E 0) F.len) → U.Fit U.E (cv (F.wc L)) (U.rep (U.E 0) (F.wc L).len) ∧ (cv (F.wc L)).wt ≤ (cv F).wt
  | .nil, _ => ⟨trivial, Nat.le_refl _⟩
  | .cons k ix nm a cap ks r, hf => by
    replace hf : U.Fit U.E (cv (.cons k ix nm a cap ks r)) ([.i, .i, .t, .s 0] ++ U.rep (U.E 0) r.len) := hf
    obtain ⟨f1, f2, f3, f4, f5⟩ := hf
    obtain ⟨r1, r2⟩ := wc_fit hL r f5
    obtain ⟨k1, k2⟩ := wc_fit hL ks f4
    unfold Fo.wc
    split
    · refine ⟨⟨by decide, by decide, f3, k1, r1⟩, ?_⟩
      simp only [cv, U.Fo.wt, U.textSize, wc_len]
      omega
    · have hw1 : (Lit.int .i64 (cK L k ix)).wf = true := by
        unfold cK
        split
        · decide
        · exact f1
      have hw2 : (Lit.int .i64 (cI L k ix)).wf = true := by
        unfold cI
        split
        · exact wf_nat (by have := idx_le L ix; omega)
        · exact f2
      refine ⟨⟨hw1, hw2, by decide, trivial, r1⟩, ?_⟩
      have e0 : (⟨#[]⟩ : ByteArray).size = 0 := rfl
      simp only [cv, U.Fo.wt, U.textSize, Fo.len, e0]
      omega

theorem clT_fit {k ix : Int} {nm : ByteArray} {G : Fo} {K : List Int} (hk : (Lit.int .i64 k).wf = true) (hix : (Lit.int .i64 ix).wf = true) (hnm : nm.size ≤ maxLen) (hG : U.Fit U.E (cv G) (U.rep (U.E 0) G.len)) :
    U.Fit U.E (cv (clT k ix nm G K)) (U.E 0) ∧ (cv (clT k ix nm G K)).wt ≤ nm.size + (G.len + (cv G).wt) := by
  unfold clT
  split
  · exact ⟨⟨by decide, by decide, by decide, trivial, trivial⟩, Nat.zero_le _⟩
  · obtain ⟨q1, q2⟩ := wc_fit (L := clL k ix nm G K) (by have := clL_len k ix nm G K; omega) (.cons k ix nm none 0 G .nil) ⟨hk, hix, hnm, hG, trivial⟩
    rw [wc_len] at q1
    refine ⟨q1, ?_⟩
    simp only [cv, U.Fo.wt, U.textSize] at q2
    omega

theorem pns_map_le {L : List Int} : ∀ (A : List Pd), pns (A.map (plc L)) = pns A
  | [] => rfl
  | x :: r => by simp only [List.map_cons, pns, pns_map_le r]; rfl

theorem pns_app : ∀ A B : List Pd, pns (A ++ B) = pns A + pns B
  | [], B => by simp [pns]
  | x :: r, B => by simp only [List.cons_append, pns, pns_app r B]; omega

theorem pls_pns (L : List Int) (P : List Pd) : pns (pls L P) ≤ pns P := by
  have key : ∀ (P : List Pd) (kn : List Pd), pns (P.foldl (kst L) kn) ≤ pns kn + pns P := by
    intro P
    induction P with
    | nil => intro kn; simp [pns]
    | cons p P ih =>
      intro kn
      have h1 := ih (kst L kn p)
      have h2 : pns (kst L kn p) ≤ pns kn + p.nm.size := by
        unfold kst
        split
        · omega
        · rw [pns_app]; simp [pns]
      simp only [List.foldl_cons, pns]
      omega
  rw [pls_knl, pns_map_le]
  have := key P []
  simpa [knl, pns] using this

theorem cU_fit {F0 F1 F2 : U.Fo} (h0 : U.Fit U.E F0 (U.E 0)) (h1 : U.Fit U.E F1 [.s 2]) (h2 : U.Fit U.E F2 [.s 3]) : U.Fit U.E (cU F0 F1 F2) sch ∧ (cU F0 F1 F2).wt ≤ F0.wt + F1.wt := by
  obtain ⟨k, ix, nm, a, cap, G, rfl, hk, hix, hnm, hG⟩ := ty_of h0
  obtain ⟨p, n, c, Q, rfl, hQ⟩ := sl_fit h1
  obtain ⟨l, m, d, R, rfl, hR⟩ := sl_fit h2
  obtain ⟨r1, r2, r3, -⟩ := pds_fit n Q hQ
  simp only [cU, ucv_cv]
  have hL := clL_len k ix nm G (intsOf R)
  obtain ⟨t1, t2⟩ := clT_fit (K := intsOf R) hk hix hnm hG
  refine ⟨⟨wf_nat (by omega), pfo_fit (pls_ok (by omega) r3), t1⟩, ?_⟩
  have h3 := pls_len (clL k ix nm G (intsOf R)) (pdsOf Q)
  have h4 := pls_pns (clL k ix nm G (intsOf R)) (pdsOf Q)
  simp only [mkU, U.Fo.wt, U.textSize, pfo_wt]
  omega

theorem own_join {lo : Nat} {W : World} {x : Value} {a : Option Addr} {n cap : Nat} {F R : U.Fo} (h : U.Own lo W (.s a n cap F .nil)) (hR : U.Own lo W R) (hd : ∀ c ∈ U.blk a F.len ++ F.inn, c ∉ R.inn) : U.Own lo W (.v x (.s a n cap F R)) := by
  have e : U.Fo.inn (.v x (.s a n cap F R)) = (U.blk a F.len ++ F.inn) ++ R.inn := rfl
  have e1 : U.Fo.inn (.s a n cap F .nil) = U.blk a F.len ++ F.inn := by simp [U.Fo.inn]
  refine ⟨⟨h.subs.1, hR.subs⟩, ?_, ?_⟩
  · rw [e, List.nodup_append]
    have := h.nodup
    rw [e1] at this
    exact ⟨this, hR.nodup, fun p hp q hq e => hd p hp (e ▸ hq)⟩
  · rw [e]
    intro c hc j
    rcases List.mem_append.1 hc with hc | hc
    · exact h.live c (by rw [e1]; exact hc) j
    · exact hR.live c hc j

end Go.Proofs.Ytcnbnhoeobdbnaa

namespace Go.Proofs.Ytcnbnhoeobdbnaa
open Go.RowKit Go.Joins

theorem i_Close (F0 : U.Fo) (a1 : Option Addr) (n1 c1 : Nat) (K1 : U.Fo) (a2 : Option Addr) (n2 c2 : Nat) (K2 : U.Fo) (W : World) (h0 : U.Fit U.E F0 (U.E 0)) (h1 : U.Fit U.E (.s a1 n1 c1 K1 .nil) [.s 2]) (h2 : U.Fit U.E (.s a2 n2 c2 K2 .nil) [.s 3])
    (w0 : F0.wt ≤ 1048576) (w1 : U.Fo.wt (.s a1 n1 c1 K1 .nil) ≤ 1048576) (w2 : U.Fo.wt (.s a2 n2 c2 K2 .nil) ≤ 1048576)
    (s0 : F0.Subs W (fun c => c < W.heap.size)) (s1 : U.Fo.Subs W (fun c => c < W.heap.size) (.s a1 n1 c1 K1 .nil)) (s2 : U.Fo.Subs W (fun c => c < W.heap.size) (.s a2 n2 c2 K2 .nil)) :
    Calls Try.prog 33 #[.agg F0.vals.toArray, .slice a1 n1 c1, .slice a2 n2 c2] W fun e W' => ∃ R : U.Fo, e = .returned (.agg R.vals.toArray) ∧ R.sim (cU F0 (.s a1 n1 c1 K1 .nil) (.s a2 n2 c2 K2 .nil)) ∧ Below W.heap.size W W' ∧ U.Own W.heap.size W' R := by
  obtain ⟨k, ix, nm, a, cap, G, rfl, hk, hix, hnm, hG⟩ := ty_of h0
  have hsl : G.Sl W (fun b => b < W.heap.size) a cap := sl_of hG s0.1
  have hw := cv_wt G
  simp only [U.Fo.wt, U.textSize] at w0 w1 w2
  obtain ⟨r1, r2, r3, -⟩ := pds_fit n1 K1 h1.1
  obtain ⟨q1, q2, -⟩ := ints_fit n2 K2 h2.1
  have h := iclose k ix nm a cap G a1 c1 (pdsOf K1) a2 c2 (intsOf K2) W hk hix hnm hsl (by omega) (psl_of h1.1 s1.1) (by omega) (by omega) (is_of h2.1 s2.1) (by omega)
  rw [r1, q1] at h
  refine h.mono ?_
  rintro e W' ⟨d, va, vc, rfl, sd, od, nd, ld, pr, hne, bd⟩
  have hok := pls_ok (L := clL k ix nm G (intsOf K2)) (by have := clL_len k ix nm G (intsOf K2); omega) r3
  have hfit := pfo_fit hok
  have hO := pr
  unfold PdR at hO
  rw [← pfo_vals] at hO
  obtain ⟨ra, rc, e1, ho⟩ := U.own_plain (fs := U.E 2) hO hfit (by simp [U.E])
  simp only [Value.slice.injEq, true_and] at e1
  obtain ⟨rfl, rfl⟩ := e1
  refine ⟨.v (.int .i64 ((clL k ix nm G (intsOf K2)).length : Nat)) (.s va (pls (clL k ix nm G (intsOf K2)) (pdsOf K1)).length vc (pfo (pls (clL k ix nm G (intsOf K2)) (pdsOf K1))) (cv d.fo)), rfl, ?_, bd, own_join ho (nd_own od nd ld) ?_⟩
  · simp only [cU, ucv_cv, mkU]
    exact ⟨rfl, rfl, U.Fo.sim_refl' _, cv_sim sd⟩
  · intro c hc hin
    rw [pfo_inn, List.append_nil] at hc
    have e2 : (cv d.fo).inn = blk d.a d.ks.len ++ d.ks.inn := by rw [cv_inn]; simp only [Nd.fo, Fo.inn, List.append_nil]
    rw [e2] at hin
    refine hne c ?_ hin
    cases va with
    | none => simp [U.blk] at hc
    | some ad =>
      cases hl : (pfo (pls (clL k ix nm G (intsOf K2)) (pdsOf K1))).len with
      | zero => rw [hl] at hc; simp [U.blk] at hc
      | succ q =>
        rw [hl] at hc
        have : c = ad.block := by simpa [U.blk] using hc
        rw [this]
        rcases pr.2 with ⟨e3, -⟩ | ⟨b, cap3, cur, e3, -⟩
        · simp at e3
        · simp only [Value.slice.injEq, Option.some.injEq] at e3
          rw [e3.1]
          rfl

theorem m_Close (F0 : U.Fo) (a1 : Option Addr) (n1 c1 : Nat) (K1 : U.Fo) (a2 : Option Addr) (n2 c2 : Nat) (K2 : U.Fo) (W : World) (h0 : U.Fit U.E F0 (U.E 0)) (h1 : U.Fit U.E (.s a1 n1 c1 K1 .nil) [.s 2]) (h2 : U.Fit U.E (.s a2 n2 c2 K2 .nil) [.s 3])
    (_w0 : F0.wt ≤ 1048576) (w1 : U.Fo.wt (.s a1 n1 c1 K1 .nil) ≤ 1048576) (w2 : U.Fo.wt (.s a2 n2 c2 K2 .nil) ≤ 1048576)
    (s0 : F0.Subs W (fun c => c < W.heap.size)) (s1 : U.Fo.Subs W (fun c => c < W.heap.size) (.s a1 n1 c1 K1 .nil)) (s2 : U.Fo.Subs W (fun c => c < W.heap.size) (.s a2 n2 c2 K2 .nil)) :
    Calls Try.prog 30 #[.agg F0.vals.toArray, .slice a1 n1 c1, .slice a2 n2 c2] W fun e W' => ∃ R : U.Fo, e = .returned (.agg R.vals.toArray) ∧ R.sim (cU F0 (.s a1 n1 c1 K1 .nil) (.s a2 n2 c2 K2 .nil)) ∧ Below W.heap.size W W' ∧ R.Subs W' (fun c => c < W'.heap.size) := by
  obtain ⟨k, ix, nm, a, cap, G, rfl, hk, hix, hnm, hG⟩ := ty_of h0
  have hsl : G.Sl W (fun b => b < W.heap.size) a cap := sl_of hG s0.1
  simp only [U.Fo.wt] at w1 w2
  obtain ⟨r1, r2, r3, -⟩ := pds_fit n1 K1 h1.1
  obtain ⟨q1, q2, -⟩ := ints_fit n2 K2 h2.1
  have h := sclose k ix nm a cap G a1 c1 (pdsOf K1) a2 c2 (intsOf K2) W hk hix hnm hsl (psl_of h1.1 s1.1) (by omega) (is_of h2.1 s2.1) (by omega)
  rw [r1, q1] at h
  refine h.mono ?_
  rintro e W' ⟨d, va, vc, rfl, sd, od, pr, bd⟩
  have hok := pls_ok (L := clL k ix nm G (intsOf K2)) (by have := clL_len k ix nm G (intsOf K2); omega) r3
  have hfit := pfo_fit hok
  have hO := pr
  unfold PdR at hO
  rw [← pfo_vals] at hO
  obtain ⟨ra, rc, e1, ho⟩ := U.own_plain (fs := U.E 2) hO hfit (by simp [U.E])
  simp only [Value.slice.injEq, true_and] at e1
  obtain ⟨rfl, rfl⟩ := e1
  obtain ⟨g1, -⟩ := of_sl od.sl
  refine ⟨.v (.int .i64 ((clL k ix nm G (intsOf K2)).length : Nat)) (.s va (pls (clL k ix nm G (intsOf K2)) (pdsOf K1)).length vc (pfo (pls (clL k ix nm G (intsOf K2)) (pdsOf K1))) (cv d.fo)), rfl, ?_, bd, ?_⟩
  · simp only [cU, ucv_cv, mkU]
    exact ⟨rfl, rfl, U.Fo.sim_refl' _, cv_sim sd⟩
  · exact ⟨U.Fo.Sub.mono (fun c hc => hc.2) ho.subs.1, ⟨U.Fo.Sub.mono (fun c hc => hc.2) g1, trivial⟩⟩

theorem ints_wt : ∀ {n : Nat} {F : U.Fo}, U.Fit U.E F (U.rep (U.E 3) n) → F.wt = 0
  | 0, F, h => by
    obtain rfl := U.fit_nil h
    rfl
  | n + 1, F, h => by
    replace h : U.Fit U.E F ([.i] ++ U.rep (U.E 3) n) := h
    obtain ⟨x, F1, rfl, h2, h⟩ := U.fit_i h
    have := ints_wt (n := n) h
    simp only [U.Fo.wt, U.textSize, this]

end Go.Proofs.Ytcnbnhoeobdbnaa
