import Derived.Test.YthnmjebbeneloaaJC
import Derived.Test.YthnmjebbeneloaaUx
namespace Go.Proofs.Ythnmjebbeneloaa
open Go.RowKit Go.Joins

/-- Texts as a row. -/
def txF : List ByteArray → Fo
  | [] => .nil
  | x :: r => .v (.string x) (txF r)

theorem txF_vals : ∀ L : List ByteArray, (txF L).vals = L.map Value.string
  | [] => rfl
  | x :: r => by simp only [txF, Fo.vals, List.map_cons, txF_vals r]

theorem txF_len : ∀ L : List ByteArray, (txF L).len = L.length
  | [] => rfl
  | x :: r => by simp only [txF, Fo.len, List.length_cons, txF_len r]

theorem txF_ct : ∀ L : List ByteArray, (txF L).ct = L.length
  | [] => rfl
  | x :: r => by simp only [txF, Fo.ct, List.length_cons, txF_ct r]

theorem txF_inn : ∀ L : List ByteArray, (txF L).inn = []
  | [] => rfl
  | x :: r => by simp only [txF, Fo.inn, txF_inn r]

theorem txF_subs (W : World) (S : Nat → Prop) : ∀ L : List ByteArray, (txF L).Subs W S
  | [] => trivial
  | _ :: r => txF_subs W S r

theorem txF_sim : ∀ L : List ByteArray, (txF L).sim (txF L)
  | [] => trivial
  | _ :: r => ⟨rfl, txF_sim r⟩

theorem txF_fit : ∀ L : List ByteArray, (∀ s ∈ L, s.size ≤ maxLen) → Fit E (txF L) (rep (E 0) L.length)
  | [], _ => trivial
  | x :: r, h => ⟨h x List.mem_cons_self, txF_fit r (fun s hs => h s (List.mem_cons_of_mem _ hs))⟩

theorem tx_sub {W : World} {S : Nat → Prop} {a : Option Addr} {c : Nat} {L : List ByteArray} (h : SR W S a c L) : Fo.Subs W S (.s a L.length c (txF L) .nil) := by
  refine ⟨⟨h.le, h.mx, fun hl => ?_⟩, trivial⟩
  rw [txF_len] at hl
  obtain ⟨b, o, e, s, hc⟩ := h.at_ (List.length_pos_iff.1 hl)
  refine ⟨b, o, e, s, fun j v hv => ?_, txF_subs W S L⟩
  rw [txF_vals, List.getElem?_map] at hv
  cases hL : L[j]? with
  | none =>
    rw [hL] at hv
    cases hv
  | some z =>
    rw [hL] at hv
    have e : Value.string z = v := Option.some.inj hv
    rw [← e]
    exact hc j z hL

/-- The classes of the tables. -/
def clsF : Fo → Fo
  | .s _ _ _ _ (.s _ _ _ _ (.s _ _ _ _ (.s _ _ _ CL _))) => CL
  | _ => .nil

theorem strs_sim : ∀ (A B : Fo), A.sim B → strs A = strs B
  | .nil, .nil, _ => rfl
  | .v x r, .v y q, h => by
    obtain ⟨rfl, h2⟩ := h
    have e := strs_sim r q h2
    cases x <;> simp only [strs, e]
  | .s _ _ _ _ _, .s _ _ _ _ _, _ => rfl
  | .nil, .v _ _, h => h.elim
  | .nil, .s _ _ _ _ _, h => h.elim
  | .v _ _, .nil, h => h.elim
  | .v _ _, .s _ _ _ _ _, h => h.elim
  | .s _ _ _ _ _, .nil, h => h.elim
  | .s _ _ _ _ _, .v _ _, h => h.elim

theorem sups_sim (x : ByteArray) : ∀ (n : Nat) (A B : Fo), Fit E B (rep (E 1) n) → A.sim B → supsOf A x = supsOf B x
  | 0, A, B, hf, h => by
    have e := fit_nil hf
    subst e
    have e2 := Fo.sim_nil h
    subst e2
    rfl
  | n + 1, A, B, hf, h => by
    replace hf : Fit E B ([.t, .s 0, .s 0] ++ rep (E 1) n) := hf
    obtain ⟨x0, F0, rfl, -, hf⟩ := fit_t hf
    obtain ⟨p1, m1, e1, S1, F1, rfl, -, hf⟩ := fit_s hf
    obtain ⟨p2, m2, e2, S2, F2, rfl, -, hf⟩ := fit_s hf
    obtain ⟨G0, rfl, h1⟩ := Fo.sim_v h
    obtain ⟨d1, f1, T1, G1, rfl, hS1, h2⟩ := Fo.sim_s h1
    obtain ⟨d2, f2, T2, G2, rfl, -, h3⟩ := Fo.sim_s h2
    simp only [supsOf, strs_sim T1 S1 hS1, sups_sim x n G2 F2 hf h3]

open Classical in
/-- The first shortest way. -/
noncomputable def spS (sup : ByteArray → List ByteArray) (fr tg : ByteArray) : List ByteArray := if h : ∃ R, SP sup fr tg R then Classical.choose h else []

noncomputable def spR (F : Fo) (fr tg : ByteArray) : List ByteArray := spS (supsOf (clsF F)) fr tg

theorem spR_eq {F : Fo} {fr tg : ByteArray} {R : List ByteArray} (h : SP (supsOf (clsF F)) fr tg R) : R = spR F fr tg := by
  have hx : ∃ R, SP (supsOf (clsF F)) fr tg R := ⟨R, h⟩
  have e : spR F fr tg = Classical.choose hx := by simp only [spR, spS, dif_pos hx]
  rw [e]
  exact h.one (Classical.choose_spec hx)

/-- The answer. -/
noncomputable def spU (F : Fo) (fr tg : ByteArray) : Fo := .s none (spR F fr tg).length (spR F fr tg).length (txF (spR F fr tg)) .nil

theorem tabs_open {F : Fo} (hf : Fit E F [.s 3, .s 4, .s 7, .s 1, .s 6]) : ∃ v0 v1 v2 v4 a n c, (∃ a n c, v0 = Value.slice a n c) ∧ (∃ a n c, v1 = Value.slice a n c) ∧ (∃ a n c, v2 = Value.slice a n c) ∧ (∃ a n c, v4 = Value.slice a n c) ∧ F.vals = [v0, v1, v2, .slice a n c, v4] ∧ Fit E (clsF F) (rep (E 1) n) ∧ (clsF F).wt ≤ F.wt ∧ ∀ W S, F.Subs W S → (clsF F).Sub W S a n c := by
  obtain ⟨a0, n0, c0, k0, F0, rfl, -, hf⟩ := fit_s hf
  obtain ⟨a1, n1, c1, k1, F1, rfl, -, hf⟩ := fit_s hf
  obtain ⟨a2, n2, c2, k2, F2, rfl, -, hf⟩ := fit_s hf
  obtain ⟨a3, n3, c3, k3, F3, rfl, h3, hf⟩ := fit_s hf
  obtain ⟨a4, n4, c4, k4, F4, rfl, -, hf⟩ := fit_s hf
  obtain rfl := fit_nil hf
  refine ⟨_, _, _, _, a3, n3, c3, ⟨_, _, _, rfl⟩, ⟨_, _, _, rfl⟩, ⟨_, _, _, rfl⟩, ⟨_, _, _, rfl⟩, rfl, h3, ?_, fun W S h => h.2.2.2.1⟩
  simp only [clsF, Fo.wt]
  omega

theorem spR_sim {F G : Fo} (fr tg : ByteArray) (hf : Fit E F [.s 3, .s 4, .s 7, .s 1, .s 6]) (h : G.sim F) : spR G fr tg = spR F fr tg := by
  have e : supsOf (clsF G) = supsOf (clsF F) := by
    obtain ⟨a0, n0, c0, k0, F0, rfl, -, hf⟩ := fit_s hf
    obtain ⟨a1, n1, c1, k1, F1, rfl, -, hf⟩ := fit_s hf
    obtain ⟨a2, n2, c2, k2, F2, rfl, -, hf⟩ := fit_s hf
    obtain ⟨a3, n3, c3, k3, F3, rfl, h3, hf⟩ := fit_s hf
    obtain ⟨d0, e0, j0, G0, rfl, -, g1⟩ := Fo.sim_s h
    obtain ⟨d1, e1, j1, G1, rfl, -, g2⟩ := Fo.sim_s g1
    obtain ⟨d2, e2, j2, G2, rfl, -, g3⟩ := Fo.sim_s g2
    obtain ⟨d3, e3, j3, G3, rfl, hk, -⟩ := Fo.sim_s g3
    funext x
    exact sups_sim x n3 j3 k3 h3 hk
  simp only [spR, e]

theorem sp_bounds {CL : Fo} {n : Nat} {fr tg : ByteArray} {R : List ByteArray} (hf : Fit E CL (rep (E 1) n)) (hwt : CL.wt ≤ 1048576) (h : SP (supsOf CL) fr tg R) : R.length ≤ 1048577 ∧ ∀ s ∈ R, s.size ≤ 1048576 := by
  obtain ⟨hU, hUl⟩ := sups_all n CL hf
  have hnil : ([] : List ByteArray).length ≤ 1048577 ∧ ∀ s ∈ ([] : List ByteArray), s.size ≤ 1048576 := ⟨Nat.zero_le _, fun s hs => absurd hs List.not_mem_nil⟩
  rcases h with ⟨-, rfl⟩ | ⟨-, ⟨m, hm, -⟩ | ⟨-, rfl⟩⟩
  · exact hnil
  · have hw := (freshW_sub fr _ _ _ (by rw [← lev_walks]; exact hm)).1
    obtain ⟨w1, w2⟩ := walks_len (sup := supsOf CL) m fr R hw
    have hlv : (levN (supsOf CL) fr m).1 ≠ [] := by
      rw [← (lev_levN (supsOf CL) fr m).1]
      exact List.ne_nil_of_mem (List.mem_map.2 ⟨_, hm, rfl⟩)
    have hfar := levN_far (supsOf CL) fr m hlv
    have hlen := levN_len (supsOf CL) fr (allS CL) hU m
    refine ⟨by omega, fun s hs => ?_⟩
    obtain ⟨a, ha⟩ := w2 s hs
    have := allS_sz CL s (hU a s ha)
    omega
  · exact hnil

theorem blk_one (g n : Nat) : (blk (some ⟨g, 0, none⟩) n).Nodup ∧ ∀ c ∈ blk (some ⟨g, 0, none⟩) n, c = g := by
  cases n with
  | zero => exact ⟨List.nodup_nil, fun c hc => absurd hc List.not_mem_nil⟩
  | succ n => exact ⟨by simp [blk], fun c hc => by simpa [blk] using hc⟩

theorem m_SP (F : Fo) (fr tg : ByteArray) (W : World) (hf : Fit E F [.s 3, .s 4, .s 7, .s 1, .s 6]) (hwt : F.wt ≤ 1048576) (hs : F.Subs W (fun c => c < W.heap.size)) :
    Calls Try.prog 5 #[.agg F.vals.toArray, .string fr, .string tg] W fun e W' => ∃ (p : Option Addr) (q : Nat) (R : Fo), e = .returned (.slice p (spR F fr tg).length q) ∧ R.vals = [.slice p (spR F fr tg).length q] ∧ R.sim (spU F fr tg) ∧ R.Subs W' (fun c => c < W'.heap.size) ∧ Hid (Below W.heap.size W W') := by
  obtain ⟨v0, v1, v2, v4, a, n, c, h0, h1, h2, h4, hv, hc, hw, hsub⟩ := tabs_open hf
  rw [hv]
  refine (m_SuperPath v0 v1 v2 v4 a n c (clsF F) fr tg W h0 h1 h2 h4 hc (by omega) (hsub _ _ hs)).mono ?_
  rintro e W' ⟨ra, rc, R, rfl, hsp, hsr, hb⟩
  have e := spR_eq hsp
  subst e
  exact ⟨ra, rc, .s ra _ rc (txF (spR F fr tg)) .nil, rfl, rfl, ⟨rfl, txF_sim _, trivial⟩, tx_sub hsr, hb⟩

theorem i_SP (F : Fo) (fr tg : ByteArray) (W : World) (hf : Fit E F [.s 3, .s 4, .s 7, .s 1, .s 6]) (hwt : F.wt ≤ 1048576) (hs : F.Subs W (fun c => c < W.heap.size)) :
    Calls Try.prog 7 #[.agg F.vals.toArray, .string fr, .string tg] W fun e W' => ∃ (p : Option Addr) (q : Nat) (R : Fo), e = .returned (.slice p (spR F fr tg).length q) ∧ R.vals = [.slice p (spR F fr tg).length q] ∧ R.sim (spU F fr tg) ∧ Own W.heap.size W' R ∧ Hid (Below W.heap.size W W') := by
  obtain ⟨v0, v1, v2, v4, a, n, c, h0, h1, h2, h4, hv, hc, hw, hsub⟩ := tabs_open hf
  rw [hv]
  refine (i_SuperPath v0 v1 v2 v4 a n c (clsF F) fr tg W h0 h1 h2 h4 hc (by omega) (hsub _ _ hs)).mono ?_
  rintro e W' ⟨R, hsp, ha, hb⟩
  have e := spR_eq hsp
  rcases ha with ⟨e2, rfl⟩ | ⟨g, cc, rfl, hl, hm, hrb, hg⟩
  · rw [← e, e2]
    refine ⟨none, 0, .s none 0 0 .nil .nil, rfl, rfl, ?_, ⟨⟨⟨Nat.le_refl _, Nat.zero_le _, fun h => absurd h (Nat.lt_irrefl _)⟩, trivial⟩, ?_, ?_⟩, hb⟩
    · show _ = _ ∧ _
      rw [← e, e2]
      exact ⟨rfl, trivial, trivial⟩
    · exact List.nodup_nil
    · intro c hc
      cases hc
  · rw [← e]
    refine ⟨some ⟨g, 0, none⟩, cc, .s (some ⟨g, 0, none⟩) R.length cc (txF R) .nil, rfl, rfl, ?_, ⟨tx_sub ⟨hl, hm, fun _ => ⟨g, 0, rfl, ⟨hg, hrb.lt⟩, fun i x hx => by rw [Nat.zero_add]; exact hrb.cel i x hx⟩⟩, ?_, ?_⟩, hb⟩
    · show _ = _ ∧ _
      rw [← e]
      exact ⟨rfl, txF_sim _, trivial⟩
    · simp only [Fo.inn, txF_inn, List.append_nil]
      exact (blk_one g _).1
    · intro c hc j
      simp only [Fo.inn, txF_inn, List.append_nil] at hc
      rw [(blk_one g _).2 c hc]
      exact hrb.live j

theorem spU_fit {F : Fo} (fr tg : ByteArray) (hf : Fit E F [.s 3, .s 4, .s 7, .s 1, .s 6]) (hwt : F.wt ≤ 1048576) : Fit E (spU F fr tg) [.s 0] ∧ (spU F fr tg).sct ≤ 1048577 := by
  obtain ⟨v0, v1, v2, v4, a, n, c, h0, h1, h2, h4, hv, hc, hw, hsub⟩ := tabs_open hf
  have hb : (spR F fr tg).length ≤ 1048577 ∧ ∀ s ∈ spR F fr tg, s.size ≤ 1048576 := by
    by_cases hx : ∃ R, SP (supsOf (clsF F)) fr tg R
    · obtain ⟨R, hR⟩ := hx
      have e := spR_eq hR
      rw [← e]
      exact sp_bounds hc (by omega) hR
    · have e : spR F fr tg = [] := by simp only [spR, spS, dif_neg hx]
      rw [e]
      exact ⟨Nat.zero_le _, fun s hs => absurd hs List.not_mem_nil⟩
  refine ⟨⟨txF_fit _ (fun s hs => by have := hb.2 s hs; unfold maxLen; omega), trivial⟩, ?_⟩
  simp only [spU, Fo.sct, txF_ct]
  exact hb.1

theorem spU_sim {F G : Fo} (fr tg : ByteArray) (hf : Fit E F [.s 3, .s 4, .s 7, .s 1, .s 6]) (h : G.sim F) : (spU G fr tg).sim (spU F fr tg) := by
  rw [spU, spU, spR_sim fr tg hf h]
  exact ⟨rfl, txF_sim _, trivial⟩

theorem hEM : ∀ k, (E k).length ≤ 8 := by
  intro k
  match k with
  | 0 | 1 | 2 | 3 | 4 | 5 | 6 | 7 => simp [E]
  | _ + 8 => simp [E]

end Go.Proofs.Ythnmjebbeneloaa
