import Derived.Test.YtcnokpaicnjkfaaJM
import Derived.Test.YtcnokpaicnjkfaaUx
namespace Go.Proofs.Ytcnokpaicnjkfaa
open Go.RowKit Go.Joins

/-- Texts as a row. -/
def txF : List ByteArray → Fo
  | [] => .nil
  | x :: r => .v (.string x) (txF r)

theorem txF_vals : ∀ L : List ByteArray, (txF L).vals = L.map Value.string
  | [] => rfl
  | x :: r => by simp only [txF, Fo.vals, List.map_cons, txF_vals r]

theorem txF_len : ∀ L : List ByteArray, (txF L).len = L.length
  | [] => rfl
  | x :: r => by simp only [txF, Fo.len, List.length_cons, txF_len r]

theorem txF_ct : ∀ L : List ByteArray, (txF L).ct = L.length
  | [] => rfl
  | x :: r => by simp only [txF, Fo.ct, List.length_cons, txF_ct r]

theorem txF_inn : ∀ L : List ByteArray, (txF L).inn = []
  | [] => rfl
  | x :: r => by simp only [txF, Fo.inn, txF_inn r]

theorem txF_subs (W : World) (S : Nat → Prop) : ∀ L : List ByteArray, (txF L).Subs W S
  | [] => trivial
  | _ :: r => txF_subs W S r

theorem txF_sim : ∀ L : List ByteArray, (txF L).sim (txF L)
  | [] => trivial
  | _ :: r => ⟨rfl, txF_sim r⟩

theorem txF_fit : ∀ L : List ByteArray, (∀ s ∈ L, s.size ≤ maxLen) → Fit E (txF L) (rep (E 1) L.length)
  | [], _ => trivial
  | x :: r, h => ⟨h x List.mem_cons_self, txF_fit r (fun s hs => h s (List.mem_cons_of_mem _ hs))⟩

theorem tx_sub {W : World} {S : Nat → Prop} {a : Option Addr} {c : Nat} {L : List ByteArray} (h : SR W S a c L) : Fo.Subs W S (.s a L.length c (txF L) .nil) := by
  refine ⟨⟨h.le, h.mx, fun hl => ?_⟩, trivial⟩
  rw [txF_len] at hl
  obtain ⟨b, o, e, s, hc⟩ := h.at_ (List.length_pos_iff.1 hl)
  refine ⟨b, o, e, s, fun j v hv => ?_, txF_subs W S L⟩
  rw [txF_vals, List.getElem?_map] at hv
  cases hL : L[j]? with
  | none =>
    rw [hL] at hv
    cases hv
  | some z =>
    rw [hL] at hv
    have e : Value.string z = v := Option.some.inj hv
    rw [← e]
    exact hc j z hL

/-- All names of terms are texts. -/
def Tm.txt : Tm → Prop
  | .nil => True
  | .nd h ks al r => (h.nm.size ≤ maxLen ∧ (∀ x ∈ h.ns, x.size ≤ maxLen) ∧ ∀ x ∈ h.cs, x.size ≤ maxLen) ∧ ks.txt ∧ al.txt ∧ r.txt

theorem all_txt : ∀ (t : Tm), t.txt → ∀ x ∈ t.all, x.size ≤ maxLen
  | .nil, _, x, hx => by simp [Tm.all] at hx
  | .nd h ks al r, ha, x, hx => by
    obtain ⟨⟨h0, h1, h2⟩, h3, h4, h5⟩ := ha
    simp only [Tm.all, List.mem_append] at hx
    rcases hx with hx | hx | hx | hx | hx | hx
    · exact h2 x hx
    · unfold own1 at hx
      split at hx
      · rw [List.mem_singleton] at hx
        rw [hx]
        exact h0
      · simp at hx
    · exact h1 x hx
    · exact all_txt ks h3 x hx
    · exact all_txt al h4 x hx
    · exact all_txt r h5 x hx

theorem adds_in : ∀ (M L : List ByteArray) (x : ByteArray), x ∈ adds L M → x ∈ L ∨ x ∈ M
  | [], L, x, h => .inl h
  | y :: M, L, x, h => by
    unfold adds at h
    rcases adds_in M _ x h with h | h
    · split at h
      · exact .inl h
      · rw [List.mem_append, List.mem_singleton] at h
        rcases h with h | h
        · exact .inl h
        · exact .inr (by rw [h]; exact List.mem_cons_self)
    · exact .inr (List.mem_cons_of_mem _ h)

theorem nodes_cnt : ∀ t : Tm, t.nodes ≤ t.cnt
  | .nil => Nat.le_refl _
  | .nd h ks al r => by
    have h1 := nodes_cnt ks
    have h2 := nodes_cnt al
    have h3 := nodes_cnt r
    simp only [Tm.nodes, Tm.cnt]
    omega

theorem rdS_sim : ∀ (A B : Fo), A.sim B → rdS A = rdS B
  | .nil, .nil, _ => rfl
  | .v x r, .v y q, h => by
    obtain ⟨rfl, h2⟩ := h
    have e := rdS_sim r q h2
    cases x <;> simp only [rdS, e]
  | .s _ _ _ _ _, .s _ _ _ _ _, _ => rfl
  | .nil, .v _ _, h => h.elim
  | .nil, .s _ _ _ _ _, h => h.elim
  | .v _ _, .nil, h => h.elim
  | .v _ _, .s _ _ _ _ _, h => h.elim
  | .s _ _ _ _ _, .nil, h => h.elim
  | .s _ _ _ _ _, .v _ _, h => h.elim

theorem rdU_sim : ∀ (A B : Fo), A.sim B → rdU A = rdU B
  | .nil, .nil, _ => rfl
  | .v x r, .v y q, h => by
    obtain ⟨rfl, h2⟩ := h
    have e := rdU_sim r q h2
    cases x <;> simp only [rdU, e]
  | .s _ _ _ _ _, .s _ _ _ _ _, _ => rfl
  | .nil, .v _ _, h => h.elim
  | .nil, .s _ _ _ _ _, h => h.elim
  | .v _ _, .nil, h => h.elim
  | .v _ _, .s _ _ _ _ _, h => h.elim
  | .s _ _ _ _ _, .nil, h => h.elim
  | .s _ _ _ _ _, .v _ _, h => h.elim

/-- What stands for the same reads the same. -/
theorem rd_sim : ∀ (m : Nat), (∀ (F G : Fo) (n : Nat), F.size ≤ m → Fit E F (rep (E 3) n) → (rdK F).txt ∧ (G.sim F → rdK G = rdK F)) ∧ (∀ (F G : Fo) (n : Nat), F.size ≤ m → Fit E F (rep (E 2) n) → (rdA F).txt ∧ (G.sim F → rdA G = rdA F)) := by
  intro m
  induction m with
  | zero =>
    refine ⟨fun F G n hm hf => ?_, fun F G n hm hf => ?_⟩
    · cases F with
      | nil => exact ⟨by rw [rdK_nil]; trivial, fun h => by rw [Fo.sim_nil h]⟩
      | v _ _ => simp [Fo.size] at hm
      | s _ _ _ _ _ => simp [Fo.size] at hm
    · cases F with
      | nil => exact ⟨by rw [rdA_nil]; trivial, fun h => by rw [Fo.sim_nil h]⟩
      | v _ _ => simp [Fo.size] at hm
      | s _ _ _ _ _ => simp [Fo.size] at hm
  | succ m ih =>
    obtain ⟨ihK, ihA⟩ := ih
    refine ⟨fun F G n hm hf => ?_, fun F G n hm hf => ?_⟩
    · cases n with
      | zero =>
        rw [fit_nil hf]
        exact ⟨by rw [rdK_nil]; trivial, fun h => by rw [Fo.sim_nil h]⟩
      | succ n =>
        replace hf : Fit E F ([.i, .t, .b, .s 0, .s 1, .s 3, .s 2] ++ rep (E 3) n) := hf
        obtain ⟨k, F0, rfl, -, hf⟩ := fit_i hf
        obtain ⟨nm, F1, rfl, hnm, hf⟩ := fit_t hf
        obtain ⟨mn, F2, rfl, hf⟩ := fit_b hf
        obtain ⟨la, ln, lc, lk, F3, rfl, h3, hf⟩ := fit_s hf
        obtain ⟨na, nn, nc, nk, F4, rfl, h4, hf⟩ := fit_s hf
        obtain ⟨ka, kn, kc, kk, F5, rfl, h5, hf⟩ := fit_s hf
        obtain ⟨aa, an, ac, ak, F6, rfl, h6, hf⟩ := fit_s hf
        simp only [Fo.size] at hm
        have a1 := fun G => ihK kk G kn (by omega) h5
        have a2 := fun G => ihA ak G an (by omega) h6
        have a3 := fun G => ihK F6 G n (by omega) hf
        refine ⟨by rw [rdK_nd]; exact ⟨⟨hnm, rdS_sz nn nk h4, fun x hx => by simp at hx⟩, (a1 .nil).1, (a2 .nil).1, (a3 .nil).1⟩, fun h => ?_⟩
        obtain ⟨G0, rfl, g0⟩ := Fo.sim_v h
        obtain ⟨G1, rfl, g1⟩ := Fo.sim_v g0
        obtain ⟨G2, rfl, g2⟩ := Fo.sim_v g1
        obtain ⟨d3, e3, j3, G3, rfl, s3, g3⟩ := Fo.sim_s g2
        obtain ⟨d4, e4, j4, G4, rfl, s4, g4⟩ := Fo.sim_s g3
        obtain ⟨d5, e5, j5, G5, rfl, s5, g5⟩ := Fo.sim_s g4
        obtain ⟨d6, e6, j6, G6, rfl, s6, g6⟩ := Fo.sim_s g5
        rw [rdK_nd, rdK_nd, rdU_sim _ _ s3, rdS_sim _ _ s4, (a1 _).2 s5, (a2 _).2 s6, (a3 _).2 g6]
    · cases n with
      | zero =>
        rw [fit_nil hf]
        exact ⟨by rw [rdA_nil]; trivial, fun h => by rw [Fo.sim_nil h]⟩
      | succ n =>
        replace hf : Fit E F ([.t, .s 1, .i, .t, .b, .s 0, .s 1, .s 3, .s 2] ++ rep (E 2) n) := hf
        obtain ⟨con, E0, rfl, -, hf⟩ := fit_t hf
        obtain ⟨ca, cn, cc, ck, E1, rfl, h0, hf⟩ := fit_s hf
        obtain ⟨k, F0, rfl, -, hf⟩ := fit_i hf
        obtain ⟨nm, F1, rfl, hnm, hf⟩ := fit_t hf
        obtain ⟨mn, F2, rfl, hf⟩ := fit_b hf
        obtain ⟨la, ln, lc, lk, F3, rfl, h3, hf⟩ := fit_s hf
        obtain ⟨na, nn, nc, nk, F4, rfl, h4, hf⟩ := fit_s hf
        obtain ⟨ka, kn, kc, kk, F5, rfl, h5, hf⟩ := fit_s hf
        obtain ⟨aa, an, ac, ak, F6, rfl, h6, hf⟩ := fit_s hf
        simp only [Fo.size] at hm
        have a1 := fun G => ihK kk G kn (by omega) h5
        have a2 := fun G => ihA ak G an (by omega) h6
        have a3 := fun G => ihA F6 G n (by omega) hf
        refine ⟨by rw [rdA_nd]; exact ⟨⟨hnm, rdS_sz nn nk h4, rdS_sz cn ck h0⟩, (a1 .nil).1, (a2 .nil).1, (a3 .nil).1⟩, fun h => ?_⟩
        obtain ⟨D0, rfl, g0⟩ := Fo.sim_v h
        obtain ⟨d0, e0, j0, D1, rfl, s0, g1⟩ := Fo.sim_s g0
        obtain ⟨G0, rfl, g2⟩ := Fo.sim_v g1
        obtain ⟨G1, rfl, g3⟩ := Fo.sim_v g2
        obtain ⟨G2, rfl, g4⟩ := Fo.sim_v g3
        obtain ⟨d3, e3, j3, G3, rfl, s3, g5⟩ := Fo.sim_s g4
        obtain ⟨d4, e4, j4, G4, rfl, s4, g6⟩ := Fo.sim_s g5
        obtain ⟨d5, e5, j5, G5, rfl, s5, g7⟩ := Fo.sim_s g6
        obtain ⟨d6, e6, j6, G6, rfl, s6, g8⟩ := Fo.sim_s g7
        rw [rdA_nd, rdA_nd, rdS_sim _ _ s0, rdU_sim _ _ s3, rdS_sim _ _ s4, (a1 _).2 s5, (a2 _).2 s6, (a3 _).2 g8]

theorem core_rep {F : Fo} (hf : Fit E F (E 3)) : Fit E F (rep (E 3) 1) := hf

/-- The answer. -/
noncomputable def fnU (F : Fo) : Fo := .s none (allN (rdK F)).length (allN (rdK F)).length (txF (allN (rdK F))) .nil

theorem fnU_sim {F G : Fo} (hf : Fit E F (E 3)) (h : G.sim F) : (fnU G).sim (fnU F) := by
  rw [fnU, fnU, ((rd_sim F.size).1 F G 1 (Nat.le_refl _) (core_rep hf)).2 h]
  exact ⟨rfl, txF_sim _, trivial⟩

theorem an_zero : ∀ t : Tm, Ytcnokpaicnjkfaa.F.Cs0 false t → t.an = 0
  | .nil, _ => rfl
  | .nd h ks al r, hc => by
    obtain ⟨h1, -, -, h4⟩ := hc
    simp only [Tm.an, h1 rfl, an_zero r h4, List.length_nil]

theorem all_cnt : ∀ (t : Tm) (alt : Bool), Ytcnokpaicnjkfaa.F.Cs0 alt t → t.all.length ≤ t.cnt + t.an
  | .nil, _, _ => Nat.zero_le _
  | .nd h ks al r, alt, hc => by
    obtain ⟨-, c2, c3, c4⟩ := hc
    have h1 := all_cnt ks _ c2
    have h2 := all_cnt al _ c3
    have h3 := all_cnt r _ c4
    have h4 := own1_len h.k h.nm
    have h5 := an_zero ks c2
    simp only [Tm.all, Tm.cnt, Tm.an, List.length_append]
    omega

theorem allN_len (G : Fo) : (allN (rdK G)).length ≤ 60000 := by
  unfold allN
  split
  · rename_i h
    have h0 := (Ytcnokpaicnjkfaa.F.cs0_rd G.size G (Nat.le_refl _)).1
    have h1 := adds_len (rdK G).all []
    have h2 := all_cnt (rdK G) _ h0
    have h3 := an_zero (rdK G) h0
    have h4 := h.1.1
    simp only [List.length_nil] at h1
    omega
  · exact Nat.zero_le _

theorem fnU_fit {F : Fo} (hf : Fit E F (E 3)) : Fit E (fnU F) [.s 1] ∧ (fnU F).sct ≤ 1048577 := by
  refine ⟨⟨txF_fit _ (fun s hs => ?_), trivial⟩, ?_⟩
  · unfold allN at hs
    split at hs
    · rcases adds_in _ _ s hs with h | h
      · simp at h
      · exact all_txt _ ((rd_sim F.size).1 F .nil 1 (Nat.le_refl _) (core_rep hf)).1 s h
    · simp at hs
  · simp only [fnU, Fo.sct, txF_ct]
    have := allN_len F
    omega

theorem blk_one (g n : Nat) : (blk (some ⟨g, 0, none⟩) n).Nodup ∧ ∀ c ∈ blk (some ⟨g, 0, none⟩) n, c = g := by
  cases n with
  | zero => exact ⟨List.nodup_nil, fun c hc => absurd hc List.not_mem_nil⟩
  | succ n => exact ⟨by simp [blk], fun c hc => by simpa [blk] using hc⟩

theorem m_FN (F : Fo) (W : World) (hf : Fit E F (E 3)) (hwt : F.wt ≤ 1048576) (hs : F.Subs W (fun c => c < W.heap.size)) :
    Calls Try.prog 5 #[.agg F.vals.toArray] W fun e W' => ∃ (p : Option Addr) (q : Nat) (R : Fo), e = .returned (.slice p (allN (rdK F)).length q) ∧ R.vals = [.slice p (allN (rdK F)).length q] ∧ R.sim (fnU F) ∧ R.Subs W' (fun c => c < W'.heap.size) ∧ Hid (Below W.heap.size W W') := by
  refine (m_all F W hf hwt hs).mono ?_
  rintro e W' ⟨a, c, rfl, ho, hb⟩
  obtain ⟨a', c', e1, -, hsr⟩ := sr_row ho
  cases e1
  exact ⟨a, c, .s a _ c (txF (allN (rdK F))) .nil, rfl, rfl, ⟨rfl, txF_sim _, trivial⟩, tx_sub hsr, hb⟩

theorem i_FN (F : Fo) (W : World) (hf : Fit E F (E 3)) (hwt : F.wt ≤ 1048576) (hs : F.Subs W (fun c => c < W.heap.size)) :
    Calls Try.prog 7 #[.agg F.vals.toArray] W fun e W' => ∃ (p : Option Addr) (q : Nat) (R : Fo), e = .returned (.slice p (allN (rdK F)).length q) ∧ R.vals = [.slice p (allN (rdK F)).length q] ∧ R.sim (fnU F) ∧ Own W.heap.size W' R ∧ Hid (Below W.heap.size W W') := by
  refine (i_all F W hf hwt hs).mono ?_
  rintro e W' ⟨a, c, rfl, ho, hb⟩
  obtain ⟨a', c', e1, -, hsr⟩ := sr_row ho
  cases e1
  have hlo := World.ownsRow.lt ho
  refine ⟨a, c, .s a _ c (txF (allN (rdK F))) .nil, rfl, rfl, ⟨rfl, txF_sim _, trivial⟩, ⟨tx_sub ⟨hsr.le, hsr.mx, fun hl => ?_⟩, ?_, ?_⟩, hb⟩
  · obtain ⟨b, o, e, s, hc⟩ := hsr.at_ hl
    exact ⟨b, o, e, ⟨(hlo b (by rw [e]; rfl)).1, s⟩, hc⟩
  · rcases ho.2 with ⟨e1, e2⟩ | ⟨g, cap, cur, e1, -⟩
    · obtain ⟨rfl, e3, rfl⟩ := Value.slice.inj e1
      simp only [Fo.inn, txF_inn, List.append_nil]
      simp [blk]
    · obtain ⟨rfl, e3, rfl⟩ := Value.slice.inj e1
      simp only [Fo.inn, txF_inn, List.append_nil]
      exact (blk_one g _).1
  · rcases ho.2 with ⟨e1, e2⟩ | ⟨g, cap, cur, e1, h2, h3, -⟩
    · obtain ⟨rfl, e3, rfl⟩ := Value.slice.inj e1
      intro c hc
      simp only [Fo.inn, txF_inn, List.append_nil] at hc
      simp [blk] at hc
    · obtain ⟨rfl, e3, rfl⟩ := Value.slice.inj e1
      intro c hc j
      simp only [Fo.inn, txF_inn, List.append_nil] at hc
      rw [(blk_one g _).2 c hc]
      simp [World.frozen?, h3]

theorem hEM : ∀ k, (E k).length ≤ 9 := E_len

end Go.Proofs.Ytcnokpaicnjkfaa
