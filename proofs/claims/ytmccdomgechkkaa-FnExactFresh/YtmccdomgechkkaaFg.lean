import Derived.Test.YtmccdomgechkkaaFf
namespace Go.Proofs.Ytmccdomgechkkaa
open Go.RowKit Go.Joins

/-- What number leaves. -/
structure Nu (W W' : World) (B0 b M : Nat) (g1 g2 g3 : Option Nat) (T : List ByteArray) (L : List Nat) (x : ByteArray) (i : Nat) (T' : List ByteArray) (L' : List Nat) (h1 h2 h3 : Option Nat) : Prop where
  nb : NB W' B0 b M h1 h2 h3 T' L'
  at_ : T'[i]? = some x
  ext : (T' = T ∧ L' = L) ∨ (¬ x ∈ T ∧ T' = T ++ [x] ∧ L' = L ++ [0])
  ch : Ch W W' b M g1 g2 g3 h1 h2 h3

theorem i_number {W : World} {B0 b M : Nat} {g1 g2 g3 : Option Nat} {T : List ByteArray} {L : List Nat} (h : NB W B0 b M g1 g2 g3 T L) (x : ByteArray) (hx : x.size ≤ 16777216) (hT : T.length ≤ 16777216) (hB : B0 ≤ W.heap.size) :
    Calls Try.prog 13 #[.pointer (some ⟨b, 0, none⟩), .string x] W fun e W' => ∃ (i : Nat) (T' : List ByteArray) (L' : List Nat) (h1 h2 h3 : Option Nat), e = .returned (.int .i64 i) ∧ Nu W W' B0 b M g1 g2 g3 T L x i T' L' h1 h2 h3 := by
  by_cases hm : x ∈ T
  · obtain ⟨i, hi⟩ := List.getElem?_of_mem hm
    refine (num_old h x i hi).mono ?_
    rintro e W' ⟨rfl, rfl⟩
    exact ⟨i, T, L, g1, g2, g3, rfl, h, hi, .inl ⟨rfl, rfl⟩, Ch.refl _ _ _ _ _ _⟩
  · refine (num_new h x hm hx hT hB).mono ?_
    rintro e W' ⟨rfl, h1, h2, h3, n1, n2⟩
    exact ⟨T.length, T ++ [x], L ++ [0], h1, h2, h3, rfl, n1, by simp, .inr ⟨hm, rfl, rfl⟩, n2⟩

/-- Of each name the next one, where it is known. -/
def LI (T : List ByteArray) (L : List Nat) : Prop := ∀ (i n : Nat) (t : ByteArray), L[i]? = some n → n ≠ 0 → T[i]? = some t → T[n]? = some (t ++ ⟨#[39]⟩)

theorem pre_get {T T' : List ByteArray} (h : T <+: T') {i : Nat} {t : ByteArray} (hi : T[i]? = some t) : T'[i]? = some t := by
  obtain ⟨S, rfl⟩ := h
  rw [List.getElem?_append_left (List.getElem?_eq_some_iff.1 hi).1]
  exact hi

theorem Nu.pre {W W' : World} {B0 b M : Nat} {g1 g2 g3 : Option Nat} {T : List ByteArray} {L : List Nat} {x : ByteArray} {i : Nat} {T' : List ByteArray} {L' : List Nat} {h1 h2 h3 : Option Nat} (h : Nu W W' B0 b M g1 g2 g3 T L x i T' L' h1 h2 h3) : T <+: T' ∧ T'.length ≤ T.length + 1 := by
  rcases h.ext with ⟨e, -⟩ | ⟨-, e, -⟩
  · rw [e]
    exact ⟨List.prefix_rfl, Nat.le_succ _⟩
  · rw [e]
    exact ⟨List.prefix_append _ _, by simp⟩

theorem Nu.li {W W' : World} {B0 b M : Nat} {g1 g2 g3 : Option Nat} {T : List ByteArray} {L : List Nat} {x : ByteArray} {i : Nat} {T' : List ByteArray} {L' : List Nat} {h1 h2 h3 : Option Nat} (h : Nu W W' B0 b M g1 g2 g3 T L x i T' L' h1 h2 h3) (hl : L.length = T.length) (hi : LI T L) : LI T' L' := by
  rcases h.ext with ⟨e, e2⟩ | ⟨-, e, e2⟩
  · rw [e, e2]
    exact hi
  · rw [e, e2]
    intro j n t h1 h2 h3
    rw [List.getElem?_append] at h1 h3
    split at h1
    · rename_i hj
      rw [if_pos (by omega)] at h3
      exact pre_get (List.prefix_append _ _) (hi j n t h1 h2 h3)
    · rename_i hj
      rcases Nat.eq_or_lt_of_le (Nat.le_of_not_lt hj) with e9 | e9
      · rw [← e9, Nat.sub_self] at h1
        exact absurd (Option.some.inj h1).symm h2
      · rw [List.getElem?_eq_none (by simp; omega)] at h1
        cases h1

/-- A cell of the row of next ones is set. -/
theorem NB.setL {W : World} {B0 b M q : Nat} {g1 g3 : Option Nat} {T : List ByteArray} {L : List Nat} (h : NB W B0 b M g1 (some q) g3 T L) (i k : Nat) (hi : i < L.length) : NB (W.setCell ⟨q, i, none⟩ (.int .i64 (k : Int))) B0 b M g1 (some q) g3 T (L.set i k) ∧ Ch W (W.setCell ⟨q, i, none⟩ (.int .i64 (k : Int))) b M g1 (some q) g3 g1 (some q) g3 := by
  have a := h.nx.ap
  have hq := h.nx.lo q (.inr (.inr (.inr (.inl rfl))))
  have ks : Kept (fun c => c ≠ q) W (W.setCell ⟨q, i, none⟩ (.int .i64 (k : Int))) := Kept.setCell _ _ _ _ (fun hx => hx rfl)
  have hb := (h.nx.lo b (.inl rfl)).2
  have nb : b ≠ q := fun e => a.b2 (by rw [e])
  have nM : M ≠ q := fun e => a.m2 (by rw [e])
  have hc : ∀ j, (W.setCell ⟨q, i, none⟩ (.int .i64 (k : Int))).cell? ⟨b, j, none⟩ = W.cell? ⟨b, j, none⟩ := fun j => ks.cell (p := ⟨b, j, none⟩) hb nb
  refine ⟨⟨⟨(hc 0).trans h.nx.c0, h.nx.map.kept ks nM, h.nx.r1.keep ks (hc 1) (fun c e e2 => a.g12 c e (by rw [e2])), h.nx.r2.set nb i k hi, h.nx.r3.keep ks (hc 3) (fun c e e2 => a.g23 q rfl (by rw [← e2]; exact e)), fun j => (ks.frozen (p := ⟨b, j, none⟩) hb nb).trans (h.nx.fz j), a, fun c hcc => ⟨(h.nx.lo c hcc).1, Nat.lt_of_lt_of_le (h.nx.lo c hcc).2 ks.size⟩⟩, h.nd, by rw [List.length_set]; exact h.len⟩, ⟨ks.mono (fun c _ hn e => hn (.inr (.inr (.inr (.inl (by rw [e])))))), fun _ hc => .inl hc⟩⟩

/-- What oneLonger leaves. -/
structure Ol (W W' : World) (B0 b M : Nat) (g1 g2 g3 : Option Nat) (T : List ByteArray) (t : ByteArray) (k : Nat) (T' : List ByteArray) (L' : List Nat) (h1 h2 h3 : Option Nat) : Prop where
  nb : NB W' B0 b M h1 h2 h3 T' L'
  li : LI T' L'
  at_ : T'[k]? = some (t ++ ⟨#[39]⟩)
  pre : T <+: T'
  len : T'.length ≤ T.length + 1
  ch : Ch W W' b M g1 g2 g3 h1 h2 h3

set_option maxHeartbeats 4000000 in
set_option maxRecDepth 100000 in
theorem i_longer {W : World} {B0 b M : Nat} {g1 g2 g3 : Option Nat} {T : List ByteArray} {L : List Nat} (h : NB W B0 b M g1 g2 g3 T L) (hli : LI T L) (i : Nat) (t : ByteArray) (hi : T[i]? = some t) (hx : t.size ≤ 8388608) (hT : T.length ≤ 16777216) (hB : B0 ≤ W.heap.size) :
    Calls Try.prog 17 #[.pointer (some ⟨b, 0, none⟩), .int .i64 i] W fun e W' => ∃ (k : Nat) (T' : List ByteArray) (L' : List Nat) (h1 h2 h3 : Option Nat), e = .returned (.int .i64 k) ∧ Ol W W' B0 b M g1 g2 g3 T t k T' L' h1 h2 h3 := by
  have hil : i < T.length := (List.getElem?_eq_some_iff.1 hi).1
  obtain ⟨q2, c2, e2, p2, pc2, pf2, -, -⟩ := h.nx.r2.at_ (by rw [List.length_map, h.len]; omega)
  obtain ⟨n, hn⟩ : ∃ n, n = T.length := ⟨_, rfl⟩
  rw [List.length_map, h.len, ← hn] at p2
  obtain ⟨r, hr⟩ : ∃ r, L[i]? = some r := ⟨_, List.getElem?_eq_getElem (by rw [h.len]; exact hil)⟩
  have pn : W.cell? ⟨q2, i, none⟩ = some (.int .i64 (r : Int)) := pc2 i _ (by rw [List.getElem?_map, hr]; rfl)
  have hnl : (i : Int) < (n : Int) := by omega
  have hnl2 : i < n := by omega
  by_cases hr0 : r = 0
  · subst hr0
    obtain ⟨q1, c1, e1, p1, pc1, -, -, -⟩ := h.nx.r1.at_ (by rw [List.length_map]; omega)
    rw [List.length_map, ← hn] at p1
    have pt : W.cell? ⟨q1, i, none⟩ = some (.string t) := pc1 i _ (by rw [List.getElem?_map, hi]; rfl)
    have hts : ¬ 9223372036854775807 < t.size + 1 := by omega
    have HC := hide (i_number h (t ++ ⟨#[39]⟩) (by rw [ByteArray.size_append]; show t.size + 1 ≤ _; omega) hT hB)
    have HH := hide h
    have HI := hide hi
    have HLI := hide hli
    have HIL := hide hil
    have pn' : W.cell? ⟨q2, i, none⟩ = some (.int .i64 0) := pn
    clear h hi hli hil hn hr pc1 pc2 pf2 e1 e2 hT hB pn
    go_enter Try.func17, Try.ntmps17
    go_upto_region 3 with (go_at_call 13; refine HC.out.mono ?_; rintro e W1 ⟨k, T1, L1, h1, h2, h3, rfl, nu⟩)
    have HNU := hide nu
    obtain ⟨q4, c4, e4, p4, pc4, pf4, -, -⟩ := nu.nb.nx.r2.at_ (by rw [List.length_map, nu.nb.len]; have := nu.pre.1.length_le; have := HIL.out; omega)
    obtain ⟨n4, hn4⟩ : ∃ n, n = T1.length := ⟨_, rfl⟩
    rw [List.length_map, nu.nb.len, ← hn4] at p4
    have hi4 : i < T1.length := Nat.lt_of_lt_of_le HIL.out nu.pre.1.length_le
    have hnl3 : (i : Int) < (n4 : Int) := by omega
    have hnl4 : i < n4 := by omega
    obtain ⟨r4, hr4⟩ : ∃ r, L1[i]? = some r := ⟨_, List.getElem?_eq_getElem (by rw [nu.nb.len]; exact hi4)⟩
    have pn4 : W1.cell? ⟨q4, i, none⟩ = some (.int .i64 (r4 : Int)) := pc4 i _ (by rw [List.getElem?_map, hr4]; rfl)
    have fn4 := pf4 i
    have nbq : b ≠ q4 := fun e => nu.nb.nx.ap.b2 (by rw [e4, e])
    obtain ⟨W2, hW2⟩ : ∃ V, W1.setCell ⟨q4, i, none⟩ (.int .i64 k) = V := ⟨_, rfl⟩
    have ks : Kept (fun c => c ≠ q4) W1 W2 := by rw [← hW2]; exact Kept.setCell _ _ _ _ (fun hx => hx rfl)
    have hb1 := (nu.nb.nx.lo b (.inl rfl)).2
    have s1 : W2.cell? ⟨b, 2, none⟩ = some (.slice (some ⟨q4, 0, none⟩) n4 c4) := (ks.cell (p := ⟨b, 2, none⟩) hb1 nbq).trans p4
    have s2 : W2.cell? ⟨q4, i, none⟩ = some (.int .i64 k) := by rw [← hW2]; exact World.cell?_setCell_same _ _ _ pn4
    have HW2 := hide hW2
    have E4 := hide e4
    have HI4 := hide hi4
    clear nu pc4 pf4 hn4 hi4 hr4 e4 ks hb1 hW2 p1 p2 pn' pt
    go_upto_region 4 with fail
    rw [HW2.out]
    go_wp2_with fail
    go_ret
    have nu := HNU.out
    have e5 := E4.out
    subst e5
    obtain ⟨m1, m2⟩ := nu.nb.setL i k (by rw [nu.nb.len]; exact HI4.out)
    rw [HW2.out] at m1 m2
    refine ⟨k, T1, L1.set i k, h1, some q4, h3, rfl, m1, ?_, nu.at_, nu.pre.1, nu.pre.2, nu.ch.trans m2⟩
    intro j n t' a1 a2 a3
    rw [List.getElem?_set] at a1
    by_cases e : i = j
    · subst e
      rw [if_pos rfl] at a1
      split at a1
      · have e6 : k = n := Option.some.inj a1
        have e7 : t' = t := Option.some.inj (a3.symm.trans (pre_get nu.pre.1 HI.out))
        rw [← e6, e7]
        exact nu.at_
      · cases a1
    · rw [if_neg e] at a1
      exact nu.li HH.out.len HLI.out j n t' a1 a2 a3
  · have hr1 : ¬ (r : Int) = 0 := by omega
    have HE : Hid (Ol W W B0 b M g1 g2 g3 T t r T L g1 g2 g3) := ⟨h, hli, hli i r t hr hr0 hi, List.prefix_rfl, Nat.le_succ _, Ch.refl _ _ _ _ _ _⟩
    clear h hi hli hil hn hr pc2 pf2 e2 hT hB hr0
    go_enter Try.func17, Try.ntmps17
    go_wp2_with fail
    go_ret
    exact ⟨r, T, L, g1, g2, g3, rfl, HE.out⟩

end Go.Proofs.Ytmccdomgechkkaa
