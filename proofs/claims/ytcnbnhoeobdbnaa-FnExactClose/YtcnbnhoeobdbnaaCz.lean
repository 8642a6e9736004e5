import Derived.Test.YtcnbnhoeobdbnaaCp
import Derived.Test.YtcnbnhoeobdbnaaLf
namespace Go.Proofs.Ytcnbnhoeobdbnaa
open Go.RowKit Go.Joins

theorem addI_nodup {L : List Int} {x : Int} (h : L.Nodup) : (addI L x).Nodup := by
  unfold addI
  split
  · exact h
  · next hx => rw [List.nodup_append]; exact ⟨h, by simp, fun a ha b hb e => hx (by have : b = x := by simpa using hb
                                                                                    rw [← this, ← e]; exact ha)⟩

theorem Fo.fre_nodup : ∀ (F : Fo) (L : List Int), L.Nodup → (F.fre L).Nodup
  | .nil, L, h => h
  | .cons k ix nm a cap ks r, L, h => by
    unfold Fo.fre
    refine r.fre_nodup _ ?_
    split
    · exact addI_nodup h
    · exact ks.fre_nodup _ h

theorem idsOf_nodup (k ix : Int) (nm : ByteArray) (ks : Fo) : (idsOf k ix nm ks).Nodup := by
  unfold idsOf
  split
  · exact List.nodup_nil
  · exact Fo.fre_nodup _ _ List.nodup_nil

theorem addI_wf {L : List Int} {x : Int} (h : ∀ y ∈ L, (Lit.int .i64 y).wf = true) (hx : (Lit.int .i64 x).wf = true) : ∀ y ∈ addI L x, (Lit.int .i64 y).wf = true := by
  unfold addI
  split
  · exact h
  · intro y hy
    rcases List.mem_append.1 hy with hy | hy
    · exact h y hy
    · have : y = x := by simpa using hy
      rw [this]; exact hx

theorem Fo.Row.fre_wf {W : World} {S : Nat → Prop} : ∀ {F : Fo} {b o : Nat} {L : List Int}, F.Row W S b o → (∀ y ∈ L, (Lit.int .i64 y).wf = true) → ∀ y ∈ F.fre L, (Lit.int .i64 y).wf = true
  | .nil, _, _, _, _, h => h
  | .cons k ix nm a cap ks r, b, o, L, ⟨_, hix, _, _, _, _, _, h4, h5, h6, h7⟩, h => by
    unfold Fo.fre
    refine h7.fre_wf ?_
    split
    · exact addI_wf h hix
    · by_cases hl : 0 < ks.len
      · obtain ⟨b', o', _, _, hr⟩ := h6 hl
        exact hr.fre_wf h
      · cases ks with
        | nil => exact h
        | cons _ _ _ _ _ _ _ => exact absurd (Nat.succ_pos _) hl

theorem idsOf_wf {k ix : Int} {nm : ByteArray} {ks : Fo} {a : Option Addr} {cap : Nat} {W : World} {S : Nat → Prop} (hix : (Lit.int .i64 ix).wf = true) (hs : ks.Sl W S a cap) : ∀ y ∈ idsOf k ix nm ks, (Lit.int .i64 y).wf = true := by
  unfold idsOf
  split
  · intro y hy; simp at hy
  · unfold Fo.fre
    have h0 : ∀ y ∈ ([] : List Int), (Lit.int .i64 y).wf = true := fun y hy => by simp at hy
    split
    · exact addI_wf h0 hix
    · by_cases hl : 0 < ks.len
      · obtain ⟨b', o', _, _, hr⟩ := hs.2.2 hl
        exact hr.fre_wf h0
      · cases ks with
        | nil => exact h0
        | cons _ _ _ _ _ _ _ => exact absurd (Nat.succ_pos _) hl

/-- The variables that get places. -/
def idF (K L : List Int) : List Int := L.filter (fun x => !decide (x ∈ K))

theorem idF_snoc (K L : List Int) (x : Int) : idF K (L ++ [x]) = if x ∈ K then idF K L else idF K L ++ [x] := by
  unfold idF
  rw [List.filter_append]
  by_cases h : x ∈ K <;> simp [h]

theorem idF_len (K L : List Int) : (idF K L).length ≤ L.length := List.length_filter_le _ _
theorem idF_nodup {K L : List Int} (h : L.Nodup) : (idF K L).Nodup := h.filter _
theorem idF_mem {K L : List Int} {x : Int} (h : x ∈ idF K L) : x ∈ L := (List.mem_filter.1 h).1

theorem take_snoc {α : Type} {L : List α} {i : Nat} {x : α} (h : L[i]? = some x) : L.take (i + 1) = L.take i ++ [x] := by
  rw [List.take_add_one, h]
  rfl

theorem take_all {α : Type} (L : List α) {i : Nat} (h : i = L.length) : L.take i = L := by rw [h]; exact List.take_length

/-- A pred's place. -/
def plc (L : List Int) (p : Pd) : Pd := ⟨p.nm, ((L.idxOf p.sd : Nat) : Int)⟩

open Classical in
noncomputable def addP (out : List Pd) (q : Pd) : List Pd := if q ∈ out then out else out ++ [q]

open Classical in
/-- The model's step for a pred. -/
noncomputable def pst (L : List Int) (out : List Pd) (p : Pd) : List Pd := if p.sd ∈ L then addP out (plc L p) else out

noncomputable def pls (L : List Int) (P : List Pd) : List Pd := P.foldl (pst L) []

theorem pls_snoc (L : List Int) (P : List Pd) (p : Pd) : pls L (P ++ [p]) = pst L (pls L P) p := by simp [pls, List.foldl_append]

theorem pst_hit {L : List Int} {out : List Pd} {p : Pd} {k : Nat} (hn : L.Nodup) (h : L[k]? = some p.sd) : pst (L.take k) out p = out ∧ pst (L.take (k + 1)) out p = addP out ⟨p.nm, (k : Int)⟩ := by
  obtain ⟨hk, hx⟩ := List.getElem?_eq_some_iff.1 h
  have hni : p.sd ∉ L.take k := fun hm => by
    obtain ⟨j, hj⟩ := List.getElem?_of_mem hm
    rw [List.getElem?_take] at hj
    split at hj
    · next hlt =>
      have h1 := List.getElem?_eq_some_iff.1 hj
      obtain ⟨hj1, hj2⟩ := h1
      have := (List.pairwise_iff_getElem.1 hn) j k hj1 hk hlt
      exact this (hj2.trans hx.symm)
    · cases hj
  refine ⟨if_neg hni, ?_⟩
  rw [take_snoc h]
  have hin : p.sd ∈ L.take k ++ [p.sd] := by simp
  unfold pst
  rw [if_pos hin]
  congr 1
  unfold plc
  congr 1
  rw [List.idxOf_append, if_neg hni]
  simp [List.length_take]
  omega

theorem pst_miss {L : List Int} {out : List Pd} {p : Pd} {k : Nat} {y : Int} (h : L[k]? = some y) (hy : ¬ y = p.sd) : pst (L.take (k + 1)) out p = pst (L.take k) out p := by
  rw [take_snoc h]
  unfold pst plc
  have e : p.sd ∈ L.take k ++ [y] ↔ p.sd ∈ L.take k := by
    have hyx : ¬ p.sd = y := fun h => hy h.symm
    simp [hyx]
  by_cases hm : p.sd ∈ L.take k
  · rw [if_pos (e.2 hm), if_pos hm, List.idxOf_append, if_pos hm]
  · rw [if_neg (fun h => hm (e.1 h)), if_neg hm]

theorem addP_mem {out : List Pd} {q p : Pd} (h : p ∈ addP out q) : p ∈ out ∨ p = q := by
  unfold addP at h
  split at h
  · exact .inl h
  · simpa using h

theorem pst_mem {L : List Int} {out : List Pd} {p q : Pd} (h : q ∈ pst L out p) : q ∈ out ∨ q = plc L p := by
  unfold pst at h
  split at h
  · exact addP_mem h
  · exact .inl h

theorem plc_ok {L : List Int} {p : Pd} (hp : p.Ok) (hL : L.length ≤ 1048576) : (plc L p).Ok := ⟨wf_nat (by have := idx_le L p.sd; show L.idxOf p.sd ≤ _; omega), hp.n⟩

theorem pst_ok {L : List Int} {out : List Pd} {p : Pd} (ho : ∀ q ∈ out, q.Ok) (hp : p.Ok) (hL : L.length ≤ 1048576) : ∀ q ∈ pst L out p, q.Ok := fun q hq => by
  rcases pst_mem hq with h | h
  · exact ho q h
  · rw [h]; exact plc_ok hp hL

theorem pls_ok {L : List Int} (hL : L.length ≤ 1048576) : ∀ {P : List Pd}, (∀ q ∈ P, q.Ok) → ∀ q ∈ pls L P, q.Ok := by
  have key : ∀ (P : List Pd) (out : List Pd), (∀ q ∈ P, q.Ok) → (∀ q ∈ out, q.Ok) → ∀ q ∈ P.foldl (pst L) out, q.Ok := by
    intro P
    induction P with
    | nil => intro out _ h; exact h
    | cons p P ih => intro out h1 h2; exact ih _ (fun q hq => h1 q (List.mem_cons_of_mem _ hq)) (pst_ok h2 (h1 p List.mem_cons_self) hL)
  intro P h
  exact key P [] h (fun q hq => by simp at hq)

theorem addP_len (out : List Pd) (q : Pd) : (addP out q).length ≤ out.length + 1 := by
  unfold addP
  split
  · omega
  · simp

theorem pst_len (L : List Int) (out : List Pd) (p : Pd) : (pst L out p).length ≤ out.length + 1 := by
  unfold pst
  split
  · exact addP_len _ _
  · omega

theorem pls_len (L : List Int) (P : List Pd) : (pls L P).length ≤ P.length := by
  have key : ∀ (P : List Pd) (out : List Pd), (P.foldl (pst L) out).length ≤ out.length + P.length := by
    intro P
    induction P with
    | nil => intro out; simp
    | cons p P ih =>
      intro out
      have h1 := ih (pst L out p)
      have h2 := pst_len L out p
      simp only [List.foldl_cons, List.length_cons]
      omega
  have := key P []
  simpa [pls] using this

open Classical in
/-- The program's step: what it knows. -/
noncomputable def kst (L : List Int) (kn : List Pd) (p : Pd) : List Pd := if p ∈ kn ∨ p.sd ∉ L then kn else kn ++ [p]

noncomputable def knl (L : List Int) (P : List Pd) : List Pd := P.foldl (kst L) []

theorem knl_snoc (L : List Int) (P : List Pd) (p : Pd) : knl L (P ++ [p]) = kst L (knl L P) p := by simp [knl, List.foldl_append]

theorem idx_inj {L : List Int} {x y : Int} (hx : x ∈ L) (hy : y ∈ L) (h : L.idxOf x = L.idxOf y) : x = y := by
  have h1 := List.getElem_idxOf (List.idxOf_lt_length_of_mem hx)
  have h2 := List.getElem_idxOf (List.idxOf_lt_length_of_mem hy)
  rw [← h1, ← h2]
  simp only [h]

theorem plc_inj {L : List Int} {p q : Pd} (hp : p.sd ∈ L) (hq : q.sd ∈ L) (h : plc L p = plc L q) : p = q := by
  obtain ⟨a, b⟩ := p
  obtain ⟨c, d⟩ := q
  simp only [plc, Pd.mk.injEq] at h
  have := idx_inj hp hq (Int.ofNat_inj.1 h.2)
  simp only at this
  rw [h.1, this]

theorem knl_in {L : List Int} {P : List Pd} : ∀ p ∈ knl L P, p.sd ∈ L ∧ p ∈ P := by
  have key : ∀ (P kn : List Pd), (∀ p ∈ P.foldl (kst L) kn, p ∈ kn ∨ (p.sd ∈ L ∧ p ∈ P)) := by
    intro P
    induction P with
    | nil => intro kn p h; exact .inl h
    | cons x P ih =>
      intro kn p h
      rcases ih _ p h with h | ⟨h1, h2⟩
      · unfold kst at h
        split at h
        · exact .inl h
        · next hn =>
          rcases List.mem_append.1 h with h | h
          · exact .inl h
          · have e : p = x := by simpa using h
            subst e
            exact .inr ⟨Classical.byContradiction fun h2 => hn (.inr h2), List.mem_cons_self⟩
      · exact .inr ⟨h1, List.mem_cons_of_mem _ h2⟩
  intro p hp
  rcases key P [] p hp with h | h
  · simp at h
  · exact h

theorem pls_knl (L : List Int) (P : List Pd) : pls L P = (knl L P).map (plc L) := by
  have key : ∀ (P kn : List Pd), (∀ p ∈ kn, p.sd ∈ L) → P.foldl (pst L) (kn.map (plc L)) = (P.foldl (kst L) kn).map (plc L) := by
    intro P
    induction P with
    | nil => intro kn _; rfl
    | cons x P ih =>
      intro kn hk
      simp only [List.foldl_cons]
      have e : pst L (kn.map (plc L)) x = (kst L kn x).map (plc L) := by
        by_cases hx : x.sd ∈ L
        · unfold pst addP kst
          rw [if_pos hx]
          by_cases hm : x ∈ kn
          · rw [if_pos (List.mem_map_of_mem hm), if_pos (.inl hm)]
          · have h1 : plc L x ∉ kn.map (plc L) := fun h => by
              obtain ⟨y, hy, he⟩ := List.mem_map.1 h
              exact hm (plc_inj (hk y hy) hx he ▸ hy)
            rw [if_neg h1, if_neg (fun h => h.elim hm (fun h => h hx)), List.map_append]
            rfl
        · unfold pst kst
          rw [if_neg hx, if_pos (.inr hx)]
      rw [e]
      refine ih _ (fun p hp => ?_)
      unfold kst at hp
      split at hp
      · exact hk p hp
      · next hn =>
        rcases List.mem_append.1 hp with h | h
        · exact hk p h
        · have e2 : p = x := by simpa using h
          subst e2
          exact Classical.byContradiction fun h2 => hn (.inr h2)
  have := key P [] (fun p hp => by simp at hp)
  exact this

end Go.Proofs.Ytcnbnhoeobdbnaa
