import Derived.Test.YtcflciblcdabpaaFl
namespace Go.Proofs.Ytcflciblcdabpaa
open Go.RowKit Go.Joins

/-- A place whose list is still that of the argument. -/
structure Pl where
  g : Nat
  o : Nat
  a : Option Addr
  n : Nat
  c : Nat
  ks : Fo

/-- The row with its slices as plain cells. -/
def Fo.pl : Fo → Fo
  | .nil => .nil
  | .v x r => .v x r.pl
  | .s a n c _ r => .v (.slice a n c) r.pl

theorem Fo.pl_vals : ∀ F : Fo, F.pl.vals = F.vals
  | .nil => rfl
  | .v _ r => by simp only [Fo.pl, Fo.vals, r.pl_vals]
  | .s _ _ _ _ r => by simp only [Fo.pl, Fo.vals, r.pl_vals]

theorem Fo.pl_len : ∀ F : Fo, F.pl.len = F.len
  | .nil => rfl
  | .v _ r => by simp only [Fo.pl, Fo.len, r.pl_len]
  | .s _ _ _ _ r => by simp only [Fo.pl, Fo.len, r.pl_len]

theorem Fo.pl_inn : ∀ F : Fo, F.pl.inn = []
  | .nil => rfl
  | .v _ r => by simp only [Fo.pl, Fo.inn, r.pl_inn]
  | .s _ _ _ _ r => by simp only [Fo.pl, Fo.inn, r.pl_inn]

theorem Fo.pl_subs (W : World) (S : Nat → Prop) : ∀ F : Fo, F.pl.Subs W S
  | .nil => trivial
  | .v _ r => Fo.pl_subs W S r
  | .s _ _ _ _ r => Fo.pl_subs W S r

/-- The places of a row. -/
def Fo.kp (g : Nat) : Nat → Fo → List Pl
  | _, .nil => []
  | o, .v _ r => r.kp g (o + 1)
  | o, .s a n c ks r => ⟨g, o, a, n, c, ks⟩ :: r.kp g (o + 1)

/-- The second row is the first one, but for the places that are told. -/
inductive Sm : Nat → Nat → Fo → Fo → List Pl → Prop
  | nil (g o : Nat) : Sm g o .nil .nil []
  | v {g o : Nat} {r r0 : Fo} {P : List Pl} (x : Value) (h : Sm g (o + 1) r r0 P) : Sm g o (.v x r) (.v x r0) P
  | op {g o : Nat} {r r0 : Fo} {P : List Pl} (a : Option Addr) (n c : Nat) (ks : Fo) (h : Sm g (o + 1) r r0 P) : Sm g o (.v (.slice a n c) r) (.s a n c ks r0) (⟨g, o, a, n, c, ks⟩ :: P)
  | s {g o g' : Nat} {r r0 K ks : Fo} {P Q : List Pl} (a' a : Option Addr) (n c' c : Nat) (hk : Sm g' 0 K ks Q) (ha : 0 < K.len → a' = some ⟨g', 0, none⟩) (h : Sm g (o + 1) r r0 P) : Sm g o (.s a' n c' K r) (.s a n c ks r0) (Q ++ P)

theorem sm_pl (g : Nat) : ∀ (F : Fo) (o : Nat), Sm g o F.pl F (F.kp g o)
  | .nil, o => .nil g o
  | .v x r, o => .v x (sm_pl g r (o + 1))
  | .s a n c ks r, o => .op a n c ks (sm_pl g r (o + 1))

theorem Sm.sim {g o : Nat} {G F : Fo} {P : List Pl} (h : Sm g o G F P) : P = [] → G.sim F := by
  induction h with
  | nil => intro _; trivial
  | v x h ih => intro e; exact ⟨rfl, ih e⟩
  | op a n c ks h ih => intro e; cases e
  | s a' a n c' c hk ha h ih1 ih2 =>
    intro e
    obtain ⟨e1, e2⟩ := List.append_eq_nil_iff.1 e
    exact ⟨rfl, ih1 e1, ih2 e2⟩

/-- A plain slice of a row becomes another one. -/
inductive Rp (gp op : Nat) (a0 : Option Addr) (c0 : Nat) (a' : Option Addr) (n c' : Nat) (K : Fo) : Nat → Nat → Fo → Fo → Prop
  | here (r : Fo) : Rp gp op a0 c0 a' n c' K gp op (.v (.slice a0 n c0) r) (.s a' n c' K r)
  | v {g o : Nat} {r r' : Fo} (x : Value) (h : Rp gp op a0 c0 a' n c' K g (o + 1) r r') : Rp gp op a0 c0 a' n c' K g o (.v x r) (.v x r')
  | r {g o : Nat} {r r' : Fo} (a : Option Addr) (m c : Nat) (ks : Fo) (h : Rp gp op a0 c0 a' n c' K g (o + 1) r r') : Rp gp op a0 c0 a' n c' K g o (.s a m c ks r) (.s a m c ks r')
  | k {g o g1 : Nat} {ks ks' : Fo} (m c : Nat) (r : Fo) (h : Rp gp op a0 c0 a' n c' K g1 0 ks ks') : Rp gp op a0 c0 a' n c' K g o (.s (some ⟨g1, 0, none⟩) m c ks r) (.s (some ⟨g1, 0, none⟩) m c ks' r)

theorem Sm.len {g o : Nat} {G F : Fo} {P : List Pl} (h : Sm g o G F P) : P ≠ [] → 0 < G.len := by
  cases h with
  | nil => intro e; exact absurd rfl e
  | v x h => intro _; simp [Fo.len]
  | op a n c ks h => intro _; simp [Fo.len]
  | s a' a n c' c hk ha h => intro _; simp [Fo.len]

/-- The last place is closed. -/
theorem Sm.step {g o : Nat} {G F : Fo} {PP : List Pl} (h : Sm g o G F PP) : ∀ {P : List Pl} {p : Pl}, PP = P ++ [p] → ∀ {g' : Nat} {a' : Option Addr} {c' : Nat} {K : Fo} {Q : List Pl}, Sm g' 0 K p.ks Q → (0 < K.len → a' = some ⟨g', 0, none⟩) → ∃ G', Sm g o G' F (P ++ Q) ∧ Rp p.g p.o p.a p.c a' p.n c' K g o G G' := by
  induction h with
  | nil => intro P p e; simp at e
  | v x h ih =>
    intro P p e g' a' c' K Q hk ha
    obtain ⟨G', h1, h2⟩ := ih e hk ha
    exact ⟨_, .v x h1, .v x h2⟩
  | @op g o r r0 P0 a n c ks h ih =>
    intro P p e g' a' c' K Q hk ha
    cases P with
    | nil =>
      simp only [List.nil_append, List.cons.injEq] at e
      obtain ⟨rfl, rfl⟩ := e
      exact ⟨.s a' n c' K r, by simpa using Sm.s a' a n c' c hk ha h, .here r⟩
    | cons q P =>
      simp only [List.cons_append, List.cons.injEq] at e
      obtain ⟨rfl, e⟩ := e
      obtain ⟨G', h1, h2⟩ := ih e hk ha
      exact ⟨_, .op a n c ks h1, .v _ h2⟩
  | @s g o g1 r r0 K0 ks P0 Q0 a1 a n c1 c hk0 ha0 h ih1 ih2 =>
    intro P p e g' a' c' K Q hk ha
    rcases List.eq_nil_or_concat P0 with e0 | ⟨P1, p1, e0⟩
    · subst e0
      rw [List.append_nil] at e
      obtain ⟨K', h1, h2⟩ := ih1 e hk ha
      have hl := hk0.len (by rw [e]; simp)
      have e1 := ha0 hl
      subst e1
      refine ⟨.s (some ⟨g1, 0, none⟩) n c1 K' r, ?_, .k n c1 r h2⟩
      have := Sm.s (some ⟨g1, 0, none⟩) a n c1 c h1 (fun _ => rfl) h
      simpa using this
    · rw [List.concat_eq_append] at e0
      subst e0
      rw [← List.append_assoc] at e
      obtain ⟨e1, e2⟩ := List.append_inj' e rfl
      have e3 : p1 = p := by simpa using e2
      subst e3
      obtain ⟨G', h1, h2⟩ := ih2 rfl hk ha
      refine ⟨.s a1 n c1 K0 G', ?_, .r _ _ _ _ h2⟩
      have := Sm.s a1 a n c1 c hk0 ha0 h1
      rw [← e1]
      simpa [List.append_assoc] using this

theorem Rp.len {gp op : Nat} {a0 : Option Addr} {c0 : Nat} {a' : Option Addr} {n c' : Nat} {K : Fo} {g o : Nat} {G G' : Fo} (h : Rp gp op a0 c0 a' n c' K g o G G') : G'.len = G.len ∧ 0 < G.len := by
  induction h with
  | here r => simp [Fo.len]
  | v x h ih => simp [Fo.len, ih.1]
  | r a m c ks h ih => simp [Fo.len, ih.1]
  | k m c r h ih => simp [Fo.len]

/-- Where the place is. -/
theorem Rp.at_ {gp op : Nat} {a0 : Option Addr} {c0 : Nat} {a' : Option Addr} {n c' : Nat} {K : Fo} {g o : Nat} {G G' : Fo} (h : Rp gp op a0 c0 a' n c' K g o G G') : (gp = g ∧ o ≤ op) ∨ gp ∈ G.inn := by
  induction h with
  | here r => exact .inl ⟨rfl, Nat.le_refl _⟩
  | v x h ih =>
    rcases ih with ⟨e, h⟩ | h
    · exact .inl ⟨e, by omega⟩
    · exact .inr h
  | r a m c ks h ih =>
    rcases ih with ⟨e, h⟩ | h
    · exact .inl ⟨e, by omega⟩
    · exact .inr (by simp only [Fo.inn, List.mem_append]; exact .inr h)
  | k m c r h ih =>
    have hl := h.len.2
    refine .inr ?_
    simp only [Fo.inn, blk_pos hl, List.mem_append]
    rcases ih with ⟨e, -⟩ | h
    · exact .inl (.inl (by simp [e]))
    · exact .inl (.inr h)

theorem Rp.inn {gp op : Nat} {a0 : Option Addr} {c0 : Nat} {a' : Option Addr} {n c' : Nat} {K : Fo} {g o : Nat} {G G' : Fo} (h : Rp gp op a0 c0 a' n c' K g o G G') : G'.inn.Perm ((blk a' K.len ++ K.inn) ++ G.inn) := by
  induction h with
  | here r => exact List.Perm.refl _
  | v x h ih => exact ih
  | r a m c ks h ih =>
    simp only [Fo.inn]
    exact (List.Perm.append_left _ ih).trans (List.perm_append_comm_assoc _ _ _)
  | @k g o g1 ks ks' m c r h ih =>
    simp only [Fo.inn, h.len.1]
    rw [← List.append_assoc (blk a' K.len ++ K.inn)]
    refine List.Perm.append_right _ ?_
    exact (List.Perm.append_left _ ih).trans (List.perm_append_comm_assoc _ _ _)

/-- The value of the place. -/
theorem Rp.cell {gp op : Nat} {a0 : Option Addr} {c0 : Nat} {a' : Option Addr} {n c' : Nat} {K : Fo} {g o : Nat} {G G' : Fo} (h : Rp gp op a0 c0 a' n c' K g o G G') {W : World} {S : Nat → Prop} : Cel W G.vals g o → G.Subs W S → W.cell? ⟨gp, op, none⟩ = some (.slice a0 n c0) := by
  induction h with
  | here r => intro h _; exact h 0 _ rfl
  | v x h ih => intro h1 h2; exact ih (Cel.right (L := [x]) h1) h2
  | @r g o r r' a m c ks h ih => intro h1 h2; exact ih (Cel.right (L := [.slice a m c]) h1) h2.2
  | @k g o g1 ks ks' m c r h ih =>
    intro h1 h2
    obtain ⟨b, o, e, -, h3, h4⟩ := h2.1.2.2 h.len.2
    cases e
    exact ih h3 h4

theorem Rp.mem {gp op : Nat} {a0 : Option Addr} {c0 : Nat} {a' : Option Addr} {n c' : Nat} {K : Fo} {g o : Nat} {G G' : Fo} (h : Rp gp op a0 c0 a' n c' K g o G G') {W W' : World} {S T : Nat → Prop} (hS : ∀ b, S b → T b) (hK : K.Sub W' T a' n c') (hp : W'.cell? ⟨gp, op, none⟩ = some (.slice a' n c')) : Cel W G.vals g o → G.Subs W S → (g :: G.inn).Nodup → (∀ (q : Addr) v, q.block ∈ g :: G.inn → (q.block = gp → q.off ≠ op) → W.cell? q = some v → W'.cell? q = some v) → Cel W' G'.vals g o ∧ G'.Subs W' T := by
  induction h with
  | here r =>
    intro h1 h2 h3 h4
    refine ⟨fun i v hv => ?_, hK, ?_⟩
    · cases i with
      | zero =>
        have e : Value.slice a' n c' = v := Option.some.inj hv
        rw [← e]
        exact hp
      | succ i => exact h4 ⟨gp, op + (i + 1), none⟩ _ List.mem_cons_self (fun _ => by show op + (i + 1) ≠ op; omega) (h1 (i + 1) v hv)
    · have h5 : r.Subs W S := h2
      have h6 := (List.nodup_cons.1 h3).1
      exact (h5.own.keep (T := fun c => c ∈ r.inn) (fun _ x => x) (fun q hq v hv => h4 q v (List.mem_cons_of_mem _ hq) (fun e => absurd (e ▸ hq) h6) hv)).mono (fun c hc => hS c (h5.inn_of c hc))
  | @v g o r r' x h ih =>
    intro h1 h2 h3 h4
    obtain ⟨i1, i2⟩ := ih (Cel.right (L := [x]) h1) h2 h3 h4
    refine ⟨fun i v hv => ?_, i2⟩
    cases i with
    | zero =>
      have e : x = v := Option.some.inj hv
      subst e
      refine h4 ⟨g, o + 0, none⟩ _ List.mem_cons_self (fun (e : g = gp) => ?_) (h1 0 x rfl)
      rcases h.at_ with ⟨-, h⟩ | h
      · show o + 0 ≠ op
        omega
      · exact absurd (e ▸ h) (List.nodup_cons.1 h3).1
    | succ i =>
      have := i1 i v hv
      rwa [show o + 1 + i = o + (i + 1) by omega] at this
  | @r g o r r' a m c ks h ih =>
    intro h1 h2 h3 h4
    have h3' := h3
    simp only [Fo.inn] at h3'
    have hnd : (g :: r.inn).Nodup := by
      obtain ⟨q1, q2⟩ := List.nodup_cons.1 h3'
      exact List.nodup_cons.2 ⟨fun hc => q1 (List.mem_append.2 (.inr hc)), (List.nodup_append.1 q2).2.1⟩
    obtain ⟨i1, i2⟩ := ih (Cel.right (L := [.slice a m c]) h1) h2.2 hnd (fun q v hb => h4 q v (by
      rcases List.mem_cons.1 hb with hb | hb
      · rw [hb]; exact List.mem_cons_self
      · exact List.mem_cons_of_mem _ (by simp only [Fo.inn, List.mem_append]; exact .inr hb)))
    have hgp : gp ∉ blk a ks.len ++ ks.inn := fun hc => by
      obtain ⟨q1, q2⟩ := List.nodup_cons.1 h3'
      rcases h.at_ with ⟨e, -⟩ | h
      · exact q1 (List.mem_append.2 (.inl (e ▸ hc)))
      · exact (List.nodup_append.1 q2).2.2 gp hc gp h rfl
    refine ⟨fun i v hv => ?_, ?_, i2⟩
    · cases i with
      | zero =>
        have e : Value.slice a m c = v := Option.some.inj hv
        subst e
        refine h4 ⟨g, o + 0, none⟩ _ List.mem_cons_self (fun (e : g = gp) => ?_) (h1 0 _ rfl)
        rcases h.at_ with ⟨-, h⟩ | h
        · show o + 0 ≠ op
          omega
        · exact absurd (e ▸ h) (List.nodup_cons.1 hnd).1
      | succ i =>
        have := i1 i v hv
        rwa [show o + 1 + i = o + (i + 1) by omega] at this
    · have h5 : Fo.Subs W S (.s a m c ks .nil) := ⟨h2.1, trivial⟩
      have h6 : Fo.Subs W' T (.s a m c ks .nil) := (h5.own.keep (T := fun c' => c' ∈ (Fo.s a m c ks .nil).inn) (fun _ x => x) (fun q hq v hv => by
        have hq' : q.block ∈ blk a ks.len ++ ks.inn := by simpa [Fo.inn] using hq
        exact h4 q v (List.mem_cons_of_mem _ (by simp only [Fo.inn]; exact List.mem_append.2 (.inl hq'))) (fun e => absurd (e ▸ hq') hgp) hv)).mono (fun c hc => hS c (h5.inn_of c hc))
      exact h6.1
  | @k g o g1 ks ks' m c r h ih =>
    intro h1 h2 h3 h4
    have hl := h.len.2
    have h3' := h3
    simp only [Fo.inn, blk_pos hl] at h3'
    obtain ⟨q1, q2⟩ := List.nodup_cons.1 h3'
    obtain ⟨q3, q4, q5⟩ := List.nodup_append.1 q2
    obtain ⟨g1', o', e, hSb, h5, h6⟩ := h2.1.2.2 hl
    cases e
    obtain ⟨i1, i2⟩ := ih h5 h6 (by simpa using q3) (fun q v hb => h4 q v (List.mem_cons_of_mem _ (by
      simp only [Fo.inn, blk_pos hl]
      exact List.mem_append.2 (.inl (by simpa using hb)))))
    have hgp : gp ∈ [g1] ++ ks.inn := by
      rcases h.at_ with ⟨e, -⟩ | h
      · exact List.mem_append.2 (.inl (by simp [e]))
      · exact List.mem_append.2 (.inr h)
    refine ⟨fun i v hv => ?_, ⟨h2.1.1, h2.1.2.1, fun _ => ⟨g1, 0, rfl, hS _ hSb, i1, i2⟩⟩, ?_⟩
    · refine h4 ⟨g, o + i, none⟩ _ List.mem_cons_self (fun (e : g = gp) => ?_) (h1 i v hv)
      exact absurd (e ▸ List.mem_append.2 (.inl hgp)) q1
    · have h7 : r.Subs W S := h2.2
      exact (h7.own.keep (T := fun c => c ∈ r.inn) (fun _ x => x) (fun q hq v hv => h4 q v (List.mem_cons_of_mem _ (by simp only [Fo.inn]; exact List.mem_append.2 (.inr hq))) (fun e => absurd e.symm (q5 gp hgp q.block hq)) hv)).mono (fun c hc => hS c (h7.inn_of c hc))

end Go.Proofs.Ytcflciblcdabpaa

namespace Go.Proofs.Ytcflciblcdabpaa
open Go.RowKit Go.Joins

theorem setCell_same {W : World} {b o : Nat} {v : Value} (h : W.cell? ⟨b, o, none⟩ = some v) : W.setCell ⟨b, o, none⟩ v = W := by
  have hh : (W.setCell ⟨b, o, none⟩ v).heap = W.heap := by
    apply Array.ext_getElem?
    intro i
    simp only [World.setCell, Array.getElem?_modify]
    by_cases e : b = i
    · subst e
      cases hb : W.heap[b]? with
      | none => simp
      | some ob =>
        cases ob with
        | cells c e f =>
          have hc : c[o]? = some v := by simpa [World.cell?, hb] using h
          have h1 : c.setIfInBounds o v = c := by
            apply Array.ext_getElem?
            intro i
            by_cases e : o = i
            · subst e
              have := (Array.getElem?_eq_some_iff.1 hc).1
              rw [Array.getElem?_setIfInBounds_self, hc]
              simp [this]
            · rw [Array.getElem?_setIfInBounds_ne e]
          simp [h1]
        | _ => simp [World.cell?, hb] at h
    · simp [e]
  have e2 : W.setCell ⟨b, o, none⟩ v = { W with heap := (W.setCell ⟨b, o, none⟩ v).heap } := rfl
  rw [e2, hh]

/-- The list of a place is as it was in the world W0. -/
structure PlOK (W0 : World) (S : Nat → Prop) (p : Pl) : Prop where
  fit : Fit E p.ks (rep (E 2) p.n)
  sub : p.ks.Sub W0 S p.a p.n p.c
  wt : p.ks.wt ≤ 1048576

theorem kp_ok {W0 : World} {S : Nat → Prop} (g : Nat) : ∀ (n : Nat) (F : Fo) (o : Nat), Fit E F (rep (E 2) n) → F.Subs W0 S → F.wt ≤ 1048576 → ∀ p ∈ F.kp g o, PlOK W0 S p
  | 0, F, o, h, _, _ => by
    obtain rfl := fit_nil h
    intro p hp
    exact absurd hp List.not_mem_nil
  | n + 1, F, o, h, hs, hw => by
    obtain ⟨k, i, nm, a, m, c, ks, r, rfl, h1, h2⟩ := ty_cons h
    simp only [Fo.wt] at hw
    intro p hp
    rcases List.mem_cons.1 hp with rfl | hp
    · exact ⟨h1, hs.1, by show ks.wt ≤ _; omega⟩
    · exact kp_ok g n r (o + 1 + 1 + 1 + 1) h2 hs.2 (by omega) p hp

/-- What is left to do. -/
def wsum : List Pl → Nat
  | [] => 0
  | p :: P => 1 + p.ks.tc + wsum P

theorem wsum_app : ∀ P Q : List Pl, wsum (P ++ Q) = wsum P + wsum Q
  | [], Q => by simp [wsum]
  | p :: P, Q => by simp only [List.cons_append, wsum, wsum_app P Q]; omega

theorem wsum_len : ∀ P : List Pl, P.length ≤ wsum P
  | [] => Nat.le_refl _
  | p :: P => by have := wsum_len P; simp only [wsum, List.length_cons]; omega

theorem wsum_kp (g : Nat) : ∀ (F : Fo) (o : Nat), wsum (F.kp g o) = F.tc
  | .nil, _ => rfl
  | .v _ r, o => by simp only [Fo.kp, Fo.tc, wsum_kp g r]
  | .s _ _ _ _ r, o => by simp only [Fo.kp, wsum, Fo.tc, wsum_kp g r]

theorem kp_len (g : Nat) : ∀ (n : Nat) (F : Fo) (o : Nat), Fit E F (rep (E 2) n) → (F.kp g o).length = n
  | 0, F, o, h => by
    obtain rfl := fit_nil h
    rfl
  | n + 1, F, o, h => by
    obtain ⟨k, i, nm, a, m, c, ks, r, rfl, h1, h2⟩ := ty_cons h
    simp only [Fo.kp, List.length_cons, kp_len g n r _ h2]

/-- The i-th place of a row of types. -/
theorem kp_get (g : Nat) : ∀ (n : Nat) (F : Fo) (o i : Nat), Fit E F (rep (E 2) n) → i < n → ∃ p nm, (F.kp g o)[i]? = some p ∧ p.g = g ∧ p.o = o + (i * 4 + 3) ∧ F.vals[i * 4 + 2]? = some (.string nm) ∧ nm.size ≤ F.wt
  | 0, F, o, i, h, hi => by omega
  | n + 1, F, o, i, h, hi => by
    obtain ⟨k, j, nm, a, m, c, ks, r, rfl, h1, h2⟩ := ty_cons h
    cases i with
    | zero => exact ⟨_, nm, rfl, rfl, rfl, rfl, by simp only [Fo.wt, textSize]; omega⟩
    | succ i =>
      obtain ⟨p, nm', h3, h4, h5, h6, h7⟩ := kp_get g n r (o + 1 + 1 + 1 + 1) i h2 (by omega)
      refine ⟨p, nm', by simpa [Fo.kp] using h3, h4, by rw [h5]; omega, ?_, by simp only [Fo.wt, textSize]; omega⟩
      rw [show (i + 1) * 4 + 2 = i * 4 + 2 + 1 + 1 + 1 + 1 by omega]
      simpa [Fo.vals] using h6

/-- The copy as it stands in memory, and the places that wait. -/
structure CG (W0 wr : World) (S : Nat → Prop) (X : Nat) (G0 G : Fo) (P : List Pl) : Prop where
  sm : Sm X 0 G G0 P
  cel : Cel wr G.vals X 0
  sub : G.Subs wr (fun d => X < d ∧ d < wr.heap.size)
  nd : (X :: G.inn).Nodup
  lv : Live wr (X :: G.inn)
  pk : ∀ p ∈ P, PlOK W0 S p
  lt : X < wr.heap.size

section
variable {W0 wr : World} {S : Nat → Prop} {X : Nat} {G0 G : Fo} {P : List Pl}

theorem CG.blt (h : CG W0 wr S X G0 G P) : ∀ d ∈ X :: G.inn, d < wr.heap.size := fun d hd => by
  rcases List.mem_cons.1 hd with rfl | hd
  · exact h.lt
  · exact (h.sub.inn_of d hd).2

theorem CG.kept {wx : World} {T : Nat → Prop} (h : CG W0 wr S X G0 G P) (k : Kept T wr wx) (hT : ∀ d ∈ X :: G.inn, T d) : CG W0 wx S X G0 G P := by
  have hz := k.size
  refine ⟨h.sm, h.cel.kept k h.lt (hT X List.mem_cons_self), ?_, h.nd, h.lv.kept k (fun d hd => ⟨hT d hd, h.blt d hd⟩), h.pk, Nat.lt_of_lt_of_le h.lt hz⟩
  exact (h.sub.own.kept k (fun d hd => ⟨hT d (List.mem_cons_of_mem _ hd), h.blt d (List.mem_cons_of_mem _ hd)⟩)).mono (fun d hd => by have := h.sub.inn_of d hd; omega)

/-- The last place gets what is new. -/
theorem CG.step {p : Pl} (h : CG W0 wr S X G0 G (P ++ [p])) {V1 : World} (k1 : Kept (fun _ => True) wr V1) {g' : Nat} {a' : Option Addr} {c' : Nat} {K : Fo} {Q : List Pl} (hsm : Sm g' 0 K p.ks Q) (ha : 0 < K.len → a' = some ⟨g', 0, none⟩) (hK : K.Sub V1 (fun d => wr.heap.size ≤ d ∧ d < V1.heap.size) a' p.n c') (hnd : (blk a' K.len ++ K.inn).Nodup) (hlv : Live V1 (blk a' K.len ++ K.inn)) (hQ : ∀ q ∈ Q, PlOK W0 S q) :
    wr.cell? ⟨p.g, p.o, none⟩ = some (.slice p.a p.n p.c) ∧ p.g ∈ X :: G.inn ∧ ∃ G', CG W0 (V1.setCell ⟨p.g, p.o, none⟩ (.slice a' p.n c')) S X G0 G' (P ++ Q) ∧ ∀ d ∈ G'.inn, d ∈ G.inn ∨ wr.heap.size ≤ d := by
  have h1 := h.kept k1 (fun _ _ => trivial)
  obtain ⟨G', hs', hr⟩ := h.sm.step rfl (c' := c') hsm ha
  have hgp : p.g ∈ X :: G.inn := by
    rcases hr.at_ with ⟨e, -⟩ | e
    · rw [e]; exact List.mem_cons_self
    · exact List.mem_cons_of_mem _ e
  have hcl := hr.cell h.cel h.sub
  have hcl1 := hr.cell h1.cel h1.sub
  have hgl := h.blt p.g hgp
  obtain ⟨V, hV⟩ : ∃ V, V1.setCell ⟨p.g, p.o, none⟩ (.slice a' p.n c') = V := ⟨_, rfl⟩
  have kV : Kept (fun d => d ≠ p.g) V1 V := by rw [← hV]; exact Kept.setCell _ _ _ _ (by simp)
  have hz : V.heap.size = V1.heap.size := by rw [← hV]; simp [World.setCell]
  have hKo : (Fo.s a' p.n c' K .nil).Subs V1 (fun d => wr.heap.size ≤ d ∧ d < V1.heap.size) := ⟨hK, trivial⟩
  have hKin : ∀ d ∈ blk a' K.len ++ K.inn, wr.heap.size ≤ d ∧ d < V1.heap.size := fun d hd => hKo.inn_of d (by simpa [Fo.inn] using hd)
  have hKV : K.Sub V (fun d => X < d ∧ d < V.heap.size) a' p.n c' := by
    have hX := h.lt
    have h2 : (Fo.s a' p.n c' K .nil).Subs V (fun d => wr.heap.size ≤ d ∧ d < V1.heap.size) := hKo.kept kV (fun d hd => ⟨by omega, hd.2⟩)
    exact (h2.mono (fun d hd => by omega)).1
  have hpc : V.cell? ⟨p.g, p.o, none⟩ = some (.slice a' p.n c') := by
    rw [← hV]
    have := World.cell?_setCells_in p.g [.slice a' p.n c'] p.o V1 (fun j hj => by
      have hj0 : j = 0 := by simpa using hj
      subst hj0
      rw [Nat.add_zero, hcl1]
      rfl) 0 (by simp)
    simpa [World.setCells] using this
  have hmem := hr.mem (W := V1) (W' := V) (S := fun d => X < d ∧ d < V1.heap.size) (T := fun d => X < d ∧ d < V.heap.size) (fun d hd => by omega) hKV hpc h1.cel h1.sub h1.nd (fun q v hq hne hv => by
    by_cases e : q.block = p.g
    · have hne := hne e
      rw [← hV]
      have e2 : V1.setCells p.g p.o [.slice a' p.n c'] = V1.setCell ⟨p.g, p.o, none⟩ (.slice a' p.n c') := rfl
      rw [← e2, World.cell?_setCells_out _ _ _ _ _ (fun _ _ => by
        show q.off < p.o ∨ p.o + 1 ≤ q.off
        omega)]
      exact hv
    · exact (kV.cell (p := q) (h1.blt _ hq) e).trans hv)
  have hperm := hr.inn
  have hnew : ∀ d ∈ G'.inn, d ∈ blk a' K.len ++ K.inn ∨ d ∈ G.inn := fun d hd => List.mem_append.1 (hperm.mem_iff.1 hd)
  have hndG := h.nd
  have HV := hide hV
  rw [hV]
  refine ⟨hcl, hgp, G', ⟨hs', hmem.1, hmem.2, ?_, ?_, fun q hq => ?_, by rw [hz]; exact h1.lt⟩, fun d hd => ?_⟩
  · obtain ⟨q1, q2⟩ := List.nodup_cons.1 hndG
    refine List.nodup_cons.2 ⟨fun hc => ?_, hperm.nodup_iff.2 (List.nodup_append.2 ⟨hnd, q2, fun x hx y hy e => ?_⟩)⟩
    · rcases hnew X hc with hc | hc
      · have := (hKin X hc).1
        have := h.lt
        omega
      · exact q1 hc
    · have := (hKin x hx).1
      have := h.blt y (List.mem_cons_of_mem _ hy)
      omega
  · intro d hd j
    have hd' : d ∈ X :: G.inn ∨ d ∈ blk a' K.len ++ K.inn := by
      rcases List.mem_cons.1 hd with hd | hd
      · exact .inl (by rw [hd]; exact List.mem_cons_self)
      · rcases hnew d hd with hd | hd
        · exact .inr hd
        · exact .inl (List.mem_cons_of_mem _ hd)
    rw [← hV, World.frozen?_setCell]
    rcases hd' with hd | hd
    · exact h1.lv d hd j
    · exact hlv d hd j
  · rcases List.mem_append.1 hq with hq | hq
    · exact h.pk q (List.mem_append.2 (.inl hq))
    · exact hQ q hq
  · rcases hnew d hd with hd | hd
    · exact .inr (hKin d hd).1
    · exact .inl hd

/-- All is copied. -/
theorem CG.fin {a : Option Addr} {n c : Nat} {R : Fo} (h : CG W0 wr S X (.s a n c R .nil) G []) : ∃ a' c' R', G = .s a' n c' R' .nil ∧ R'.sim R ∧ Own (X + 1) wr (.s a' n c' R' .nil) ∧ wr.cell? ⟨X, 0, none⟩ = some (.slice a' n c') := by
  obtain ⟨a', c', R', q, rfl, hs, hq⟩ := Fo.sim_s (h.sm.sim rfl)
  obtain rfl := Fo.sim_nil hq
  exact ⟨a', c', R', rfl, hs, ⟨h.sub, (List.nodup_cons.1 h.nd).2, h.lv.sub (fun d hd => List.mem_cons_of_mem _ hd)⟩, h.cel 0 _ rfl⟩

end

end Go.Proofs.Ytcflciblcdabpaa

namespace Go.Proofs.Ytcflciblcdabpaa
open Go.RowKit Go.Joins

def Pl.cells (ap : Bool) (p : Pl) : List Value := [.pointer (some ⟨p.g, p.o, none⟩), .bool ap]

def plc (ap : Bool) (P : List Pl) : List Value := P.flatMap (Pl.cells ap)

theorem plc_app (ap : Bool) (P Q : List Pl) : plc ap (P ++ Q) = plc ap P ++ plc ap Q := by simp [plc]

theorem plc_len (ap : Bool) : ∀ P : List Pl, (plc ap P).length = P.length * 2
  | [] => rfl
  | p :: P => by
    have := plc_len ap P
    simp only [plc, List.flatMap_cons, List.length_append, List.length_cons] at this ⊢
    simp only [this, Pl.cells, List.length_cons, List.length_nil]
    omega

def SC (W : World) (cb : Nat) : Nat → Prop := fun d => d < W.heap.size ∧ d ≠ cb

/-- Where the copying stands. -/
structure CJ (W wr : World) (cb M M2 : Nat) (a : Option Addr) (n c : Nat) (R : Fo) (room : Int) (ap : Bool) (G : Fo) (P : List Pl) (g cap q : Nat) : Prop where
  cg : CG W wr (SC W cb) W.heap.size (.s a n c R .nil) G P
  ow : wr.ownsRow (W.heap.size + 1) 147 2 (.slice (some ⟨g, 0, none⟩) q cap) q (plc ap P)
  ln : P.length = q
  ng : g ∉ G.inn
  kp : Kept (SC W cb) W wr
  bx : Bx wr cb [.map (some M), .map (some M2), .int .i64 room]
  cl : cb < W.heap.size
  fs : ap = false → P = [⟨W.heap.size, 0, a, n, c, R⟩]
  ws : wsum P ≤ 1048577

theorem CG.last {W0 wr : World} {S : Nat → Prop} {X : Nat} {G0 G : Fo} {P : List Pl} {p : Pl} (h : CG W0 wr S X G0 G (P ++ [p])) : wr.cell? ⟨p.g, p.o, none⟩ = some (.slice p.a p.n p.c) ∧ p.g ∈ X :: G.inn ∧ wr.frozen? ⟨p.g, p.o, none⟩ = false := by
  obtain ⟨G', -, hr⟩ := h.sm.step rfl (c' := 0) (sm_pl 0 p.ks 0) (a' := some ⟨0, 0, none⟩) (fun _ => rfl)
  have hgp : p.g ∈ X :: G.inn := by
    rcases hr.at_ with ⟨e, -⟩ | e
    · rw [e]; exact List.mem_cons_self
    · exact List.mem_cons_of_mem _ e
  exact ⟨hr.cell h.cel h.sub, hgp, h.lv p.g hgp p.o⟩

def LJ (W : World) (cb M M2 : Nat) (a : Option Addr) (n c : Nat) (R : Fo) (room0 : Int) (s5 : Value) (wr : World) (k : Nat) : Prop :=
  ∃ room ap G P g cap q, s5 = .slice (some ⟨g, 0, none⟩) q cap ∧ CJ W wr cb M M2 a n c R room ap G P g cap q ∧ (ap = false → room = room0) ∧ k = wsum P

theorem miss_none {O L : Nat → Nat} {w : World} {M : Nat} (h : MK O L w M []) (p : Option Addr) (m : Int) : (Instr.lookup 116 (.map (some M)) (.agg #[.pointer p, .int .i64 m]) true).run Try.prog w = .ok (.tuple #[.slice none 0 0, .bool false]) w := by
  obtain ⟨es, c, h1, h2⟩ := h
  have he : es.toList = [] := by simpa using h2
  have hck : ∀ em, (Instr.checkKey em 10000 114 (.agg #[.pointer p, .int .i64 m])).run Try.prog w = .ok () w := fun em => by
    have : ∀ n, (Instr.checkKey em (n + 1 + 1) 114 (.agg #[.pointer p, .int .i64 m])).run Try.prog w = .ok () w := fun n => by simp [go_sem, Instr.checkKey]
    exact this 9998
  unfold Instr.lookup
  simp [run_underlying Try.underlying116, MapKept.run_getObj_map h1, hck, he, Instr.findKey, go_sem, Instr.findNow]

theorem CJ.start {W V : World} {cb M M2 : Nat} {a : Option Addr} {n c : Nat} {R : Fo} {room : Int} (hV : (W.alloc (.cells #[.slice a n c] 30)).alloc (.cells #[.pointer (some ⟨W.heap.size, 0, none⟩), .bool false] 147) = V) (hbx : Bx W cb [.map (some M), .map (some M2), .int .i64 room]) (hcl : cb < W.heap.size) (hf : Fit E R (rep (E 2) n)) (hs : R.Sub W (SC W cb) a n c) (hT : R.tc ≤ 1048576) (hwt : R.wt ≤ 1048576) :
    CJ W V cb M M2 a n c R room false (.v (.slice a n c) .nil) [⟨W.heap.size, 0, a, n, c, R⟩] (W.heap.size + 1) 1 1 := by
  have k1 : Kept (fun _ => True) W (W.alloc (.cells #[.slice a n c] 30)) := Kept.alloc _ _ _
  have k2 : Kept (fun _ => True) W V := by rw [← hV]; exact k1.al
  have hz : V.heap.size = W.heap.size + 1 + 1 := by rw [← hV]; simp
  have hX : V.heap[W.heap.size]? = some (.cells #[.slice a n c] 30) := by
    have h1 := heap_new W (.cells #[.slice a n c] 30)
    have h2 := (Kept.alloc (fun _ => True) (W.alloc (.cells #[.slice a n c] 30)) (.cells #[.pointer (some ⟨W.heap.size, 0, none⟩), .bool false] 147)).block W.heap.size (by simp) trivial
    rw [hV] at h2
    rw [h2]
    exact h1
  have hY : V.heap[W.heap.size + 1]? = some (.cells #[.pointer (some ⟨W.heap.size, 0, none⟩), .bool false] 147) := by
    have h1 := heap_new (W.alloc (.cells #[.slice a n c] 30)) (.cells #[.pointer (some ⟨W.heap.size, 0, none⟩), .bool false] 147)
    rw [hV] at h1
    simpa using h1
  refine ⟨⟨.op a n c R (.nil _ _), fun i v hv => ?_, trivial, by simp [Fo.inn], fun d hd j => ?_, fun p hp => ?_, by omega⟩, ⟨rfl, .inr ⟨W.heap.size + 1, 1, _, rfl, Nat.le_refl _, hY, Nat.le_refl _, by unfold maxLen; omega, rfl, rfl⟩⟩, rfl, by simp [Fo.inn], k2.mono (fun _ _ _ => trivial), hbx.kept k2 trivial, hcl, fun _ => rfl, by simp only [wsum]; omega⟩
  · cases i with
    | zero =>
      have e : Value.slice a n c = v := Option.some.inj hv
      rw [← e]
      simp [World.cell?, hX]
    | succ i => simp [Fo.vals] at hv
  · have e : d = W.heap.size := by simpa [Fo.inn] using hd
    subst e
    simp [World.frozen?, hX]
  · have e : p = ⟨W.heap.size, 0, a, n, c, R⟩ := by simpa using hp
    subst e
    exact ⟨hf, hs, hwt⟩

/-- The list of the last place is empty. -/
theorem CJ.emp {W wr V1 : World} {cb M M2 : Nat} {a : Option Addr} {n c : Nat} {R : Fo} {room : Int} {ap : Bool} {G : Fo} {P : List Pl} {p : Pl} {g cap q : Nat} (h : CJ W wr cb M M2 a n c R room ap G (P ++ [p]) g cap (q + 1)) (hn : p.n = 0) (k1 : Kept (fun _ => True) wr V1) :
    ∃ G', CJ W (V1.setCell ⟨p.g, p.o, none⟩ (.slice none 0 0)) cb M M2 a n c R room true G' P g cap q := by
  have hp := h.cg.pk p (List.mem_append.2 (.inr List.mem_cons_self))
  have hf := hp.fit
  rw [hn] at hf
  have hks := fit_nil hf
  obtain ⟨h1, h2, G', h3, h4⟩ := h.cg.step k1 (g' := 0) (a' := none) (c' := 0) (K := .nil) (Q := []) (by rw [hks]; exact .nil 0 0) (fun h => absurd h (by simp [Fo.len])) ⟨by omega, by unfold maxLen; omega, fun h => absurd h (by simp [Fo.len])⟩ (by simp [blk, Fo.inn]) (fun d hd => by simp [blk, Fo.inn] at hd) (fun q hq => absurd hq List.not_mem_nil)
  rw [hn, List.append_nil] at h3
  have kV : Kept (fun d => d ≠ p.g) V1 (V1.setCell ⟨p.g, p.o, none⟩ (.slice none 0 0)) := Kept.setCell _ _ _ _ (by simp)
  have hgo := ownsRow_le h.ow
  have hXp : W.heap.size ≤ p.g := by
    rcases List.mem_cons.1 h2 with e | e
    · omega
    · have := (h.cg.sub.inn_of p.g e).1
      omega
  have hgp : g ≠ p.g := fun e => by
    rcases List.mem_cons.1 h2 with e' | e'
    · omega
    · exact h.ng (e ▸ e')
  have how := ownsRow_kept (ownsRow_kept h.ow k1 (fun _ _ => trivial)) kV (fun d e => by
    have e' : g = d := Option.some.inj e
    rw [← e']
    exact hgp)
  rw [plc_app] at how
  have hln : P.length = q := by have := h.ln; simpa using this
  have hcut := ownsRow_cut how (by rw [plc_len, hln])
  have hws := h.ws
  rw [wsum_app] at hws
  refine ⟨G', h3, ?_, hln, fun hc => ?_, (h.kp.trans (k1.mono (fun _ _ _ => trivial))).trans (kV.mono (fun d _ hd => by have := hd.1; omega)), (h.bx.kept k1 trivial).kept kV (by have := h.cl; omega), h.cl, fun e => (by cases e), by omega⟩
  · cases ap with
    | true => exact hcut
    | false =>
      have hP : P = [] := by
        have := h.fs rfl
        cases P with
        | nil => rfl
        | cons x P => simp at this
      subst hP
      exact hcut
  · rcases h4 g hc with h5 | h5
    · exact h.ng h5
    · omega

/-- The list of the last place is copied: its places wait. -/
theorem CJ.more {W wr V wx : World} {cb M M2 : Nat} {a : Option Addr} {n c : Nat} {R : Fo} {room room' : Int} {ap : Bool} {G G' : Fo} {P Q : List Pl} {p : Pl} {g cap q gi ci m : Nat} (h : CJ W wr cb M M2 a n c R room ap G (P ++ [p]) g cap (q + 1)) (hcg : CG W V (SC W cb) W.heap.size (.s a n c R .nil) G' (P ++ Q)) (hG' : ∀ d ∈ G'.inn, d ∈ G.inn ∨ wr.heap.size ≤ d) (hkV : Kept (SC W cb) W V) (hbx : Bx V cb [.map (some M), .map (some M2), .int .i64 room']) (hSV : Kept (fun d => d < V.heap.size ∧ d ≠ g) V wx) (how : wx.ownsRow (W.heap.size + 1) 147 2 (.slice (some ⟨gi, 0, none⟩) (q + m) ci) (q + m) (plc true (P ++ Q))) (hgi : gi = g ∨ V.heap.size ≤ gi) (hm : Q.length = m) (hws : wsum Q ≤ p.ks.tc) :
    CJ W wx cb M M2 a n c R room' true G' (P ++ Q) gi ci (q + m) := by
  have hgo := ownsRow_le h.ow
  have hgG : g ∉ G'.inn := fun hc => by
    rcases hG' g hc with h1 | h1
    · exact h.ng h1
    · omega
  have hln : P.length = q := by have := h.ln; simpa using this
  have hcl := h.cl
  have hzV := hkV.size
  have hW := h.ws
  rw [wsum_app] at hW
  simp only [wsum] at hW
  refine ⟨hcg.kept hSV (fun d hd => ⟨hcg.blt d hd, fun e => ?_⟩), how, by rw [List.length_append, hln, hm], fun hc => ?_, hkV.trans (hSV.mono (fun d _ hd => ⟨by have := hd.1; omega, by have := hd.1; omega⟩)), hbx.kept hSV ⟨by omega, by omega⟩, hcl, fun e => (by cases e), by rw [wsum_app]; omega⟩
  · rcases List.mem_cons.1 hd with hd | hd
    · omega
    · exact hgG (e ▸ hd)
  · rcases hgi with rfl | hgi
    · exact hgG hc
    · have := hcg.blt gi (List.mem_cons_of_mem _ hc)
      omega

end Go.Proofs.Ytcflciblcdabpaa
