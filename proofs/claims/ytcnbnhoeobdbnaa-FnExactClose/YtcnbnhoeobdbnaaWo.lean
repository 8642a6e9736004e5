import Derived.Test.YtcnbnhoeobdbnaaIq
namespace Go.Proofs.Ytcnbnhoeobdbnaa
open Go.RowKit Go.Joins

theorem empty_of {nm : ByteArray} (h : nm.toList = []) : nm = ⟨#[]⟩ := by
  rw [Lib.toList_data] at h
  exact ByteArray.ext (Array.ext' (by simpa using h))

/-- Of types without fault program and model open alike. -/
theorem Fo.wl_op (f : Int) : ∀ (F : Fo) (d : Nat), F.good d → (F.wl f).sim (F.op f)
  | .nil, _, _ => trivial
  | .cons k ix nm a cap ks r, d, ⟨h1, h2, h3, h4⟩ => by
    have hr := Fo.wl_op f r d h4
    have hks := Fo.wl_op f ks (d + 1) h3
    rcases h2 with ⟨hk, -, hn, hl⟩ | ⟨hk, hi, -⟩
    · have hnm := empty_of hn
      have hks0 : ks = .nil := by
        cases ks with
        | nil => rfl
        | cons _ _ _ _ _ _ _ => simp [Fo.len] at hl
      subst hnm hks0
      rcases hk with rfl | rfl
      · simp only [Fo.wl, Fo.op]
        exact ⟨by simp, by simp, rfl, trivial, hr⟩
      · simp only [Fo.wl, Fo.op]
        exact ⟨by simp, by simp, rfl, trivial, hr⟩
    · subst hk hi
      simp only [Fo.wl, Fo.op]
      exact ⟨rfl, rfl, rfl, hks, hr⟩

open Classical in
/-- What Open answers of a scheme. -/
noncomputable def oT (c f k ix : Int) (nm : ByteArray) (F : Fo) : Fo := if okO c f k ix nm F then (Fo.cons k ix nm none 0 F .nil).op f else zeroT

theorem Fo.pls_sim {c : Int} : ∀ {F G : Fo}, F.sim G → F.pls c → G.pls c
  | .nil, .nil, _, _ => trivial
  | .cons _ _ _ _ _ _ _, .cons _ _ _ _ _ _ _, ⟨a, z, _, b, e⟩, ⟨h1, h2, h3⟩ => by subst a z; exact ⟨h1, Fo.pls_sim b h2, Fo.pls_sim e h3⟩
  | .nil, .cons _ _ _ _ _ _ _, h, _ => h.elim
  | .cons _ _ _ _ _ _ _, .nil, h, _ => h.elim

theorem Fo.op_sim {f : Int} : ∀ {F G : Fo}, F.sim G → (F.op f).sim (G.op f)
  | .nil, .nil, _ => trivial
  | .cons k _ _ _ _ _ _, .cons _ _ _ _ _ _ _, ⟨a, z, n, b, e⟩ => by
    subst a z n
    simp only [Fo.op]
    by_cases hk : k = 2
    · simp only [if_pos hk]; exact ⟨rfl, rfl, rfl, trivial, Fo.op_sim e⟩
    · simp only [if_neg hk]; exact ⟨rfl, rfl, rfl, Fo.op_sim b, Fo.op_sim e⟩
  | .nil, .cons _ _ _ _ _ _ _, h => h.elim
  | .cons _ _ _ _ _ _ _, .nil, h => h.elim

theorem okO_sim {c f k ix : Int} {nm : ByteArray} {F G : Fo} (h : F.sim G) (o : okO c f k ix nm F) : okO c f k ix nm G :=
  ⟨TG.sim h o.1, o.2.1, o.2.2.1, o.2.2.2.1, o.2.2.2.2.1, o.2.2.2.2.2.1, Fo.pls_sim h o.2.2.2.2.2.2.1, trivial⟩

theorem oT_sim {c f k ix : Int} {nm : ByteArray} {F G : Fo} (h : F.sim G) : (oT c f k ix nm F).sim (oT c f k ix nm G) := by
  unfold oT
  by_cases ho : okO c f k ix nm F
  · rw [if_pos ho, if_pos (okO_sim h ho)]
    exact Fo.op_sim ⟨rfl, rfl, rfl, h, trivial⟩
  · rw [if_neg ho, if_neg (fun h2 => ho (okO_sim h.symm h2))]
    exact Fo.sim.refl _

/-- The program's Open. -/
theorem iopen (c : Int) (pa : Option Addr) (pn pc : Nat) (k ix : Int) (nm : ByteArray) (a : Option Addr) (cap : Nat) (ks : Fo) (f : Int) (w : World)
    (hk : (Lit.int .i64 k).wf = true) (hix : (Lit.int .i64 ix).wf = true) (hnm : nm.size ≤ maxLen) (hs : ks.Sl w (fun b => b < w.heap.size) a cap) (hsz : nm.size + ks.tot ≤ 1048576) :
    Calls Try.prog 42 #[schV c pa pn pc k ix nm a ks.len cap, .int .i64 f] w fun e W' => OpP w (oT c f k ix nm ks) e W' := by
  have hst := ks.size_le
  by_cases hbad : fltB k ix nm ks = true ∨ f < 0 ∨ 1099511627776 < f ∨ c < 0 ∨ 1099511627776 < c
  · have h := iopen_bad c pa pn pc k ix nm a cap ks f w hk hix hnm hs (by omega) hbad
    have ho : ¬ okO c f k ix nm ks := fun o => by
      rcases hbad with h | h
      · simp [fltB, o.1] at h
      · have := o.2.1; have := o.2.2.1; have := o.2.2.2.1; have := o.2.2.2.2.1; omega
    unfold oT
    rw [if_neg ho]
    exact h
  · have hT : TG k ix nm ks := Classical.byContradiction fun h => hbad (.inl (by simp [fltB, h]))
    have hf : ¬ f < 0 := fun h => hbad (.inr (.inl h))
    have hf2 : ¬ 1099511627776 < f := fun h => hbad (.inr (.inr (.inl h)))
    have hc : ¬ c < 0 := fun h => hbad (.inr (.inr (.inr (.inl h))))
    have hc2 : ¬ 1099511627776 < c := fun h => hbad (.inr (.inr (.inr (.inr h))))
    have h := callsIn_wide.1 (iopen_in 5 (Nat.le_refl _) c pa pn pc k ix nm a cap ks f w hk hix hnm hs hsz hT hf hf2 hc hc2)
    refine h.mono ?_
    rintro e W' ⟨d, h1, h2, h3, h4, h5, h6⟩
    refine ⟨d, h1, ?_, h3, h4, h5, h6⟩
    by_cases hp : (Fo.cons k ix nm a cap ks .nil).pls c
    · have e1 : opnT c f (.cons k ix nm a cap ks .nil) = (Fo.cons k ix nm a cap ks .nil).wl f := if_pos hp
      have ho : okO c f k ix nm ks := ⟨hT, by omega, by omega, by omega, by omega, hp⟩
      unfold oT
      rw [if_pos ho]
      rw [e1] at h2
      exact (h2.trans (Fo.wl_op f _ 1 (show (Fo.cons k ix nm a cap ks .nil).good 1 from hT.1))).trans (Fo.op_sim ⟨rfl, rfl, rfl, Fo.sim.refl _, trivial⟩)
    · have e1 : opnT c f (.cons k ix nm a cap ks .nil) = zeroT := if_neg hp
      have ho : ¬ okO c f k ix nm ks := fun o => hp o.2.2.2.2.2
      unfold oT
      rw [if_neg ho]
      rw [e1] at h2
      exact h2

end Go.Proofs.Ytcnbnhoeobdbnaa
