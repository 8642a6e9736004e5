import Derived.Test.YtmnligaelihmiaaUq
namespace Go.Proofs.Ytmnligaelihmiaa
open Go.RowKit Go.Joins

theorem Fo.mks_app : ∀ (F G : Fo) (k : Nat), (F.app G).mks k = (F.mks k).app (G.mks (k + F.sct))
  | .nil, _, _ => rfl
  | .v _ r, G, k => by simp only [Fo.app, Fo.mks, Fo.sct, r.mks_app]
  | .s _ _ _ ks r, G, k => by
    simp only [Fo.app, Fo.mks, Fo.sct, r.mks_app]
    congr 3
    omega

theorem Fo.app_sct : ∀ F G : Fo, (F.app G).sct = F.sct + G.sct
  | .nil, _ => by simp [Fo.app, Fo.sct]
  | .v _ r, G => by simp only [Fo.app, Fo.sct, r.app_sct G]
  | .s _ _ _ _ r, G => by simp only [Fo.app, Fo.sct, r.app_sct G]; omega

/-- What the slices of a row hold is marked, piece by piece. -/
structure MkS (F : Fo) (k0 : Nat) (W : World) (Fp r : Fo) (wr : World) : Prop where
  eq : Fp.app r = F
  subs : ((Fp.mks k0).app r).Subs wr (fun c => c ∈ F.inn)
  kept : Kept (fun c => c ∉ F.inn) W wr
  live : Live wr F.inn
  lt : ∀ c, c ∈ F.inn → c < W.heap.size
  nodup : F.inn.Nodup

theorem MkS.start {F : Fo} {k0 : Nat} {W : World} (h : F.Subs W (fun c => c < W.heap.size)) (hnd : F.inn.Nodup) (hl : Live W F.inn) : MkS F k0 W .nil F W :=
  ⟨rfl, h.own, Kept.refl _ _, hl, h.inn_of, hnd⟩

theorem MkS.below {F Fp r : Fo} {k0 : Nat} {W wr w1 : World} (h : MkS F k0 W Fp r wr) (k : Below wr.heap.size wr w1) : MkS F k0 W Fp r w1 := by
  have hz := h.kept.size
  have hlt : ∀ c, c ∈ F.inn → c < wr.heap.size := fun c hc => by have := h.lt c hc; omega
  exact ⟨h.eq, h.subs.below k hlt, h.kept.trans (kt k), h.live.below k hlt, h.lt, h.nodup⟩

theorem MkS.sub {F Fp X r : Fo} {k0 : Nat} {W wr : World} (h : MkS F k0 W Fp (X.app r) wr) : X.Subs wr (fun c => c < wr.heap.size) ∧ X.inn.Nodup ∧ Live wr X.inn := by
  have hz := h.kept.size
  have e := congrArg Fo.inn h.eq
  rw [Fo.inn_app, Fo.inn_app] at e
  have hnd := h.nodup
  rw [← e] at hnd
  refine ⟨(h.subs.right.left).mono (fun c hc => by have := h.lt c hc; omega), (List.nodup_append.1 (List.nodup_append.1 hnd).2.1).1, h.live.sub (fun c hc => by rw [← e]; exact List.mem_append.2 (.inr (List.mem_append.2 (.inl hc))))⟩

theorem MkS.call {F Fp X r : Fo} {k0 q : Nat} {W wr w1 : World} (h : MkS F k0 W Fp (X.app r) wr) (hq : k0 + Fp.sct = q) (k : Kept (fun c => c ∉ X.inn) wr w1) (hs : (X.mks q).Subs w1 (fun c => c < wr.heap.size)) (hl : Live w1 X.inn) :
    MkS F k0 W (Fp.app X) r w1 := by
  have hz := h.kept.size
  have e := congrArg Fo.inn h.eq
  rw [Fo.inn_app, Fo.inn_app] at e
  have hnd := h.nodup
  rw [← e] at hnd
  obtain ⟨hn1, hn2, hn3⟩ := List.nodup_append.1 hnd
  obtain ⟨hn4, hn5, hn6⟩ := List.nodup_append.1 hn2
  have hsub : ∀ c, c ∈ X.inn → c ∈ F.inn := fun c hc => by rw [← e]; exact List.mem_append.2 (.inr (List.mem_append.2 (.inl hc)))
  have hlt : ∀ c, c ∈ F.inn → c < wr.heap.size := fun c hc => by have := h.lt c hc; omega
  refine ⟨by rw [Fo.app_assoc]; exact h.eq, ?_, h.kept.trans (k.mono (fun c _ hc hx => hc (hsub c hx))), ?_, h.lt, h.nodup⟩
  · rw [Fo.mks_app, Fo.app_assoc, hq]
    refine Fo.Subs.app ?_ (Fo.Subs.app ?_ ?_)
    · have h1 := h.subs.left.own
      rw [Fo.mks_inn] at h1
      exact (h1.kept k (fun c hc => ⟨fun hx => hn3 c hc c (List.mem_append.2 (.inl hx)) rfl, hlt c (by rw [← e]; exact List.mem_append.2 (.inl hc))⟩)).mono (fun c hc => by rw [← e]; exact List.mem_append.2 (.inl hc))
    · have h2 := hs.own
      rw [Fo.mks_inn] at h2
      exact h2.mono hsub
    · have h3 := h.subs.right.right
      exact (h3.own.kept k (fun c hc => ⟨fun hx => hn6 c hx c hc rfl, hlt c (by rw [← e]; exact List.mem_append.2 (.inr (List.mem_append.2 (.inr hc))))⟩)).mono (fun c hc => by rw [← e]; exact List.mem_append.2 (.inr (List.mem_append.2 (.inr hc))))
  · intro c hc j
    by_cases hx : c ∈ X.inn
    · exact hl c hx j
    · exact (k.frozen (p := ⟨c, j, none⟩) (hlt c hc) hx).trans (h.live c hc j)

theorem MkS.away {F Fp X r : Fo} {k0 b : Nat} {W wr : World} (h : MkS F k0 W Fp (X.app r) wr) (hb : W.heap.size ≤ b) : b ∉ X.inn := fun hx => by
  have e := congrArg Fo.inn h.eq
  rw [Fo.inn_app, Fo.inn_app] at e
  have := h.lt b (by rw [← e]; exact List.mem_append.2 (.inr (List.mem_append.2 (.inl hx))))
  omega

theorem MkS.skip {F Fp r : Fo} {k0 : Nat} {x : Value} {W wr : World} (h : MkS F k0 W Fp (.v x r) wr) : MkS F k0 W (Fp.app (.v x .nil)) r wr := by
  refine MkS.call (X := .v x .nil) (q := k0 + Fp.sct) h rfl (Kept.refl _ _) trivial (fun c hc => by simp [Fo.inn] at hc)

theorem MkS.finish {F Fp : Fo} {k0 : Nat} {W wr : World} (h : MkS F k0 W Fp .nil wr) : (F.mks k0).Subs wr (fun c => c < W.heap.size) ∧ Kept (fun c => c ∉ F.inn) W wr ∧ Live wr F.inn := by
  have e := h.eq
  rw [Fo.app_nil] at e
  subst e
  have hs := h.subs
  rw [Fo.app_nil] at hs
  exact ⟨hs.mono (fun c hc => h.lt c hc), h.kept, h.live⟩

end Go.Proofs.Ytmnligaelihmiaa
