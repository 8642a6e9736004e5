import Derived.Test.YtkjbkmhmghmodaaBi
namespace Go.Proofs.Ytkjbkmhmghmodaa
open Go.RowKit Go.Joins

def ncf : Nat → Nat
  | 0 => 4
  | 1 => 5
  | i + 2 => i + 5
def ndf : Nat → Nat
  | 0 => 5
  | 1 => 6
  | i + 2 => i + 6

theorem ncf_le : ∀ i, i ≤ 8 → ncf i ≤ 11 ∧ ndf i ≤ 12
  | 0, _ => by simp [ncf, ndf]
  | 1, _ => by simp [ncf, ndf]
  | i + 2, h => by simp only [ncf, ndf]; omega

theorem step_ct : ∀ i, i ≠ 1 → ct (i + 1) = (ct i).app (tupC i) ∧ dt (i + 1) = (dt i).app (tupD i) ∧ ncf (i + 1) = ncf i + 1 ∧ ndf (i + 1) = ndf i + 1
  | 0, _ => ⟨rfl, rfl, rfl, rfl⟩
  | 1, h => absurd rfl h
  | _ + 2, _ => ⟨rfl, rfl, rfl, rfl⟩

theorem gens_inn : ∀ j, (gens j).inn = []
  | 0 => rfl
  | j + 1 => by rw [gens, Fo.inn_app, gens_inn j]; rfl

/-- Fields that are coming. -/
structure FI (P : Nat → Prop) (M : Nat) (Lr : List Value) (A : World) (nc nd : Nat) (Cx Dx : Fo) (pc pd : Option Addr) (qc qd : Nat) (C D : Fo) (g j cap : Nat) (V : World) : Prop where
  mp : MP P M Lr A nc nd Cx Dx pc pd qc qd C D V
  hp : Hp P [.row 66 4 (.slice (some ⟨g, 0, none⟩) j cap) j (gens j), .row 43 5 (.slice pc nc qc) nc C, .row 124 3 (.slice pd nd qd) nd D] V

theorem FI.start {P : Nat → Prop} {M : Nat} {Lr : List Value} {A : World} {nc nd : Nat} {Cx Dx : Fo} {pc pd : Option Addr} {qc qd : Nat} {C D : Fo} {V : World} (h : MP P M Lr A nc nd Cx Dx pc pd qc qd C D V) :
    FI P M Lr V nc nd Cx Dx pc pd qc qd C D V.heap.size 0 0 (V.alloc (.cells #[] 66)) :=
  ⟨h.keep (Kept.alloc _ _ _) |> fun h' => { h' with kp := (Kept.alloc _ _ _) }, (h.hp.plain .nil (fun _ _ => trivial) rfl).build 66 4 0 h.pl rfl (Nat.zero_le _)⟩

theorem FI.step {P : Nat → Prop} {M : Nat} {Lr : List Value} {A : World} {nc nd : Nat} {Cx Dx : Fo} {pc pd : Option Addr} {qc qd : Nat} {C D : Fo} {g j cap g' cap' : Nat} {V wc w3 : World} (h : FI P M Lr A nc nd Cx Dx pc pd qc qd C D g j cap V) (k : Kept (fun _ => True) V wc) (hG : wc.grownBy w3 (some g))
    (hO : w3.ownsRow 0 66 4 (.slice (some ⟨g', 0, none⟩) (j + 1) cap') (j + 1) ((gens j).vals ++ [.int .i64 2, .int .i64 j, .string ⟨#[]⟩, .slice none 0 0])) (hat : (some g : Option Nat) = some g' ∨ g' = wc.heap.size) :
    FI P M Lr A nc nd Cx Dx pc pd qc qd C D g' (j + 1) cap' w3 := by
  have hPl : ∀ c, P c → c < wc.heap.size := fun c hc => Nat.lt_of_lt_of_le (h.mp.pl c hc) k.size
  have h1 := ((h.hp.keep k).plain (gen1 j) (gen1_subs j) rfl).perm (perm_b _ _ _)
  obtain ⟨h3, k3⟩ := h1.grow hPl hG hO (by
    rcases hat with e | e
    · exact .inl e.symm
    · rw [e]; exact .inr rfl)
  have hg : ¬ P g := fun hp => h1.fr g (by rw [bls_cons]; exact List.mem_append.2 (.inl (List.mem_append.2 (.inl (mem_ob.2 rfl))))) hp
  have kk : Kept P V w3 := (k.mono (fun _ _ _ => trivial)).trans (k3.mono (fun c _ hc e => hg (by have : g = c := Option.some.inj e; rw [this]; exact hc)))
  exact ⟨⟨h.mp.bm.kept kk h.mp.pm, h3.tail, h.mp.sc, h.mp.sd, h.mp.dl, h.mp.kp.trans (kk.mono (fun c _ hc => hc.1)), h.mp.pm, fun c hc => Nat.lt_of_lt_of_le (h.mp.pl c hc) kk.size⟩, h3⟩

/-- A data with fields waiting. -/
theorem FI.more {P : Nat → Prop} {M : Nat} {Lr : List Value} {A : World} {nc nd : Nat} {Cx Dx : Fo} {pc pd : Option Addr} {qc qd : Nat} {C D : Fo} {g j cap : Nat} {V : World} (h : FI P M Lr A nc nd Cx Dx pc pd qc qd C D g j cap V) (nm : ByteArray) (vars : Int) (hnd : nd ≤ 1000) :
    Calls Try.prog 29 #[.pointer (some ⟨M, 0, none⟩), .string nm, .int .i64 vars] V fun e V' => ∃ pd' qd', e = .returned (.agg #[.pointer (some ⟨M, 0, none⟩), .int .i64 nd]) ∧ Hid (MO P M Lr A nc nd Cx Dx nm vars 0 .nil pc pd' none qc qd' 0 C D V' ∧
      Hp P [.row 43 5 (.slice pc nc qc) nc C, .row 124 3 (.slice pd' (nd + 1) qd') (nd + 1) (D.app (.v (.string nm) (.v (.int .i64 vars) (.v (.slice none 0 0) .nil)))), .row 9 1 (.slice none 0 0) 0 .nil, .fo (.s (some ⟨g, 0, none⟩) j cap (gens j) .nil)] V') := by
  have hnd1 := h.hp.nd
  rw [bls_cons] at hnd1
  have hgi := gens_inn j
  have hbl : Item.bl (.row 66 4 (.slice (some ⟨g, 0, none⟩) j cap) j (gens j)) = [g] := by simp only [Item.bl, hgi, List.append_nil]; rfl
  rw [hbl] at hnd1
  have hgP : ¬ P g := h.hp.fr g (by rw [bls_cons, hbl]; simp)
  have hgl := h.hp.lt (c := g) (by rw [bls_cons, hbl]; simp)
  have hMg : g ≠ M := fun e => hgP (by rw [e]; exact h.mp.pm)
  have h1 : MP (fun c => P c ∨ c = g) M Lr V nc nd Cx Dx pc pd qc qd C D V := by
    refine ⟨h.mp.bm, h.mp.hp.mono (fun c hc hp hq => ?_), h.mp.sc, h.mp.sd, h.mp.dl, Kept.refl _ _, .inl h.mp.pm, fun c hc => by rcases hc with hc | hc; exact h.mp.pl c hc; omega⟩
    rcases hq with hq | hq
    · exact hp hq
    · have := (List.nodup_append.1 hnd1).2.2 g (by simp) c hc
      exact this hq.symm
  refine (m_more h1 nm vars hnd).mono ?_
  rintro e V' ⟨pd', qd', rfl, hh⟩
  have ho := hh.out
  refine ⟨pd', qd', rfl, ⟨ho.bm, ho.hp.mono (fun c _ hp hq => hp (.inl hq)), ho.sc, ho.sd, ho.dl, h.mp.kp.trans (ho.kp.mono (fun c _ hc => ⟨.inl hc.1, hc.2⟩)), h.mp.pm, fun c hc => ho.pl c (.inl hc)⟩, ?_⟩
  have hi := (h.hp.ok _ List.mem_cons_self).kept ho.kp (fun c hc => by rw [hbl] at hc; have : c = g := by simpa using hc
                                                                       rw [this]; exact ⟨.inr rfl, hMg⟩)
  have h4 := ho.hp.join (P := P) hi (by rw [hbl]; simp) (fun c hc => by rw [hbl] at hc; have : c = g := by simpa using hc
                                                                        exact .inr this) (fun c hc => by rw [hbl] at hc; have : c = g := by simpa using hc
                                                                                                         rw [this]; exact hgP) (fun c hc => .inl hc)
  obtain ⟨a, c, e, h5⟩ := h4.shut
  cases e
  exact h5.perm (rot4 _ _ _ _).symm

end Go.Proofs.Ytkjbkmhmghmodaa
