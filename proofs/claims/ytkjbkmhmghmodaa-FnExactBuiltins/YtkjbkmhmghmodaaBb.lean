import Derived.Test.YtkjbkmhmghmodaaBa
import Derived.Test.YtkjbkmhmghmodaaKToConInfo
import Derived.Test.YtkjbkmhmghmodaaKToDataInfo
import Derived.Test.YtkjbkmhmghmodaaKTostring
import Derived.Deep.RegionLaw
namespace Go.Proofs.Ytkjbkmhmghmodaa
open Go.RowKit Go.Joins

/-- Constructors with their data told. -/
def told (nm : ByteArray) (vars : Int) : Nat → Fo → Fo
  | i, .v x (.v _ (.v _ (.v _ (.s a n cap ks r)))) => .v x (.v (.string nm) (.v (.int .i64 i) (.v (.int .i64 vars) (.s a n cap ks (told nm vars (i + 1) r)))))
  | _, _ => .nil

def names : Fo → Fo
  | .v x (.v _ (.v _ (.v _ (.s _ _ _ _ r)))) => .v x (names r)
  | _ => .nil

def con5 (x y : ByteArray) (i j : Int) (a : Option Addr) (n cap : Nat) (ks : Fo) : Fo := .v (.string x) (.v (.string y) (.v (.int .i64 i) (.v (.int .i64 j) (.s a n cap ks .nil))))

/-- Where the round is. -/
structure TL (P : Nat → Prop) (M T8 : Nat) (nm : ByteArray) (vars : Int) (nc nd : Nat) (Lr : List Value) (C D : Fo) (pd : Option Addr) (qd : Nat) (V : World) (i : Nat) (pc na : Option Addr) (qc ncap : Nat) (Cx N r : Fo) (wr : World) : Prop where
  bm : Bx wr M (.slice pc (nc + i) qc :: .slice pd nd qd :: Lr)
  bt : Bx wr T8 [.string nm, .int .i64 vars, .slice na i ncap]
  hp : Hp (fun c => P c ∨ c = T8) [.row 43 5 (.slice pc (nc + i) qc) (nc + i) (C.app Cx), .row 9 1 (.slice na i ncap) i N, .row 124 3 (.slice pd nd qd) nd D, .fo r] wr
  kp : Kept (fun c => P c ∧ c ≠ M) V wr

theorem perm_b {α : Type} (a b : α) (l : List α) : (a :: b :: l).Perm (b :: a :: l) := List.Perm.swap _ _ _

/-- The name is told. -/
theorem TL.a {P : Nat → Prop} {M T8 : Nat} {nm x0 : ByteArray} {vars : Int} {nc nd : Nat} {Lr : List Value} {C D : Fo} {pd : Option Addr} {qd : Nat} {V : World} {i : Nat} {pc na : Option Addr} {qc ncap : Nat} {Cx N r : Fo} {wr wb w3 : World} {g cap : Nat} {L10 : List Value}
    (h : TL P M T8 nm vars nc nd Lr C D pd qd V i pc na qc ncap Cx N r wr) (hM : P M) (hT : V.heap.size ≤ T8) (hPM : ∀ c, P c → c < V.heap.size) (k : Kept (fun _ => True) wr wb) (b10 : Bx wb wr.heap.size L10) (hG : wb.grownBy w3 (Value.slice na i ncap).ownBlock)
    (hO : w3.ownsRow 0 9 1 (.slice (some ⟨g, 0, none⟩) (i + 1) cap) (i + 1) (N.vals ++ [.string x0])) (hat : (Value.slice na i ncap).ownBlock = some g ∨ g = wb.heap.size) :
    (∀ (W : World), W = w3.setCell ⟨T8, 2, none⟩ (.slice (some ⟨g, 0, none⟩) (i + 1) cap) → Bx W M (.slice pc (nc + i) qc :: .slice pd nd qd :: Lr) ∧ Bx W T8 [.string nm, .int .i64 vars, .slice (some ⟨g, 0, none⟩) (i + 1) cap] ∧ Bx W wr.heap.size L10 ∧ Kept (fun c => P c ∧ c ≠ M) V W ∧
      Hp (fun c => P c ∨ c = T8 ∨ c = wr.heap.size) [.row 43 5 (.slice pc (nc + i) qc) (nc + i) (C.app Cx), .row 9 1 (.slice (some ⟨g, 0, none⟩) (i + 1) cap) (i + 1) (N.app (.v (.string x0) .nil)), .row 124 3 (.slice pd nd qd) nd D, .fo r] W) ∧ Bx w3 T8 [.string nm, .int .i64 vars, .slice na i ncap] := by
  have hz := h.kp.size
  have hT' := h.bt.lt
  have h10 := b10.lt
  have h0 : Hp (fun c => P c ∨ c = T8 ∨ c = wr.heap.size) [.row 43 5 (.slice pc (nc + i) qc) (nc + i) (C.app Cx), .row 9 1 (.slice na i ncap) i N, .row 124 3 (.slice pd nd qd) nd D, .fo r] wr :=
    h.hp.mono (fun c hc hp hq => by rcases hq with hq | hq | hq; exact hp (.inl hq); exact hp (.inr hq); have := h.hp.lt hc; omega)
  have hPl : ∀ c, (P c ∨ c = T8 ∨ c = wr.heap.size) → c < wb.heap.size := fun c hc => by
    have := k.size
    rcases hc with hc | hc | hc
    · have := hPM c hc; omega
    · omega
    · omega
  have h1 := ((h0.keep k).perm (perm_b _ _ _)).plain (.v (.string x0) .nil) (fun _ _ => trivial) rfl
  have h2 := h1.perm (perm_b _ _ _)
  obtain ⟨h3, k3⟩ := h2.grow hPl hG hO (by
    rcases hat with e | e
    · exact .inl e.symm
    · rw [e]; exact .inr rfl)
  have hob : ∀ c, (P c ∨ c = T8 ∨ c = wr.heap.size) → (Value.slice na i ncap).ownBlock ≠ some c := fun c hc e => h2.fr c (by rw [bls_cons]; exact List.mem_append.2 (.inl (List.mem_append.2 (.inl (mem_ob.2 e))))) hc
  have kk : Kept (fun c => (Value.slice na i ncap).ownBlock ≠ some c) wr w3 := (k.mono (fun _ _ _ => trivial)).trans k3
  have m3 := h.bm.kept kk (hob M (.inl hM))
  have t3 := h.bt.kept kk (hob T8 (.inr (.inl rfl)))
  have x3 := b10.kept k3 (hob _ (.inr (.inr rfl)))
  refine ⟨fun W hW => ?_, t3⟩
  subst hW
  have hne : M ≠ T8 := fun e => by have := hPM M hM; omega
  have ks : Kept (fun c => c ≠ T8) w3 (w3.setCell ⟨T8, 2, none⟩ (.slice (some ⟨g, 0, none⟩) (i + 1) cap)) := Kept.setCell _ _ _ _ (by simp)
  refine ⟨m3.kept ks hne, t3.put 2 _ (by simp), x3.kept ks (by omega), ?_, ?_⟩
  · exact ((h.kp.trans (kk.mono (fun c _ hc => hob c (.inl hc.1)))).trans (ks.mono (fun c _ hc => by have := hPM c hc.1; omega)))
  · exact (h3.perm (perm_b _ _ _)).put _ _ (.inr (.inl rfl))

/-- The constructor is told. -/
theorem TL.b {P : Nat → Prop} {M T8 T10 : Nat} {nm x0 : ByteArray} {vars : Int} {nc nd : Nat} {Lr : List Value} {C D : Fo} {pd : Option Addr} {qd : Nat} {V : World} {i : Nat} {pc na : Option Addr} {qc ncap : Nat} {Cx N r fk : Fo} {w4 wc w5 : World} {g cap : Nat} {fa : Option Addr} {fn fc : Nat}
    (bm : Bx w4 M (.slice pc (nc + i) qc :: .slice pd nd qd :: Lr)) (bt : Bx w4 T8 [.string nm, .int .i64 vars, .slice na (i + 1) ncap]) (kp : Kept (fun c => P c ∧ c ≠ M) V w4)
    (hp : Hp (fun c => P c ∨ c = T8 ∨ c = T10) [.row 43 5 (.slice pc (nc + i) qc) (nc + i) (C.app Cx), .row 9 1 (.slice na (i + 1) ncap) (i + 1) N, .row 124 3 (.slice pd nd qd) nd D, .fo (.s fa fn fc fk r)] w4)
    (hM : P M) (hT : V.heap.size ≤ T8) (hPM : ∀ c, P c → c < V.heap.size) (h10 : T10 < w4.heap.size) (k : Kept (fun _ => True) w4 wc) (hG : wc.grownBy w5 (Value.slice pc (nc + i) qc).ownBlock)
    (hO : w5.ownsRow 0 43 5 (.slice (some ⟨g, 0, none⟩) (nc + i + 1) cap) (nc + i + 1) ((C.app Cx).vals ++ (con5 x0 nm i vars fa fn fc fk).vals)) (hat : (Value.slice pc (nc + i) qc).ownBlock = some g ∨ g = wc.heap.size) :
    TL P M T8 nm vars nc nd Lr C D pd qd V (i + 1) (some ⟨g, 0, none⟩) na cap ncap (Cx.app (con5 x0 nm i vars fa fn fc fk)) N r (w5.setCell ⟨M, 0, none⟩ (.slice (some ⟨g, 0, none⟩) (nc + i + 1) cap)) ∧ Bx w5 M (.slice pc (nc + i) qc :: .slice pd nd qd :: Lr) := by
  have hz := kp.size
  have hT' := bt.lt
  have hPl : ∀ c, (P c ∨ c = T8 ∨ c = T10) → c < wc.heap.size := fun c hc => by
    have := k.size
    rcases hc with hc | hc | hc
    · have := hPM c hc; omega
    · omega
    · omega
  have h1 : Hp (fun c => P c ∨ c = T8 ∨ c = T10) (.row 43 5 (.slice pc (nc + i) qc) (nc + i) (C.app Cx) :: .fo (con5 x0 nm i vars fa fn fc fk) :: [.row 9 1 (.slice na (i + 1) ncap) (i + 1) N, .row 124 3 (.slice pd nd qd) nd D, .fo r]) wc := by
    have h2 := (hp.keep k).perm (M := .fo ((Fo.s fa fn fc fk .nil).app r) :: [.row 43 5 (.slice pc (nc + i) qc) (nc + i) (C.app Cx), .row 9 1 (.slice na (i + 1) ncap) (i + 1) N, .row 124 3 (.slice pd nd qd) nd D]) (by
      have := List.perm_append_comm (l₁ := [Item.row 43 5 (.slice pc (nc + i) qc) (nc + i) (C.app Cx), .row 9 1 (.slice na (i + 1) ncap) (i + 1) N, .row 124 3 (.slice pd nd qd) nd D]) (l₂ := [Item.fo (.s fa fn fc fk r)])
      simpa [Fo.app] using this)
    have h3 := h2.split
    have h4 := Hp.v (.string x0) (Hp.v (.string nm) (Hp.v (.int .i64 (i : Int)) (Hp.v (.int .i64 vars) h3)))
    exact h4.perm (by
      have p1 : ([Item.fo r] ++ [Item.row 43 5 (.slice pc (nc + i) qc) (nc + i) (C.app Cx), .row 9 1 (.slice na (i + 1) ncap) (i + 1) N, .row 124 3 (.slice pd nd qd) nd D]).Perm ([Item.row 43 5 (.slice pc (nc + i) qc) (nc + i) (C.app Cx), .row 9 1 (.slice na (i + 1) ncap) (i + 1) N, .row 124 3 (.slice pd nd qd) nd D] ++ [Item.fo r]) := List.perm_append_comm
      exact (p1.cons _).trans (perm_b _ _ _))
  obtain ⟨h3, k3⟩ := h1.grow hPl hG hO (by
    rcases hat with e | e
    · exact .inl e.symm
    · rw [e]; exact .inr rfl)
  have hob : ∀ c, (P c ∨ c = T8 ∨ c = T10) → (Value.slice pc (nc + i) qc).ownBlock ≠ some c := fun c hc e => h1.fr c (by rw [bls_cons]; exact List.mem_append.2 (.inl (List.mem_append.2 (.inl (mem_ob.2 e))))) hc
  have kk : Kept (fun c => (Value.slice pc (nc + i) qc).ownBlock ≠ some c) w4 w5 := (k.mono (fun _ _ _ => trivial)).trans k3
  have m5 := bm.kept kk (hob M (.inl hM))
  have t5 := bt.kept kk (hob T8 (.inr (.inl rfl)))
  have hne : T8 ≠ M := fun e => by have := hPM M hM; omega
  have ks : Kept (fun c => c ≠ M) w5 (w5.setCell ⟨M, 0, none⟩ (.slice (some ⟨g, 0, none⟩) (nc + i + 1) cap)) := Kept.setCell _ _ _ _ (by simp)
  refine ⟨⟨m5.put 0 _ (by simp), t5.kept ks hne, ?_, ?_⟩, m5⟩
  · rw [Fo.app_assoc] at h3
    exact (h3.put _ _ (.inl hM)).mono (fun c _ hp hq => hp (by rcases hq with hq | hq; exact .inl hq; exact .inr (.inl hq)))
  · exact (kp.trans (kk.mono (fun c _ hc => hob c (.inl hc.1)))).trans (ks.mono (fun c _ hc => hc.2))

end Go.Proofs.Ytkjbkmhmghmodaa
