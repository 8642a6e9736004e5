import Derived.Test.YtfgmgbkiebeeoaaXf
namespace Go.Proofs.Ytfgmgbkiebeeoaa
open Go.RowKit Go.Joins

/-- What a list of kids is called. -/
def KX (O : Nat → Nat) (KK : List (Nat × Nat)) (a : Option Addr) (n : Nat) (x : Nat × Nat) : Prop := (n = 0 ∧ x = (0, 0)) ∨ ∃ k b : Nat, a = some ⟨b, O b, none⟩ ∧ KK[k]? = some (b, n) ∧ 0 < n ∧ x = (K.off KK k, n)
def AX (O : Nat → Nat) (KK AA : List (Nat × Nat)) (a : Option Addr) (n : Nat) (x : Nat × Nat) : Prop := (n = 0 ∧ x = (0, 0)) ∨ ∃ k b : Nat, a = some ⟨b, O b, none⟩ ∧ AA[k]? = some (b, n) ∧ 0 < n ∧ x = (K.off KK KK.length + A.off AA k, n)

/-- The nodes that are there. -/
structure PN (O : Nat → Nat) (w : World) (B1 lo G : Nat) (KK AA : List (Nat × Nat)) (mk sk ma sa : Value) (tk ta : Nat) (LS : List (Nat × Nat)) (lv : Value) (Mn : Nat) (nv : Value) (n : Nat) (cs : List Value) : Prop where
  z : PZ O w B1 lo G KK AA mk sk ma sa tk ta LS lv Mn
  l0 : LS[0]? = some (0, 0)
  c8 : w.cell? ⟨G, 8, none⟩ = some nv
  f8 : w.frozen? ⟨G, 8, none⟩ = false
  ow : w.ownsRow B1 89 3 nv n cs
  dn : ∀ c, nv.ownBlock = some c → c ≠ G ∧ c ≠ Mn ∧ lv.ownBlock ≠ some c ∧ ¬ FB KK AA mk sk ma sa tk ta c

section
variable {O : Nat → Nat} {w w' : World} {B1 lo G : Nat} {KK AA : List (Nat × Nat)} {mk sk ma sa : Value} {tk ta : Nat} {LS : List (Nat × Nat)} {lv : Value} {Mn : Nat} {nv : Value} {n : Nat} {cs : List Value}

theorem PN.list {x : Nat × Nat} {i : Nat} {L2 : List (Nat × Nat)} {lv' : Value} (h : PN O w B1 lo G KK AA mk sk ma sa tk ta LS lv Mn nv n cs) (q : LQ w w' B1 G LS lv Mn x i L2 lv') : PN O w' B1 lo G KK AA mk sk ma sa tk ta (LS ++ L2) lv' Mn nv n cs := by
  refine ⟨h.z.list q, ?_, (q.cell 8 (by decide)).trans h.c8, (q.froz 8).trans h.f8, ownsRow_kept h.ow q.kept (fun c e => ⟨(h.dn c e).1, (h.dn c e).2.2.1, (h.dn c e).2.1⟩), fun c e => ?_⟩
  · rw [List.getElem?_append_left (List.getElem?_eq_some_iff.1 h.l0).1]
    exact h.l0
  · obtain ⟨d1, d2, d3, d4⟩ := h.dn c e
    refine ⟨d1, d2, ?_, d4⟩
    rcases q.blk with e2 | ⟨r, e2, hr⟩
    · rw [e2]; exact d3
    · rw [e2]
      intro e3
      have e4 : r = c := Option.some.inj e3
      have := (World.ownsRow.lt h.ow c e).2
      omega

theorem PN.keep (h : PN O w B1 lo G KK AA mk sk ma sa tk ta LS lv Mn nv n cs) (k : Kept (fun _ => True) w w') : PN O w' B1 lo G KK AA mk sk ma sa tk ta LS lv Mn nv n cs := by
  have hG : G < w.heap.size := block_lt_of_cell h.c8
  have hz := h.z.step (L2 := []) (lv' := lv) (by rw [List.append_nil]; exact h.z.ln.kept k trivial trivial (fun _ _ => trivial)) k (fun _ _ => trivial) (fun j _ _ => k.cell (p := ⟨G, j, none⟩) hG trivial) (fun j => k.frozen (p := ⟨G, j, none⟩) hG trivial) (.inl rfl)
  rw [List.append_nil] at hz
  exact ⟨hz, h.l0, (k.cell (p := ⟨G, 8, none⟩) hG trivial).trans h.c8, (k.frozen (p := ⟨G, 8, none⟩) hG trivial).trans h.f8, ownsRow_kept h.ow k (fun _ _ => trivial), h.dn⟩

/-- One node more. -/
theorem PN.node {w7 : World} {g7 cp : Nat} {a : Option Addr} {c0 : Nat} {ys : List Value} (h : PN O w B1 lo G KK AA mk sk ma sa tk ta LS lv Mn (.slice a n c0) n cs)
    (hO : w7.ownsRow B1 89 3 (.slice (some ⟨g7, 0, none⟩) (n + 1) cp) (n + 1) (cs ++ ys)) (hG7 : w.grownBy w7 (Value.slice a n c0).ownBlock) (hat : (Value.slice a n c0).ownBlock = some g7 ∨ g7 = w.heap.size) :
    (w7.cell? ⟨G, 8, none⟩ = some (.slice a n c0) ∧ w7.frozen? ⟨G, 8, none⟩ = false) ∧ PN O (w7.setCell ⟨G, 8, none⟩ (.slice (some ⟨g7, 0, none⟩) (n + 1) cp)) B1 lo G KK AA mk sk ma sa tk ta LS lv Mn (.slice (some ⟨g7, 0, none⟩) (n + 1) cp) (n + 1) (cs ++ ys) ∧
      Kept (fun c => c ≠ G ∧ (Value.slice a n c0).ownBlock ≠ some c) w (w7.setCell ⟨G, 8, none⟩ (.slice (some ⟨g7, 0, none⟩) (n + 1) cp)) ∧ ((Value.slice a n c0).ownBlock = some g7 ∨ w.heap.size ≤ g7) := by
  have hG : G < w.heap.size := block_lt_of_cell h.c8
  have ka : Kept (fun c => (Value.slice a n c0).ownBlock ≠ some c) w w7 := Kept.grown hG7 (fun c hc hx => hx hc)
  have nG : (Value.slice a n c0).ownBlock ≠ some G := fun e => (h.dn G e).1 rfl
  have hat' : (Value.slice a n c0).ownBlock = some g7 ∨ w.heap.size ≤ g7 := hat.imp id (fun e => by omega)
  have ks : Kept (fun c => c ≠ G) w7 (w7.setCell ⟨G, 8, none⟩ (.slice (some ⟨g7, 0, none⟩) (n + 1) cp)) := Kept.setCell _ _ _ _ (fun hx => hx rfl)
  have r1 : w7.cell? ⟨G, 8, none⟩ = some (.slice a n c0) := (ka.cell (p := ⟨G, 8, none⟩) hG nG).trans h.c8
  have r2 : w7.frozen? ⟨G, 8, none⟩ = false := (ka.frozen (p := ⟨G, 8, none⟩) hG nG).trans h.f8
  have kk : Kept (fun c => c ≠ G ∧ (Value.slice a n c0).ownBlock ≠ some c) w (w7.setCell ⟨G, 8, none⟩ (.slice (some ⟨g7, 0, none⟩) (n + 1) cp)) := (ka.mono (fun _ _ hc => hc.2)).trans (ks.mono (fun _ _ hc => hc.1))
  have c7 : ∀ j, j ≠ 8 → (w7.setCell ⟨G, 8, none⟩ (.slice (some ⟨g7, 0, none⟩) (n + 1) cp)).cell? ⟨G, j, none⟩ = w.cell? ⟨G, j, none⟩ := fun j hj => by
    rw [World.cell?_setCell_other _ _ _ _ (fun e => hj (congrArg Addr.off e).symm)]
    exact ka.cell (p := ⟨G, j, none⟩) hG nG
  have f7 : ∀ j, (w7.setCell ⟨G, 8, none⟩ (.slice (some ⟨g7, 0, none⟩) (n + 1) cp)).frozen? ⟨G, j, none⟩ = w.frozen? ⟨G, j, none⟩ := fun j => by
    rw [World.frozen?_setCell]
    exact ka.frozen (p := ⟨G, j, none⟩) hG nG
  have gne : g7 ≠ G ∧ g7 ≠ Mn ∧ lv.ownBlock ≠ some g7 ∧ ¬ FB KK AA mk sk ma sa tk ta g7 := by
    rcases hat' with e | e
    · exact h.dn g7 e
    · refine ⟨by omega, fun e2 => ?_, fun e2 => ?_, fun e2 => ?_⟩
      · have := h.z.ln.mp.lt
        omega
      · have := (World.ownsRow.lt h.z.ln.ow g7 e2).2
        omega
      · have := h.z.hb g7 e2
        omega
  have hMk : Mn ≠ G ∧ (Value.slice a n c0).ownBlock ≠ some Mn := ⟨h.z.ln.ne.2.2, fun e => (h.dn Mn e).2.1 rfl⟩
  have hln : LN (w7.setCell ⟨G, 8, none⟩ (.slice (some ⟨g7, 0, none⟩) (n + 1) cp)) B1 G LS lv Mn := ⟨(c7 9 (by decide)).trans h.z.ln.c9, (f7 9).trans h.z.ln.f9, ownsRow_kept h.z.ln.ow kk (fun c e => ⟨fun e2 => h.z.ln.ne.1 (by rw [e, e2]), fun e2 => (h.dn c e2).2.2.1 e⟩), (c7 10 (by decide)).trans h.z.ln.c10, h.z.ln.mp.kept kk hMk, h.z.ln.nd, h.z.ln.ne, Nat.le_trans h.z.ln.hv kk.size⟩
  have hz := h.z.step (L2 := []) (lv' := lv) (by rw [List.append_nil]; exact hln) kk (fun c hc => ⟨(h.z.dj c hc).1, fun e => (h.dn c e).2.2.2 hc⟩) (fun j h8 _ => c7 j h8) f7 (.inl rfl)
  rw [List.append_nil] at hz
  refine ⟨⟨r1, r2⟩, ⟨hz, h.l0, World.cell?_setCell_same _ _ _ r1, (f7 8).trans h.f8, ownsRow_kept hO ks (fun c e e2 => gne.1 (by rw [← e2]; exact Option.some.inj e)), fun c e => ?_⟩, kk, hat'⟩
  have e2 : g7 = c := Option.some.inj e
  rw [← e2]
  exact gne
end

end Go.Proofs.Ytfgmgbkiebeeoaa
