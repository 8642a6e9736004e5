import Derived.Test.YtjlefdalobgdfaaAf
import Derived.Test.YtjlefdalobgdfaaWl
namespace Go.Proofs.Ytjlefdalobgdfaa
open Go.RowKit Go.Joins

/-- A block of cells of a type. -/
def Ty (W : World) (f t : Nat) : Prop := ∃ cur, W.heap[f]? = some (.cells cur t)

theorem Ty.lt {W : World} {f t : Nat} (h : Ty W f t) : f < W.heap.size := by
  obtain ⟨cur, h⟩ := h
  exact (Array.getElem?_eq_some_iff.1 h).1

theorem Ty.live {W : World} {f t : Nat} (h : Ty W f t) (j : Nat) : W.frozen? ⟨f, j, none⟩ = false := by
  obtain ⟨cur, h⟩ := h
  simp [World.frozen?, h]

/-- A node that stands for itself. -/
structure NC (W : World) (f : Nat) (k ix : Int) (nm : ByteArray) (a : Option Addr) (n cap : Nat) : Prop where
  ty : Ty W f 103
  ab : W.cell? ⟨f, 0, none⟩ = some (.pointer none)
  c1 : W.cell? ⟨f, 1, none⟩ = some (.int .i64 k)
  c2 : W.cell? ⟨f, 2, none⟩ = some (.int .i64 ix)
  c3 : W.cell? ⟨f, 3, none⟩ = some (.string nm)
  c4 : W.cell? ⟨f, 4, none⟩ = some (.slice a n cap)

/-- A row of pointers to nodes. -/
structure Pt (W : World) (a : Option Addr) (cap : Nat) (qs : List Nat) : Prop where
  le : qs.length ≤ cap
  mx : cap ≤ maxLen
  at_ : 0 < qs.length → ∃ b, a = some ⟨b, 0, none⟩ ∧ Ty W b 96 ∧ ∀ (i q : Nat), qs[i]? = some q → W.cell? ⟨b, i, none⟩ = some (.pointer (some ⟨q, 0, none⟩))

/-- What stands for a node. -/
def Fn (W : World) (p f : Nat) : Prop := p = f ∨ (Ty W p 103 ∧ W.cell? ⟨p, 0, none⟩ = some (.pointer (some ⟨f, 0, none⟩)))

/-- Nodes stand for a row of types. -/
inductive NvL (lo : Nat → Prop) (W : World) : List Nat → Fo → Prop
  | nil : NvL lo W [] .nil
  | cons {p f : Nat} {ps qs : List Nat} {k ix : Int} {nm : ByteArray} {a a' : Option Addr} {cap cap' : Nat} {ks r : Fo} (hl : lo f) (fn : Fn W p f) (nc : NC W f k ix nm a qs.length cap) (pt : Pt W a cap qs) (h1 : NvL lo W qs ks) (h2 : NvL lo W ps r) : NvL lo W (p :: ps) (.cons k ix nm a' cap' ks r)

/-- Nodes keep what they stand for. -/
structure SK (A B : World) : Prop where
  os : B.os = A.os
  tape : B.tape = A.tape
  output : B.output = A.output
  size : A.heap.size ≤ B.heap.size
  block : ∀ c, c < A.heap.size → ¬ Ty A c 103 → B.heap[c]? = A.heap[c]?
  node : ∀ c, Ty A c 103 → Ty B c 103 ∧ ∀ j v, j < 5 → A.cell? ⟨c, j, none⟩ = some v → B.cell? ⟨c, j, none⟩ = some v

theorem SK.refl (A : World) : SK A A := ⟨rfl, rfl, rfl, Nat.le_refl _, fun _ _ _ => rfl, fun _ h => ⟨h, fun _ _ _ h => h⟩⟩

theorem Kept.ty {S : Nat → Prop} {A B : World} (k : Kept S A B) {c t : Nat} (h : Ty A c t) (hs : S c) : Ty B c t := by
  have hl := h.lt
  obtain ⟨cur, h⟩ := h
  exact ⟨cur, (k.block c hl hs).trans h⟩

theorem SK.of_kept {A B : World} (k : Kept (fun _ => True) A B) : SK A B :=
  ⟨k.os, k.tape, k.output, k.size, fun c hc _ => k.block c hc trivial, fun c hc => ⟨k.ty hc trivial, fun j _ _ hv => (k.cell (p := ⟨c, j, none⟩) hc.lt trivial).trans hv⟩⟩

theorem Ty.uniq {W : World} {c s t : Nat} (h : Ty W c s) (g : Ty W c t) : s = t := by
  obtain ⟨x, h⟩ := h
  obtain ⟨y, g⟩ := g
  rw [h] at g
  simp only [Option.some.injEq, Obj.cells.injEq] at g
  exact g.2.1

theorem SK.ty {A B : World} (k : SK A B) {c t : Nat} (h : Ty A c t) : Ty B c t := by
  by_cases e : Ty A c 103
  · have := h.uniq e
    subst this
    exact (k.node c e).1
  · have hl := h.lt
    obtain ⟨cur, h⟩ := h
    exact ⟨cur, (k.block c hl e).trans h⟩

theorem SK.trans {A B C : World} (h : SK A B) (k : SK B C) : SK A C := by
  refine ⟨k.os.trans h.os, k.tape.trans h.tape, k.output.trans h.output, Nat.le_trans h.size k.size, fun c hc hn => ?_, fun c hc => ?_⟩
  · have e := h.block c hc hn
    refine (k.block c (Nat.lt_of_lt_of_le hc h.size) (fun ⟨x, hx⟩ => hn ⟨x, by rw [← e]; exact hx⟩)).trans e
  · obtain ⟨h1, h2⟩ := h.node c hc
    obtain ⟨k1, k2⟩ := k.node c h1
    exact ⟨k1, fun j v hj hv => k2 j v hj (h2 j v hj hv)⟩

theorem SK.kept {A B : World} (k : SK A B) {S : Nat → Prop} (hS : ∀ c, c < A.heap.size → S c → ¬ Ty A c 103) : Kept S A B := ⟨k.os, k.tape, k.output, k.size, fun c hc hs => k.block c hc (hS c hc hs)⟩

theorem NC.sk {A B : World} {f : Nat} {k ix : Int} {nm : ByteArray} {a : Option Addr} {n cap : Nat} (h : NC A f k ix nm a n cap) (s : SK A B) : NC B f k ix nm a n cap := by
  obtain ⟨h1, h2⟩ := s.node f h.ty
  exact ⟨h1, h2 0 _ (by omega) h.ab, h2 1 _ (by omega) h.c1, h2 2 _ (by omega) h.c2, h2 3 _ (by omega) h.c3, h2 4 _ (by omega) h.c4⟩

theorem Pt.sk {A B : World} {a : Option Addr} {cap : Nat} {qs : List Nat} (h : Pt A a cap qs) (s : SK A B) : Pt B a cap qs :=
  ⟨h.le, h.mx, fun hl => by
    obtain ⟨b, e, ht, hc⟩ := h.at_ hl
    have hn : ¬ Ty A b 103 := fun h' => absurd (ht.uniq h') (by decide)
    exact ⟨b, e, s.ty ht, fun i q hq => (World.cell?_of_block (w := A) (s.block b ht.lt hn)).trans (hc i q hq)⟩⟩

theorem Fn.sk {A B : World} {p f : Nat} (h : Fn A p f) (s : SK A B) : Fn B p f := by
  rcases h with h | ⟨h1, h2⟩
  · exact .inl h
  · exact .inr ⟨s.ty h1, (s.node p h1).2 0 _ (by omega) h2⟩

theorem NvL.sk {lo : Nat → Prop} {A B : World} (s : SK A B) {ps : List Nat} {F : Fo} (h : NvL lo A ps F) : NvL lo B ps F := by
  induction h with
  | nil => exact .nil
  | cons hl fn nc pt h1 h2 i1 i2 => exact .cons hl (fn.sk s) (nc.sk s) (pt.sk s) i1 i2

theorem NvL.mono {lo hi : Nat → Prop} (hh : ∀ f, lo f → hi f) {W : World} {ps : List Nat} {F : Fo} (h : NvL lo W ps F) : NvL hi W ps F := by
  induction h with
  | nil => exact .nil
  | cons hl fn nc pt h1 h2 i1 i2 => exact .cons (hh _ hl) fn nc pt i1 i2

theorem NvL.len {lo : Nat → Prop} {W : World} {ps : List Nat} {F : Fo} (h : NvL lo W ps F) : ps.length = F.len := by
  induction h with
  | nil => rfl
  | cons hl fn nc pt h1 h2 i1 i2 => simp only [List.length_cons, Fo.len, i2]

def ptm (f : Nat) : Value → Nat
  | .pointer (some a) => if a.block = f then 0 else 1
  | _ => 1

set_option maxHeartbeats 1000000 in
set_option maxRecDepth 100000 in
theorem find_any (p f : Nat) (W : World) (h : Fn W p f) (hf : W.cell? ⟨f, 0, none⟩ = some (.pointer none)) :
    Calls Try.prog 82 #[.pointer (some ⟨p, 0, none⟩)] W fun e W' => e = .returned (.pointer (some ⟨f, 0, none⟩)) ∧ W' = W := by
  rcases h with rfl | ⟨-, hp⟩
  · go_enter Try.func82, Try.ntmps82
    go_wp2_with fail
    go_loopw [0] (fun s0 wr => s0 = .pointer (some ⟨p, 0, none⟩) ∧ wr = W) (fun _ _ => 0)
    case atStart => exact ⟨rfl, rfl⟩
    case round =>
      obtain ⟨rfl, rfl⟩ := hrel
      go_wp2_with fail
      go_ret
      exact ⟨rfl, rfl⟩
  · go_enter Try.func82, Try.ntmps82
    go_wp2_with fail
    go_loopw [0] (fun s0 wr => (s0 = .pointer (some ⟨p, 0, none⟩) ∨ s0 = .pointer (some ⟨f, 0, none⟩)) ∧ wr = W) (fun s0 _ => ptm f s0)
    case atStart => exact ⟨.inl rfl, rfl⟩
    case round =>
      obtain ⟨hs, rfl⟩ := hrel
      by_cases hpf : p = f
      · subst hpf
        rw [hp] at hf
        cases hf
      rcases hs with rfl | rfl
      · go_wp2_with fail
        go_roundw
        case rel => exact ⟨.inr rfl, trivial⟩
        case measure => simp [ptm, hpf]
      · go_wp2_with fail
        go_ret
        exact ⟨rfl, rfl⟩

end Go.Proofs.Ytjlefdalobgdfaa
