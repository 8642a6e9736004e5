import Derived.Test.YtmnligaelihmiaaGa
import Derived.Test.YtmnligaelihmiaaUv
import Derived.Deep.AppendLies
import Derived.Laws.OwnMore
import Derived.Test.YtmnligaelihmiaaVm
namespace Go.Proofs.Ytmnligaelihmiaa
open Go.RowKit Go.Joins

def iv (k : Nat) : Value := .int .i64 (k : Int)
/-- A row of ints of its own. -/
def IR (B : Nat) (w : World) (v : Value) (L : List Nat) : Prop := w.ownsRow B 3 1 v L.length (L.map iv)
theorem IR.nil (B : Nat) (w : World) : IR B w (.slice none 0 0) [] := ⟨rfl, .inl ⟨rfl, rfl⟩⟩
theorem IR.kept {B : Nat} {w w' : World} {v : Value} {L : List Nat} {S : Nat → Prop} (h : IR B w v L) (k : Kept S w w') (hS : ∀ c, v.ownBlock = some c → S c) : IR B w' v L := ownsRow_kept h k hS
theorem IR.lt {B : Nat} {w : World} {v : Value} {L : List Nat} (h : IR B w v L) : ∀ k, v.ownBlock = some k → B ≤ k ∧ k < w.heap.size := World.ownsRow.lt h
theorem IR.shape {B : Nat} {w : World} {v : Value} {L : List Nat} (h : IR B w v L) : ∃ a cap, v = .slice a L.length cap ∧ L.length ≤ cap ∧ cap ≤ maxLen ∧ (L = [] ∨ ∃ b, a = some ⟨b, 0, none⟩ ∧ B ≤ b ∧ b < w.heap.size) := by
  rcases h.2 with ⟨rfl, h0⟩ | ⟨b, cap, cur, rfl, hb, hg, hnc, hcm, -⟩
  · exact ⟨none, 0, by rw [h0], by omega, by simp [maxLen], .inl (List.eq_nil_of_length_eq_zero h0)⟩
  · exact ⟨_, cap, rfl, hnc, hcm, .inr ⟨b, rfl, hb, (Array.getElem?_eq_some_iff.1 hg).1⟩⟩
theorem IR.len {B : Nat} {w : World} {b n cap : Nat} {L : List Nat} (h : IR B w (.slice (some ⟨b, 0, none⟩) n cap) L) : n = L.length := by
  obtain ⟨a, c, e, -⟩ := h.shape
  simp only [Value.slice.injEq] at e
  exact e.2.1
theorem IR.cell {B : Nat} {w : World} {b n cap : Nat} {L : List Nat} (h : IR B w (.slice (some ⟨b, 0, none⟩) n cap) L) (i : Nat) (hi : i < L.length) : w.cell? ⟨b, i, none⟩ = some (iv (L.getD i 0)) := by
  have hn := h.len
  subst hn
  have := World.ownsRow.cellAt h i (by omega)
  rw [this]
  simp [hi]
theorem IR.frozen {B : Nat} {w : World} {b n cap : Nat} {L : List Nat} (h : IR B w (.slice (some ⟨b, 0, none⟩) n cap) L) (i : Nat) : w.frozen? ⟨b, i, none⟩ = false := by
  have hn := h.len
  subst hn
  exact World.ownsRow.frozenAt h i
theorem IR.cut {B : Nat} {w : World} {b N cap n : Nat} {L : List Nat} (h : IR B w (.slice (some ⟨b, 0, none⟩) N cap) L) (hn : n ≤ L.length) : IR B w (.slice (some ⟨b, 0, none⟩) n cap) (L.take n) := by
  rcases h.2 with ⟨h', _⟩ | ⟨g', cap', cur, h', hb, hg, hnc, hcm, hcs, ht⟩
  · simp at h'
  · simp only [Value.slice.injEq, Option.some.injEq, Addr.mk.injEq, and_true] at h'
    obtain ⟨⟨rfl, -⟩, e2, rfl⟩ := h'
    have hl : (L.take n).length = n := by simp; omega
    refine ⟨by simp, .inr ⟨b, cap, cur, by rw [hl], hb, hg, by omega, hcm, hcs, ?_⟩⟩
    rw [hl, List.map_take, ← ht, List.take_take]
    congr 1
    omega
/-- The walk in memory: T the walk itself, V the visits; what is its own besides lies behind lo. -/
structure MW (n : Nat) (s : Gr.St) (lo T V : Nat) (W : World) (pv ov : Value) : Prop where
  tv : T ≠ V
  tl : T < lo
  vl : V < lo
  ll : lo ≤ W.heap.size
  bx : Bx W T [.slice (some ⟨V, 0, none⟩) n n, pv, ov, iv s.cnt]
  rp : IR lo W pv s.path.reverse
  ro : IR lo W ov s.opn.reverse
  ap : ∀ c, pv.ownBlock = some c → ov.ownBlock ≠ some c
  vs : ∀ x, x < n → W.cell? ⟨V, x * 4, none⟩ = some (iv (s.num x)) ∧ W.cell? ⟨V, x * 4 + 1, none⟩ = some (iv (s.least x)) ∧ W.cell? ⟨V, x * 4 + 2, none⟩ = some (iv (s.nxt x)) ∧ W.cell? ⟨V, x * 4 + 3, none⟩ = some (iv (s.com x))
  vf : ∀ j, W.frozen? ⟨V, j, none⟩ = false
theorem MW.kept {n : Nat} {s : Gr.St} {lo T V : Nat} {W W' : World} {pv ov : Value} {S : Nat → Prop} (h : MW n s lo T V W pv ov) (k : Kept S W W') (hT : S T) (hV : S V) (hp : ∀ c, pv.ownBlock = some c → S c) (ho : ∀ c, ov.ownBlock = some c → S c) : MW n s lo T V W' pv ov := by
  have hV' : V < W.heap.size := Nat.lt_of_lt_of_le h.vl h.ll
  exact ⟨h.tv, h.tl, h.vl, Nat.le_trans h.ll k.size, h.bx.kept k hT, h.rp.kept k hp, h.ro.kept k ho, h.ap, fun x hx => by
    obtain ⟨a, b, c, d⟩ := h.vs x hx
    exact ⟨(k.cell (p := ⟨V, x * 4, none⟩) hV' hV).trans a, (k.cell (p := ⟨V, x * 4 + 1, none⟩) hV' hV).trans b, (k.cell (p := ⟨V, x * 4 + 2, none⟩) hV' hV).trans c, (k.cell (p := ⟨V, x * 4 + 3, none⟩) hV' hV).trans d⟩, fun j => (k.frozen (p := ⟨V, j, none⟩) hV' hV).trans (h.vf j)⟩
theorem MW.drew {n : Nat} {s : Gr.St} {lo T V : Nat} {W : World} {pv ov : Value} (h : MW n s lo T V W pv ov) : MW n s lo T V W.drew pv ov := h.kept (Kept.drew (fun _ => True) W) trivial trivial (fun _ _ => trivial) (fun _ _ => trivial)
/-- The end of the path. -/
theorem end_any {n : Nat} {s : Gr.St} {lo T V : Nat} {W : World} {pv ov : Value} (h : MW n s lo T V W pv ov) {x : Nat} {r : List Nat} (hp : s.path = x :: r) (hl : r.length < 1048576) :
    Calls Try.prog 32 #[.pointer (some ⟨T, 0, none⟩)] W fun e W' => e = .returned (.int .i64 (x : Int)) ∧ W' = W.drew := by
  obtain ⟨k, hk⟩ : ∃ k, k = r.length := ⟨_, rfl⟩
  obtain ⟨a, cap, rfl, hc1, hc2, hs⟩ := h.rp.shape
  have hlen : s.path.reverse.length = k + 1 := by rw [hp]; simp [hk]
  rw [hlen] at hc1
  rcases hs with e | ⟨b, rfl, hb, hbl⟩
  · rw [hp] at e; simp at e
  have c1 := h.bx.cel 1 _ rfl
  have cx := h.rp.cell k (by omega)
  have hx : s.path.reverse.getD k 0 = x := by rw [hp]; simp [hk, List.getD_eq_getElem?_getD]
  rw [hx] at cx
  rw [hlen] at c1
  obtain ⟨N, hN⟩ : ∃ N, N = k + 1 := ⟨_, rfl⟩
  rw [← hN] at c1
  have hki : (N : Int) - 1 = (k : Int) := by omega
  have hkN : (k : Int) < (N : Int) := by omega
  have hkb : k < 1048576 := by omega
  clear hk hlen hx hc1 hp h hN
  unfold iv at cx
  go_enter Try.func32, Try.ntmps32
  go_wp2_with fail
  go_region
  all_goals
    go_wp2_with fail
    go_ret
    exact ⟨rfl, rfl⟩
end Go.Proofs.Ytmnligaelihmiaa
