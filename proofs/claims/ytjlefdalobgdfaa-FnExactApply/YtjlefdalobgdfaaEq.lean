import Derived.Test.YtjlefdalobgdfaaTo
import Derived.Deep.RegionHeld3
namespace Go.Proofs.Ytjlefdalobgdfaa
open Go.RowKit Go.Joins

/-- Two rows that are the same are found so. -/
def EqS (F : Fo) : Prop := ∀ (G : Fo) (n0 : Nat) (W : World) (a b : Option Addr) (cap dap : Nat), n0 ≤ W.heap.size → F.sim G → F.Sl W (fun b => b < n0) a cap → G.Sl W (fun b => b < n0) b dap →
  Calls Try.prog 47 #[.slice a F.len cap, .slice b G.len dap] W fun e W' => e = .returned (.bool true) ∧ Below W.heap.size W W'

set_option maxHeartbeats 1000000 in
set_option maxRecDepth 100000 in
theorem eq_node {ks : Fo} (hS : EqS ks) (k ix : Int) (nm : ByteArray) (gs : Fo) (n0 : Nat) (W : World) (a b : Option Addr) (cap dap : Nat) (hn : n0 ≤ W.heap.size) (hsim : ks.sim gs)
    (hs : ks.Sl W (fun b => b < n0) a cap) (ht : gs.Sl W (fun b => b < n0) b dap) :
    Calls Try.prog 13 #[nodeV k ix nm a ks.len cap, nodeV k ix nm b gs.len dap] W fun e W' => e = .returned (.bool true) ∧ Below W.heap.size W W' := by
  unfold nodeV
  go_enter Try.func13, Try.ntmps13
  go_wp2_with fail
  have hB0 := below_alloc2 W (.cells #[.int .i64 k, .int .i64 ix, .string nm, .slice a ks.len cap] 29) (.cells #[.int .i64 k, .int .i64 ix, .string nm, .slice b gs.len dap] 29)
  have hz := hB0.size
  refine (hS gs n0 _ a b cap dap (by omega) hsim (hs.below hB0 (fun b x => by omega)) (ht.below hB0 (fun b x => by omega))).mono ?_
  rintro e w1 ⟨rfl, b1⟩
  go_wp2_with fail
  go_ret
  exact ⟨rfl, hB0.trans (b1.mono hz)⟩

set_option maxHeartbeats 1000000 in
set_option maxRecDepth 100000 in
theorem eq_row : ∀ (m : Nat) (F : Fo), F.size < m → EqS F := by
  intro m
  induction m with
  | zero => intro F hF; omega
  | succ m ih =>
    intro F hF G n0 W a b cap dap hn hsim hs ht
    have el := hsim.len
    have hmx : F.len ≤ 9223372036854775807 := by have h2 := hs.1; have h3 := hs.2.1; simp only [maxLen] at h3; omega
    rw [← el]
    clear el
    go_enter Try.func47, Try.ntmps47
    go_wp2_with fail
    go_loopw [5] (fun s5 wr => ∃ (i : Nat) (r q : Fo), s5 = .int .i64 i ∧ r.len + i = F.len ∧ r.size ≤ F.size ∧ r.sim q ∧
      (0 < r.len → ∃ c o, a = some ⟨c, o, none⟩ ∧ c < n0 ∧ r.Row wr (fun b => b < n0) c (o + i * 4)) ∧
      (0 < q.len → ∃ c o, b = some ⟨c, o, none⟩ ∧ c < n0 ∧ q.Row wr (fun b => b < n0) c (o + i * 4)) ∧ Below W.heap.size W wr) (fun s5 _ => F.len - (intOf s5).toNat)
    case atStart => exact ⟨0, F, G, rfl, rfl, Nat.le_refl _, hsim, hs.2.2, ht.2.2, Below.refl _ _⟩
    case round =>
      obtain ⟨i, r, q, rfl, hlen, hrs, hrq, hrow, hqow, bel⟩ := hrel
      have hw := bel.size
      cases r with
      | nil =>
        simp only [Fo.len] at hlen
        go_wp2_with fail
        go_ret
        exact ⟨rfl, bel⟩
      | cons k ix nm ka kcap ks r =>
        cases q with
        | nil => exact hrq.elim
        | cons k' ix' nm' ja jcap js q =>
          obtain ⟨rfl, rfl, rfl, hks, hrq⟩ := hrq
          simp only [Fo.len, Fo.size] at hlen hrs
          obtain ⟨c, o, rfl, hc, hk, hix, hnm, c1, ci, c2, c3, h4, h5, h6, h7⟩ := hrow (by simp [Fo.len])
          obtain ⟨d, p, rfl, hd, hk', hix', hnm', d1, di, d2, d3, g4, g5, g6, g7⟩ := hqow (by simp [Fo.len])
          have hs1 : ks.Sl wr (fun b => b < n0) ka kcap := ⟨h4, h5, h6⟩
          have hs2 : js.Sl wr (fun b => b < n0) ja jcap := ⟨g4, g5, g6⟩
          go_wp2_with fail
          have hd0 : Below n0 wr wr.drew := (Below.refl n0 wr).drew
          have H3 : ∀ w1, Below wr.heap.size wr.drew w1 → w1.cell? ⟨c, o + i * 4, none⟩ = some (.int .i64 k) ∧ w1.cell? ⟨c, o + i * 4 + 1, none⟩ = some (.int .i64 ix) ∧ w1.cell? ⟨c, o + i * 4 + 2, none⟩ = some (.string nm) ∧ w1.cell? ⟨c, o + i * 4 + 3, none⟩ = some (.slice ka ks.len kcap) ∧
              w1.cell? ⟨d, p + i * 4, none⟩ = some (.int .i64 k) ∧ w1.cell? ⟨d, p + i * 4 + 1, none⟩ = some (.int .i64 ix) ∧ w1.cell? ⟨d, p + i * 4 + 2, none⟩ = some (.string nm) ∧ w1.cell? ⟨d, p + i * 4 + 3, none⟩ = some (.slice ja js.len jcap) := fun w1 b1 =>
            ⟨(b1.cell (p := ⟨c, _, none⟩) (by show c < _; omega)).trans c1, (b1.cell (p := ⟨c, _, none⟩) (by show c < _; omega)).trans ci, (b1.cell (p := ⟨c, _, none⟩) (by show c < _; omega)).trans c2, (b1.cell (p := ⟨c, _, none⟩) (by show c < _; omega)).trans c3,
              (b1.cell (p := ⟨d, _, none⟩) (by show d < _; omega)).trans d1, (b1.cell (p := ⟨d, _, none⟩) (by show d < _; omega)).trans di, (b1.cell (p := ⟨d, _, none⟩) (by show d < _; omega)).trans d2, (b1.cell (p := ⟨d, _, none⟩) (by show d < _; omega)).trans d3⟩
          have HC := fun w1 => eq_node (ih ks (by omega)) k ix nm js n0 w1 ka ja kcap jcap
          go_region_held3 (fun w1 => w1.cell? ⟨c, o + i * 4, none⟩ = some (.int .i64 k) ∧ w1.cell? ⟨c, o + i * 4 + 1, none⟩ = some (.int .i64 ix) ∧ w1.cell? ⟨c, o + i * 4 + 2, none⟩ = some (.string nm) ∧ w1.cell? ⟨c, o + i * 4 + 3, none⟩ = some (.slice ka ks.len kcap) ∧
              w1.cell? ⟨d, p + i * 4, none⟩ = some (.int .i64 k) ∧ w1.cell? ⟨d, p + i * 4 + 1, none⟩ = some (.int .i64 ix) ∧ w1.cell? ⟨d, p + i * 4 + 2, none⟩ = some (.string nm) ∧ w1.cell? ⟨d, p + i * 4 + 3, none⟩ = some (.slice ja js.len jcap))
            (first | exact ⟨c1, ci, c2, c3, d1, di, d2, d3⟩ | exact H3 _ b1)
            (first | (go_at_call 13; refine (HC wr.drew ?_ hks (hs1.below hd0 (fun _ x => x)) (hs2.below hd0 (fun _ x => x))).mono ?_; exact (by show n0 ≤ wr.heap.size; omega); rintro e w1 ⟨rfl, b1⟩))
          replace b1 : Below wr.heap.size wr.drew w1 := b1
          go_wp2_with fail
          go_roundw
          case rel =>
            have e : ∀ o, o + (i + 1) * 4 = o + i * 4 + 4 := fun o => by omega
            refine ⟨i + 1, r, q, by go_num, by omega, by omega, hrq, fun _ => ⟨c, o, rfl, hc, ?_⟩, fun _ => ⟨d, p, rfl, hd, ?_⟩, bel.drew.trans (b1.mono (by omega))⟩
            · rw [e]; exact (h7.below hd0 (fun _ x => x) hc).below b1 (fun b x => by omega) (by omega)
            · rw [e]; exact (g7.below hd0 (fun _ x => x) hd).below b1 (fun b x => by omega) (by omega)
          case measure => simp [intOf]; omega

end Go.Proofs.Ytjlefdalobgdfaa
