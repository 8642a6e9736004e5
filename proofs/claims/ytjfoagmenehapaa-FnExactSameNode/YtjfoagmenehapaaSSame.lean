import Derived.Test.YtjfoagmenehapaaTo
import Derived.Deep.RegionHeld3
import Derived.Lib.SlicesS
namespace Go.Proofs.Ytjfoagmenehapaa
open Go.RowKit Go.Joins

/-- Are two rows the same? -/
def Fo.same : Fo → Fo → Bool
  | .nil, .nil => true
  | .cons k nm _ _ ks r, .cons k' nm' _ _ ks' r' => (decide (k = k') && decide (nm = nm') && ks.same ks') && r.same r'
  | _, _ => false

/-- Are two nodes the same? -/
def sameN (k : Int) (nm : ByteArray) (ks : Fo) (k' : Int) (nm' : ByteArray) (ks' : Fo) : Bool := decide (k = k') && decide (nm = nm') && ks.same ks'

theorem Fo.same_len : ∀ {F G : Fo}, F.same G = true → F.len = G.len
  | .nil, .nil, _ => rfl
  | .cons _ _ _ _ _ r, .cons _ _ _ _ _ r', h => by
    simp only [Fo.same, Bool.and_eq_true] at h
    simp only [Fo.len, Fo.same_len h.2]
  | .nil, .cons _ _ _ _ _ _, h => by simp [Fo.same] at h
  | .cons _ _ _ _ _ _, .nil, h => by simp [Fo.same] at h

theorem Fo.same_ne {F G : Fo} (h : F.len ≠ G.len) : F.same G = false := by
  cases hb : F.same G with
  | false => rfl
  | true => exact absurd (Fo.same_len hb) h

def SmS (ks : Fo) : Prop := ∀ (gs : Fo) (k : Int) (nm : ByteArray) (k' : Int) (nm' : ByteArray) (n0 : Nat) (W : World) (a b : Option Addr) (cap dap : Nat), n0 ≤ W.heap.size → ks.Sl W (fun b => b < n0) a cap → gs.Sl W (fun b => b < n0) b dap →
  Calls Try.prog 10 #[nodeV k nm a ks.len cap, nodeV k' nm' b gs.len dap] W fun e W' => e = .returned (.bool (sameN k nm ks k' nm' gs)) ∧ Below W.heap.size W W'

theorem ret_bool {a b : Bool} (h : a = b) : Ending.returned (.bool a) = .returned (.bool b) := by rw [h]

set_option maxHeartbeats 2000000 in
set_option maxRecDepth 100000 in
theorem same_node : ∀ (m : Nat) (ks : Fo), ks.size < m → SmS ks := by
  intro m
  induction m with
  | zero => intro F hF; omega
  | succ m ih =>
    intro ks hF gs k nm k' nm' n0 W a b cap dap hn hs ht
    have hB0 := below_alloc2 W (.cells #[.int .i64 k, .string nm, .slice a ks.len cap] 29) (.cells #[.int .i64 k', .string nm', .slice b gs.len dap] 29)
    have hm1 : ks.len ≤ 9223372036854775807 := by have h2 := hs.1; have h3 := hs.2.1; simp only [maxLen] at h3; omega
    have hm2 : gs.len ≤ 9223372036854775807 := by have h2 := ht.1; have h3 := ht.2.1; simp only [maxLen] at h3; omega
    by_cases hk : k = k'
    · subst hk
      by_cases hnm : nm = nm'
      · subst hnm
        by_cases hl : ks.len = gs.len
        · have q1 : Box3 ((W.alloc (.cells #[.int .i64 k, .string nm, .slice a ks.len cap] 29)).alloc (.cells #[.int .i64 k, .string nm, .slice b gs.len dap] 29)) W.heap.size (.int .i64 k) (.string nm) (.slice a ks.len cap) := (Box3.new _ _ _ _ _).alloc _
          have q2 := Box3.new (W.alloc (.cells #[.int .i64 k, .string nm, .slice a ks.len cap] 29)) (.int .i64 k) (.string nm) (.slice b gs.len dap) 29
          rw [World.size_alloc] at q2
          have e0 : sameN k nm ks k nm gs = ks.same gs := by simp [sameN]
          rw [e0]
          unfold nodeV
          rw [← hl] at q2 hB0 q1 ⊢
          have HL : Hid (ks.len = gs.len) := hl
          clear hl
          go_enter Try.func10, Try.ntmps10
          go_wp2_with fail
          have hz0 : ((W.alloc (.cells #[.int .i64 k, .string nm, .slice a ks.len cap] 29)).alloc (.cells #[.int .i64 k, .string nm, .slice b ks.len dap] 29)).heap.size = W.heap.size + 1 + 1 := by simp
          generalize (W.alloc (.cells #[.int .i64 k, .string nm, .slice a ks.len cap] 29)).alloc (.cells #[.int .i64 k, .string nm, .slice b ks.len dap] 29) = W0 at q1 q2 hB0 hz0 ⊢
          go_loopw [5] (fun s5 wr => ∃ (i : Nat) (r q : Fo), s5 = .int .i64 i ∧ r.len + i = ks.len ∧ q.len + i = ks.len ∧ r.size ≤ ks.size ∧ Hid (ks.same gs = r.same q) ∧
            (0 < r.len → ∃ c o, a = some ⟨c, o, none⟩ ∧ c < n0 ∧ r.Row wr (fun b => b < n0) c (o + i * 3)) ∧
            (0 < q.len → ∃ c o, b = some ⟨c, o, none⟩ ∧ c < n0 ∧ q.Row wr (fun b => b < n0) c (o + i * 3)) ∧
            Box3 wr W.heap.size (.int .i64 k) (.string nm) (.slice a ks.len cap) ∧ Box3 wr (W.heap.size + 1) (.int .i64 k) (.string nm) (.slice b ks.len dap) ∧ Below W.heap.size W wr) (fun s5 _ => ks.len - (intOf s5).toNat)
          case atStart => exact ⟨0, ks, gs, rfl, rfl, HL.out.symm, Nat.le_refl _, rfl, (hs.below hB0 (fun _ x => by omega)).2.2, (ht.below hB0 (fun _ x => by omega)).2.2, q1, q2, hB0⟩
          case round =>
            obtain ⟨i, r, q, rfl, hlen, hlen2, hrs, HS, hrow, hqow, qb1, qb2, bel⟩ := hrel
            clear q1 q2
            have hw := bel.size
            have l1 := qb1.lt
            have l2 := qb2.lt
            obtain ⟨-, x0, x1, x2, -, -, -⟩ := id qb1
            obtain ⟨-, y0, y1, y2, -, -, -⟩ := id qb2
            cases r with
            | nil =>
              cases q with
              | cons _ _ _ _ _ _ => simp only [Fo.len] at hlen hlen2; omega
              | nil =>
                simp only [Fo.len] at hlen
                go_wp2_with fail
                go_ret
                exact ⟨ret_bool HS.out.symm, bel⟩
            | cons k1 nm1 ka kcap ks1 r =>
              cases q with
              | nil => simp only [Fo.len] at hlen hlen2; omega
              | cons k2 nm2 ja jcap js q =>
                simp only [Fo.len, Fo.size] at hlen hlen2 hrs
                obtain ⟨c, o, rfl, hc, -, hnm1, c1, c2, c3, h4, h5, h6, h7⟩ := hrow (by simp [Fo.len])
                obtain ⟨d, p, rfl, hd, -, hnm2, d1, d2, d3, g4, g5, g6, g7⟩ := hqow (by simp [Fo.len])
                have hs1 : ks1.Sl wr (fun b => b < n0) ka kcap := ⟨h4, h5, h6⟩
                have hs2 : js.Sl wr (fun b => b < n0) ja jcap := ⟨g4, g5, g6⟩
                have hd0 : Below n0 wr wr.drew := (Below.refl n0 wr).drew
                have HC := ih ks1 (by omega) js k1 nm1 k2 nm2 n0 wr.drew ka ja kcap jcap (by show n0 ≤ wr.heap.size; omega) (hs1.below hd0 (fun _ x => x)) (hs2.below hd0 (fun _ x => x))
                have H3 : ∀ w1, Below wr.heap.size wr.drew w1 → (w1.cell? ⟨c, o + i * 3, none⟩ = some (.int .i64 k1) ∧ w1.cell? ⟨c, o + i * 3 + 1, none⟩ = some (.string nm1) ∧ w1.cell? ⟨c, o + i * 3 + 2, none⟩ = some (.slice ka ks1.len kcap)) ∧
                    (w1.cell? ⟨d, p + i * 3, none⟩ = some (.int .i64 k2) ∧ w1.cell? ⟨d, p + i * 3 + 1, none⟩ = some (.string nm2) ∧ w1.cell? ⟨d, p + i * 3 + 2, none⟩ = some (.slice ja js.len jcap)) ∧
                    w1.cell? ⟨W.heap.size, 2, none⟩ = some (.slice (some ⟨c, o, none⟩) ks.len cap) ∧ w1.cell? ⟨W.heap.size + 1, 2, none⟩ = some (.slice (some ⟨d, p, none⟩) ks.len dap) := fun w1 b1 =>
                  ⟨⟨(b1.cell (p := ⟨c, _, none⟩) (by show c < _; omega)).trans c1, (b1.cell (p := ⟨c, _, none⟩) (by show c < _; omega)).trans c2, (b1.cell (p := ⟨c, _, none⟩) (by show c < _; omega)).trans c3⟩,
                    ⟨(b1.cell (p := ⟨d, _, none⟩) (by show d < _; omega)).trans d1, (b1.cell (p := ⟨d, _, none⟩) (by show d < _; omega)).trans d2, (b1.cell (p := ⟨d, _, none⟩) (by show d < _; omega)).trans d3⟩,
                    (b1.cell (p := ⟨W.heap.size, 2, none⟩) l1).trans x2, (b1.cell (p := ⟨W.heap.size + 1, 2, none⟩) l2).trans y2⟩
                have hbig : ks.same gs = (sameN k1 nm1 ks1 k2 nm2 js && r.same q) := HS.out
                have HB := hide hbig
                unfold nodeV at HC
                clear hbig HS
                cases hb : sameN k1 nm1 ks1 k2 nm2 js with
                | false =>
                  rw [hb] at HC HB
                  go_wp2_with fail
                  go_region_held3 (fun w1 => (w1.cell? ⟨c, o + i * 3, none⟩ = some (.int .i64 k1) ∧ w1.cell? ⟨c, o + i * 3 + 1, none⟩ = some (.string nm1) ∧ w1.cell? ⟨c, o + i * 3 + 2, none⟩ = some (.slice ka ks1.len kcap)) ∧
                    (w1.cell? ⟨d, p + i * 3, none⟩ = some (.int .i64 k2) ∧ w1.cell? ⟨d, p + i * 3 + 1, none⟩ = some (.string nm2) ∧ w1.cell? ⟨d, p + i * 3 + 2, none⟩ = some (.slice ja js.len jcap)) ∧
                    w1.cell? ⟨W.heap.size, 2, none⟩ = some (.slice (some ⟨c, o, none⟩) ks.len cap) ∧ w1.cell? ⟨W.heap.size + 1, 2, none⟩ = some (.slice (some ⟨d, p, none⟩) ks.len dap))
                    (first | exact ⟨⟨c1, c2, c3⟩, ⟨d1, d2, d3⟩, x2, y2⟩ | exact k9)
                    (first | (go_at_call 10; refine HC.mono ?_; rintro e w1 ⟨rfl, b1⟩; replace b1 : Below wr.heap.size wr.drew w1 := b1; have k9 := H3 w1 b1))
                  go_wp2_with fail
                  go_ret
                  exact ⟨ret_bool (by rw [HB.out]; rfl), bel.drew.trans (b1.mono (by omega))⟩
                | true =>
                  rw [hb] at HC HB
                  go_wp2_with fail
                  go_region_held3 (fun w1 => (w1.cell? ⟨c, o + i * 3, none⟩ = some (.int .i64 k1) ∧ w1.cell? ⟨c, o + i * 3 + 1, none⟩ = some (.string nm1) ∧ w1.cell? ⟨c, o + i * 3 + 2, none⟩ = some (.slice ka ks1.len kcap)) ∧
                    (w1.cell? ⟨d, p + i * 3, none⟩ = some (.int .i64 k2) ∧ w1.cell? ⟨d, p + i * 3 + 1, none⟩ = some (.string nm2) ∧ w1.cell? ⟨d, p + i * 3 + 2, none⟩ = some (.slice ja js.len jcap)) ∧
                    w1.cell? ⟨W.heap.size, 2, none⟩ = some (.slice (some ⟨c, o, none⟩) ks.len cap) ∧ w1.cell? ⟨W.heap.size + 1, 2, none⟩ = some (.slice (some ⟨d, p, none⟩) ks.len dap))
                    (first | exact ⟨⟨c1, c2, c3⟩, ⟨d1, d2, d3⟩, x2, y2⟩ | exact k9)
                    (first | (go_at_call 10; refine HC.mono ?_; rintro e w1 ⟨rfl, b1⟩; replace b1 : Below wr.heap.size wr.drew w1 := b1; have k9 := H3 w1 b1))
                  go_wp2_with fail
                  go_roundw
                  case rel =>
                    have e : ∀ o, o + (i + 1) * 3 = o + i * 3 + 3 := fun o => by omega
                    have hb2 : Below wr.heap.size wr w1 := (Below.refl _ _).drew.trans b1
                    refine ⟨i + 1, r, q, by go_num, by omega, by omega, by omega, by rw [HB.out]; rfl, fun _ => ⟨c, o, rfl, hc, ?_⟩, fun _ => ⟨d, p, rfl, hd, ?_⟩, qb1.below hb2 l1, qb2.below hb2 l2, bel.trans (hb2.mono (by omega))⟩
                    · rw [e]; exact h7.below hb2 (fun b x => by omega) (by omega)
                    · rw [e]; exact g7.below hb2 (fun b x => by omega) (by omega)
                  case measure => simp [intOf]; omega
        · have e0 : sameN k nm ks k nm gs = false := by simp [sameN, Fo.same_ne hl]
          rw [e0]
          unfold nodeV
          go_enter Try.func10, Try.ntmps10
          go_wp2_with fail
          go_ret
          exact ⟨rfl, hB0⟩
      · have hbb := (Go.Lib.bytes_beq_false_iff nm nm').2 hnm
        have e0 : sameN k nm ks k nm' gs = false := by simp [sameN, hnm]
        rw [e0]
        unfold nodeV
        go_enter Try.func10, Try.ntmps10
        go_wp2_with fail
        go_ret
        exact ⟨rfl, hB0⟩
    · have e0 : sameN k nm ks k' nm' gs = false := by simp [sameN, hk]
      rw [e0]
      unfold nodeV
      go_enter Try.func10, Try.ntmps10
      go_wp2_with fail
      go_ret
      exact ⟨rfl, hB0⟩

end Go.Proofs.Ytjfoagmenehapaa
