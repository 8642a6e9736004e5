import Derived.Test.YtjfoagmenehapaaTo
namespace Go.Proofs.Ytjfoagmenehapaa
open Go.RowKit Go.Joins

set_option maxHeartbeats 1000000 in
set_option maxRecDepth 100000 in
/-- The model's count. -/
theorem count_node : ∀ (m : Nat) (ks : Fo), ks.size < m → ∀ (k : Int) (nm : ByteArray) (n0 : Nat) (W : World) (a : Option Addr) (cap : Nat), n0 ≤ W.heap.size → ks.size ≤ 1048576 → ks.Sl W (fun b => b < n0) a cap →
    Calls Try.prog 6 #[nodeV k nm a ks.len cap] W fun e W' => e = .returned (.int .i64 ((1 + ks.size : Nat) : Int)) ∧ Below W.heap.size W W' := by
  intro m
  induction m with
  | zero => intro F hF; omega
  | succ m ih =>
    intro ks hF k nm n0 W a cap hn ht hs
    have hlt := ks.len_le
    unfold nodeV
    go_enter Try.func6, Try.ntmps6
    go_wp2_with fail
    have q1 := Box3.new W (.int .i64 k) (.string nm) (.slice a ks.len cap) 29
    have hB0 : Below W.heap.size W (W.alloc (.cells #[.int .i64 k, .string nm, .slice a ks.len cap] 29)) := below_alloc1 _ _
    have hz0 : (W.alloc (.cells #[.int .i64 k, .string nm, .slice a ks.len cap] 29)).heap.size = W.heap.size + 1 := by simp
    generalize W.alloc (.cells #[.int .i64 k, .string nm, .slice a ks.len cap] 29) = W0 at q1 hB0 hz0 ⊢
    go_loopw [3, 4] (fun s3 s4 wr => ∃ (c i : Nat) (r : Fo), s3 = .int .i64 c ∧ s4 = .int .i64 i ∧ r.len + i = ks.len ∧ 1 ≤ c ∧ c + r.size = 1 + ks.size ∧
      (0 < r.len → ∃ b o, a = some ⟨b, o, none⟩ ∧ b < n0 ∧ r.Row wr (fun b => b < n0) b (o + i * 3)) ∧ Box3 wr W.heap.size (.int .i64 k) (.string nm) (.slice a ks.len cap) ∧ Below W.heap.size W wr) (fun _ s4 _ => ks.len - (intOf s4).toNat)
    case atStart => exact ⟨1, 0, ks, rfl, rfl, rfl, Nat.le_refl _, rfl, (hs.below hB0 (fun b x => by omega)).2.2, q1, hB0⟩
    case round =>
      obtain ⟨c, i, r, rfl, rfl, hlen, hc1, hc, hrow, q, bel⟩ := hrel
      have qlt := q.lt
      obtain ⟨-, d0, d1, d2, e0, e1, e2⟩ := id q
      cases r with
      | nil =>
        simp only [Fo.len, Fo.size] at hlen hc
        go_wp2_with fail
        go_ret
        exact ⟨ret_int (by omega), bel⟩
      | cons k' nm' ka kcap ks' r =>
        simp only [Fo.len, Fo.size] at hlen hc
        obtain ⟨b, o, rfl, hb, hk, hnm, c1, c2, c3, h4, h5, h6, h7⟩ := hrow (by simp [Fo.len])
        have hks : ks'.Sl wr (fun b => b < n0) ka kcap := ⟨h4, h5, h6⟩
        go_wp2_with fail
        refine (ih ks' (by omega) k' nm' n0 wr ka kcap (by omega) (by omega) hks).mono ?_
        rintro e w1 ⟨rfl, b1⟩
        replace q := q.below b1 qlt
        go_wp2_with fail
        go_roundw
        case rel =>
          refine ⟨c + (1 + ks'.size), i + 1, r, by go_num, by go_num, by omega, by omega, by omega, fun _ => ⟨b, o, rfl, hb, ?_⟩, q, bel.trans (b1.mono (by omega))⟩
          have e : o + (i + 1) * 3 = o + i * 3 + 3 := by omega
          rw [e]
          exact h7.below b1 (fun b x => by omega) (by omega)
        case measure => simp [intOf]; omega

end Go.Proofs.Ytjfoagmenehapaa
