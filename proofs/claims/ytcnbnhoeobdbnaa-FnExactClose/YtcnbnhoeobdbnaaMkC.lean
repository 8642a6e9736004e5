import Derived.Test.YtcnbnhoeobdbnaaMkB
import Derived.Deep.RegionHeld3
namespace Go.Proofs.Ytcnbnhoeobdbnaa
open Go.RowKit Go.Joins

/-- The marks of a row are found again. -/
def HdS (F : Fo) : Prop := ∀ (n0 : Nat) (W : World) (a : Option Addr) (cap k : Nat), n0 ≤ W.heap.size → k + 3 * F.size ≤ 4294967296 → (F.mk k).Sl W (fun c => c < n0) a cap →
  Calls Try.prog 62 #[.slice a F.len cap, .int .i64 k] W fun e W' => e = .returned (.int .i64 ((k + 3 * F.size : Nat) : Int)) ∧ Below W.heap.size W W'

set_option maxHeartbeats 2000000 in
set_option maxRecDepth 100000 in
theorem held_row : ∀ (m : Nat) (F : Fo), F.size < m → HdS F := by
  intro m
  induction m with
  | zero => intro F hF; omega
  | succ m ih =>
    intro F hF n0 W a cap k hn hk hs
    have hsl := F.len_le
    have hmx : F.len ≤ 9223372036854775807 := by have h2 := hs.1; have h3 := hs.2.1; simp only [maxLen] at h3; rw [Fo.mk_len] at h2; omega
    go_enter Try.func62, Try.ntmps62
    go_wp2_with fail
    go_loopw [1, 5] (fun s1 s5 wr => ∃ (i q : Nat) (r : Fo), s1 = .int .i64 (q : Int) ∧ s5 = .int .i64 i ∧ i + r.len = F.len ∧ r.size ≤ F.size ∧ q + 3 * r.size = k + 3 * F.size ∧ (0 < r.len → ∃ b o, a = some ⟨b, o, none⟩ ∧ b < n0 ∧ (r.mk q).Row wr (fun c => c < n0) b (o + i * 4)) ∧ Below W.heap.size W wr) (fun _ s5 _ => F.len - (intOf s5).toNat)
    case atStart => exact ⟨0, k, F, rfl, rfl, by omega, Nat.le_refl _, rfl, fun hl => by have := hs.2.2 (by rw [Fo.mk_len]; exact hl); simpa using this, Below.refl _ _⟩
    case round =>
      obtain ⟨i, q, r, rfl, rfl, hlen, hrs, hq, hrow, bel⟩ := hrel
      have hz := bel.size
      cases r with
      | nil =>
        simp only [Fo.len, Fo.size] at hlen hq
        have e : q = k + 3 * F.size := by omega
        have HE := hide e
        clear e hq
        go_wp2_with fail
        go_ret
        exact ⟨by rw [HE.out]; rfl, bel⟩
      | cons k' ix' nm ka kcap ks r =>
        simp only [Fo.len, Fo.size] at hlen hq hrs
        obtain ⟨b, o, rfl, hb, hk', hix', hnm, c1, ci, c2, c3, h4, h5, h6, h7⟩ := hrow (by simp [Fo.len])
        rw [Fo.mk_len] at c3
        clear hk' hix' hnm
        replace ci : wr.cell? ⟨b, o + i * 4 + 1, none⟩ = some (.int .i64 ((q : Int) + 1)) := ci
        have hil : (i : Int) < F.len := by omega
        have hqb : q + 3 ≤ 4294967296 := by omega
        have hd : Below wr.heap.size wr wr.drew := (Below.refl _ _).drew
        have HM : Hid (Calls Try.prog 61 #[.int .i64 ((q : Int) + 1 + 1)] wr.drew fun e w' => e = .returned (.string (mt (q + 2))) ∧ Below wr.drew.heap.size wr.drew w') := by
          have e : ((q + 2 : Nat) : Int) = (q : Int) + 1 + 1 := by omega
          unfold Hid
          rw [← e]
          exact markText (q + 2) wr.drew (by omega) (by omega)
        have HIH : Hid (∀ (w : World), n0 ≤ w.heap.size → (ks.mk (q + 3)).Sl w (fun c => c < n0) ka kcap → Calls Try.prog 62 #[.slice ka ks.len kcap, .int .i64 ((q : Int) + 1 + 1 + 1)] w fun e w' => e = .returned (.int .i64 ((q + 3 + 3 * ks.size : Nat) : Int)) ∧ Below w.heap.size w w') := fun w h1 h2 => by
          have e : ((q + 3 : Nat) : Int) = (q : Int) + 1 + 1 + 1 := by omega
          rw [← e]
          exact ih ks (by omega) n0 w ka kcap (q + 3) h1 (by omega) h2
        have HQ := hide hq
        have HLEN := hide hlen
        clear hq hlen hk
        go_wp2_with fail
        go_region_held3 (fun w => w.cell? ⟨b, o + i * 4, none⟩ = some (.int .i64 q) ∧ w.cell? ⟨b, o + i * 4 + 1, none⟩ = some (.int .i64 ((q : Int) + 1)) ∧ w.cell? ⟨b, o + i * 4 + 2, none⟩ = some (.string (mt (q + 2))) ∧ w.cell? ⟨b, o + i * 4 + 3, none⟩ = some (.slice ka ks.len kcap))
          (first | exact ⟨c1, ci, c2, c3⟩ | exact k1)
          (first | (go_at_call 61; refine HM.out.mono ?_; rintro e w1 ⟨rfl, f1⟩; have g1 := hd.trans (show Below wr.heap.size wr.drew w1 from f1); have k1 := And.intro ((g1.cell (p := ⟨b, o + i * 4, none⟩) (by show b < _; omega)).trans c1) (And.intro ((g1.cell (p := ⟨b, o + i * 4 + 1, none⟩) (by show b < _; omega)).trans ci) (And.intro ((g1.cell (p := ⟨b, o + i * 4 + 2, none⟩) (by show b < _; omega)).trans c2) ((g1.cell (p := ⟨b, o + i * 4 + 3, none⟩) (by show b < _; omega)).trans c3)))))
        all_goals
          have d3 := k1.2.2.2
          clear k1
          have z1 := g1.size
          go_wp2_with fail
          have hks : (ks.mk (q + 3)).Sl wr (fun c => c < n0) ka kcap := ⟨h4, h5, h6⟩
          refine (HIH.out w1 (by omega) (hks.below g1 (fun c hc => by omega))).mono ?_
          rintro e w2 ⟨rfl, b2⟩
          have hnn : ¬ ((q + 3 + 3 * ks.size : Nat) : Int) < 0 := by omega
          have hg2 := g1.trans (b2.mono z1)
          have h72 := h7.below hg2 (fun c hc => by omega) (by omega)
          obtain ⟨q2, hq2⟩ : ∃ q2, q + 3 + 3 * ks.size = q2 := ⟨_, rfl⟩
          rw [hq2] at hnn h72 ⊢
          have HQ2 := hide hq2
          have H72 := hide h72
          clear hq2 h72 hks h7 h4 h5 h6
          go_wp2_with fail
          go_roundw
          case rel =>
            have e1 := HQ.out
            have e2 := HQ2.out
            have e3 := HLEN.out
            refine ⟨i + 1, q2, r, rfl, by go_num, by omega, by omega, by omega, fun _ => ⟨b, o, rfl, hb, ?_⟩, bel.trans (hg2.mono hz)⟩
            have e : o + (i + 1) * 4 = o + i * 4 + 4 := by omega
            rw [e]
            exact H72.out
          case measure => have := HLEN.out; simp [intOf]; omega

theorem mark_whole (k' ix : Int) (nm : ByteArray) (F : Fo) (W : World) (a : Option Addr) (cap k : Nat) (hk : k + 3 * F.size ≤ 4294967296) (hs : F.Sl W (fun c => c < W.heap.size) a cap) (hnd : (blk a F.len ++ F.inn).Nodup) (hlv : Live W (blk a F.len ++ F.inn)) :
    Calls Try.prog 19 #[nodeV k' ix nm a F.len cap, .int .i64 k] W fun e W' => e = .returned (.int .i64 ((k + 3 * F.size : Nat) : Int)) ∧ (F.mk k).Sl W' (fun c => c < W.heap.size) a cap ∧ Kept (fun c => c ∉ blk a F.len ++ F.inn) W W' ∧ Live W' (blk a F.len ++ F.inn) := by
  unfold nodeV
  have b0 := below_alloc1 W (.cells #[.int .i64 k', .int .i64 ix, .string nm, .slice a F.len cap] 29)
  have k0 : Kept (fun c => c ∉ blk a F.len ++ F.inn) W (W.alloc (.cells #[.int .i64 k', .int .i64 ix, .string nm, .slice a F.len cap] 29)) := Kept.alloc _ _ _
  have hal := hs.all_of
  have H := hide (mark_row _ F (Nat.lt_succ_self _) (W.alloc (.cells #[.int .i64 k', .int .i64 ix, .string nm, .slice a F.len cap] 29)) a cap k hk ((hs.below b0 (fun c hc => hc)).mono (fun c hc => Nat.lt_of_lt_of_le hc b0.size)) hnd
    (hlv.kept (Kept.alloc (fun _ => True) _ _) (fun c hc => ⟨trivial, hal c hc⟩)))
  obtain ⟨q, hq⟩ : ∃ q, k + 3 * F.size = q := ⟨_, rfl⟩
  rw [hq] at H ⊢
  clear hq hk
  go_enter Try.func19, Try.ntmps19
  go_wp2_with fail
  refine H.out.mono ?_
  rintro e w1 ⟨rfl, s1, k1, l1⟩
  go_wp2_with fail
  go_ret
  have h8 := s1.own
  simp only [Fo.mk_len, Fo.mk_inn] at h8
  exact ⟨rfl, h8.mono hal, k0.trans k1, l1⟩

theorem held_whole (k' ix : Int) (nm : ByteArray) (F : Fo) (W : World) (a : Option Addr) (cap k : Nat) (hk : k + 3 * F.size ≤ 4294967296) (hs : (F.mk k).Sl W (fun c => c < W.heap.size) a cap) :
    Calls Try.prog 28 #[nodeV k' ix nm a F.len cap, .int .i64 k] W fun e W' => e = .returned (.int .i64 ((k + 3 * F.size : Nat) : Int)) ∧ Below W.heap.size W W' := by
  unfold nodeV
  have b0 := below_alloc1 W (.cells #[.int .i64 k', .int .i64 ix, .string nm, .slice a F.len cap] 29)
  have H := hide (held_row _ F (Nat.lt_succ_self _) W.heap.size (W.alloc (.cells #[.int .i64 k', .int .i64 ix, .string nm, .slice a F.len cap] 29)) a cap k b0.size hk (hs.below b0 (fun c hc => hc)))
  obtain ⟨q, hq⟩ : ∃ q, k + 3 * F.size = q := ⟨_, rfl⟩
  rw [hq] at H ⊢
  clear hq hk
  have hnn : ¬ (q : Int) < 0 := by omega
  go_enter Try.func28, Try.ntmps28
  go_wp2_with fail
  refine H.out.mono ?_
  rintro e w1 ⟨rfl, b1⟩
  go_wp2_with fail
  go_ret
  exact ⟨rfl, b0.trans (b1.mono b0.size)⟩

end Go.Proofs.Ytcnbnhoeobdbnaa
