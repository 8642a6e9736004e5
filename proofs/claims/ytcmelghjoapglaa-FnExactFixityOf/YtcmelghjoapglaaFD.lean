import Derived.Test.YtcmelghjoapglaaFB
import Derived.Deep.RegionHeld3
namespace Go.Proofs.Ytcmelghjoapglaa
open Go.RowKit Go.Joins

set_option maxHeartbeats 1000000 in
set_option maxRecDepth 100000 in
theorem eq_one (x : Fx) (W : World) : Calls Try.prog 8 #[fv x, fv x] W fun e W' => e = .returned (.bool true) ∧ Below W.heap.size W W' := by
  obtain ⟨nm, sd, lv⟩ := x
  unfold fv
  go_enter Try.func8, Try.ntmps8
  go_wp2_with fail
  go_ret
  exact ⟨rfl, below_alloc2 _ _ _⟩

set_option maxHeartbeats 1000000 in
set_option maxRecDepth 100000 in
theorem eq_all (L : List Fx) (W : World) (a b : Option Addr) (cap dap : Nat) (hs : FSl W W.heap.size a cap L) (ht : FSl W W.heap.size b dap L) :
    Calls Try.prog 9 #[.slice a L.length cap, .slice b L.length dap] W fun e W' => e = .returned (.bool true) ∧ Below W.heap.size W W' := by
  have hmx : L.length ≤ 9223372036854775807 := by have h2 := hs.len; have h3 := hs.cap; simp only [maxLen] at h3; omega
  go_enter Try.func9, Try.ntmps9
  go_wp2_with fail
  go_loopw [5] (fun s5 wr => ∃ i : Nat, s5 = .int .i64 i ∧ i ≤ L.length ∧ Below W.heap.size W wr) (fun s5 _ => L.length - (intOf s5).toNat)
  case atStart => exact ⟨0, rfl, by omega, Below.refl _ _⟩
  case round =>
    obtain ⟨i, rfl, hi, bel⟩ := hrel
    by_cases hl : i < L.length
    · obtain ⟨x, hx⟩ : ∃ x, L[i]? = some x := ⟨L[i], by simp [hl]⟩
      obtain ⟨b1, o1, rfl, hb1, hr1⟩ := hs.row (by omega)
      obtain ⟨b2, o2, rfl, hb2, hr2⟩ := ht.row (by omega)
      obtain ⟨c1, c2, c3⟩ := (hr1.below bel hb1) i x hx
      obtain ⟨d1, d2, d3⟩ := (hr2.below bel hb2) i x hx
      have hl' : (i : Int) < L.length := by omega
      have hd : Below wr.heap.size wr wr.drew := (Below.refl _ _).drew
      have HE := hide (eq_one x wr.drew)
      unfold fv at HE
      go_wp2_with fail
      go_region_held3 (fun w => w.cell? ⟨b1, o1 + i * 3, none⟩ = some (.string x.nm) ∧ w.cell? ⟨b1, o1 + i * 3 + 1, none⟩ = some (.int .i64 x.sd) ∧ w.cell? ⟨b1, o1 + i * 3 + 2, none⟩ = some (.int .i64 x.lv) ∧
          w.cell? ⟨b2, o2 + i * 3, none⟩ = some (.string x.nm) ∧ w.cell? ⟨b2, o2 + i * 3 + 1, none⟩ = some (.int .i64 x.sd) ∧ w.cell? ⟨b2, o2 + i * 3 + 2, none⟩ = some (.int .i64 x.lv))
        (first | exact ⟨c1, c2, c3, d1, d2, d3⟩ | exact k1)
        (first | (go_at_call 8; refine HE.out.mono ?_; rintro e w1 ⟨rfl, f1⟩; have g1 := bel.trans (hd.mono bel.size); have g2 := g1.trans (f1.mono bel.size); have k1 := And.intro ((hr1.below g2 hb1) i x hx) ((hr2.below g2 hb2) i x hx); simp only [and_assoc] at k1))
      all_goals
        go_wp2_with fail
        go_roundw
        case rel => exact ⟨i + 1, by go_num, by omega, g2⟩
        case measure => simp [intOf]; omega
    · obtain rfl : i = L.length := by omega
      go_wp2_with fail
      go_ret
      exact ⟨rfl, bel⟩

end Go.Proofs.Ytcmelghjoapglaa
