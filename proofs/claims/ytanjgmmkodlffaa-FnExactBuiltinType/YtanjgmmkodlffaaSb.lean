import Derived.Test.YtanjgmmkodlffaaSa
import Derived.Test.YtanjgmmkodlffaaUv
import Derived.Deep.RegionHeld3
import Derived.Deep.DeepCutAuto
namespace Go.Proofs.Ytanjgmmkodlffaa
open Go.RowKit Go.Joins

set_option maxHeartbeats 2000000 in
set_option maxRecDepth 100000 in
/-- The program's look at the tops of two types. -/
theorem sameTop_any (k ix : Int) (nm : ByteArray) (a : Option Addr) (n cap : Nat) (k' ix' : Int) (nm' : ByteArray) (a' : Option Addr) (n' cap' : Nat) (w : World) (q : Bool) (hq : q = true ↔ k = k' ∧ ix = ix' ∧ nm = nm' ∧ n = n') :
    Calls Try.prog 43 #[.agg #[.int .i64 k, .int .i64 ix, .string nm, .slice a n cap], .agg #[.int .i64 k', .int .i64 ix', .string nm', .slice a' n' cap']] w fun e w' => e = .returned (.bool q) ∧ Below w.heap.size w w' := by
  by_cases h1 : k = k'
  · by_cases h2 : ix = ix'
    · by_cases h3 : nm = nm'
      · subst h1 h2 h3
        by_cases h4 : n = n'
        · subst h4
          obtain rfl : q = true := hq.2 ⟨rfl, rfl, rfl, rfl⟩
          clear hq
          go_enter Try.func43, Try.ntmps43
          go_wp2_with fail
          go_ret
          exact ⟨rfl, below_alloc2 _ _ _⟩
        · obtain rfl : q = false := by
            cases q
            · rfl
            · exact absurd (hq.1 rfl).2.2.2 h4
          have hb : ((n : Int) == (n' : Int)) = false := beq_eq_false_iff_ne.2 (by omega)
          clear hq
          go_enter Try.func43, Try.ntmps43
          go_wp2_with fail
          go_ret
          exact ⟨rfl, below_alloc2 _ _ _⟩
      · obtain rfl : q = false := by
          cases q
          · rfl
          · exact absurd (hq.1 rfl).2.2.1 h3
        subst h1 h2
        have hb := U.list_ne h3
        clear hq
        go_enter Try.func43, Try.ntmps43
        go_wp2_with fail
        go_ret
        exact ⟨rfl, below_alloc2 _ _ _⟩
    · obtain rfl : q = false := by
        cases q
        · rfl
        · exact absurd (hq.1 rfl).2.1 h2
      subst h1
      have hb : (ix == ix') = false := by simpa using h2
      clear hq
      go_enter Try.func43, Try.ntmps43
      go_wp2_with fail
      go_ret
      exact ⟨rfl, below_alloc2 _ _ _⟩
  · obtain rfl : q = false := by
      cases q
      · rfl
      · exact absurd (hq.1 rfl).1 h1
    have hb : (k == k') = false := by simpa using h1
    clear hq
    go_enter Try.func43, Try.ntmps43
    go_wp2_with fail
    go_ret
    exact ⟨rfl, below_alloc2 _ _ _⟩

theorem sim_cons {k ix : Int} {nm : ByteArray} {a : Option Addr} {cap : Nat} {ks r : Fo} {k' ix' : Int} {nm' : ByteArray} {a' : Option Addr} {cap' : Nat} {ks' r' : Fo} :
    (Fo.cons k ix nm a cap ks r).sim (.cons k' ix' nm' a' cap' ks' r') ↔ k = k' ∧ ix = ix' ∧ nm = nm' ∧ ks.sim ks' ∧ r.sim r' := Iff.rfl

/-- What the model's loop knows. -/
structure SbI (W wr : World) (k ix : Int) (nm : ByteArray) (a : Option Addr) (cap : Nat) (ks : Fo) (a' : Option Addr) (cap' : Nat) (n0 i : Nat) (r r' : Fo) : Prop where
  l1 : r.len + i = ks.len
  l2 : r'.len + i = ks.len
  s1 : r.size ≤ ks.size
  q2 : Box4 wr W.heap.size (.int .i64 k) (.int .i64 ix) (.string nm) (.slice a ks.len cap)
  q3 : Box4 wr (W.heap.size + 1) (.int .i64 k) (.int .i64 ix) (.string nm) (.slice a' ks.len cap')
  be : Below W.heap.size W wr
  r1 : 0 < r.len → ∃ b o, a = some ⟨b, o, none⟩ ∧ b < n0 ∧ r.Row wr (fun b => b < n0) b (o + i * 4)
  r2 : 0 < r'.len → ∃ b o, a' = some ⟨b, o, none⟩ ∧ b < n0 ∧ r'.Row wr (fun b => b < n0) b (o + i * 4)

set_option maxHeartbeats 4000000 in
set_option maxRecDepth 100000 in
/-- The model's SameType. -/
theorem ssame_any : ∀ (m : Nat) (ks : Fo), ks.size < m → ∀ (k ix : Int) (nm : ByteArray) (a : Option Addr) (cap : Nat) (k' ix' : Int) (nm' : ByteArray) (a' : Option Addr) (cap' : Nat) (ks' : Fo) (n0 : Nat) (W : World) (q : Bool), n0 ≤ W.heap.size →
    ks.Sl W (fun b => b < n0) a cap → ks'.Sl W (fun b => b < n0) a' cap' → (q = true ↔ (Fo.cons k ix nm a cap ks .nil).sim (.cons k' ix' nm' a' cap' ks' .nil)) →
    Calls Try.prog 17 #[.agg #[.int .i64 k, .int .i64 ix, .string nm, .slice a ks.len cap], .agg #[.int .i64 k', .int .i64 ix', .string nm', .slice a' ks'.len cap']] W fun e W' => e = .returned (.bool q) ∧ Below W.heap.size W W' := by
  intro m
  induction m with
  | zero => intro F hF; omega
  | succ m ih =>
    intro ks hF k ix nm a cap k' ix' nm' a' cap' ks' n0 W q hn hs hs' hq
    by_cases h1 : k = k'
    · by_cases h2 : ix = ix'
      · by_cases h3 : nm = nm'
        · subst h1 h2 h3
          by_cases h4 : ks.len = ks'.len
          · have hmx : ks.len ≤ 9223372036854775807 := by have h2 := hs.1; have h3 := hs.2.1; simp only [maxLen] at h3; omega
            rw [← h4]
            have b0 := below_alloc2 W (.cells #[.int .i64 k, .int .i64 ix, .string nm, .slice a ks.len cap] 25) (.cells #[.int .i64 k, .int .i64 ix, .string nm, .slice a' ks.len cap'] 25)
            have q2 := (Box4.new W (.int .i64 k) (.int .i64 ix) (.string nm) (.slice a ks.len cap) 25).alloc (.cells #[.int .i64 k, .int .i64 ix, .string nm, .slice a' ks.len cap'] 25)
            have q3 := Box4.new (W.alloc (.cells #[.int .i64 k, .int .i64 ix, .string nm, .slice a ks.len cap] 25)) (.int .i64 k) (.int .i64 ix) (.string nm) (.slice a' ks.len cap') 25
            rw [World.size_alloc] at q3
            have HI0 : Hid (SbI W _ k ix nm a cap ks a' cap' n0 0 ks ks') := ⟨rfl, by omega, Nat.le_refl _, q2, q3, b0, fun hl => (hs.below b0 (fun b x => by omega)).2.2 hl, fun hl => (hs'.below b0 (fun b x => by omega)).2.2 hl⟩
            have HQ0 : Hid (q = true ↔ ks.sim ks') := by unfold Hid; rw [hq, sim_cons]; simp [Fo.sim]
            have HIH := hide ih
            clear ih hs hs' hq b0 q2 q3 h4
            go_enter Try.func17, Try.ntmps17
            go_wp2_with fail
            generalize (W.alloc (.cells #[.int .i64 k, .int .i64 ix, .string nm, .slice a ks.len cap] 25)).alloc (.cells #[.int .i64 k, .int .i64 ix, .string nm, .slice a' ks.len cap'] 25) = W0 at *
            go_loopw [5] (fun s wr => ∃ (i : Nat) (r r' : Fo), s = .int .i64 i ∧ i ≤ ks.len ∧ Hid (SbI W wr k ix nm a cap ks a' cap' n0 i r r') ∧ Hid (q = true ↔ r.sim r')) (fun s _ => ks.len - (intOf s).toNat)
            case atStart => exact ⟨0, ks, ks', rfl, Nat.zero_le _, HI0, HQ0⟩
            case round =>
              obtain ⟨i, r, r', rfl, hi, HI, HQ⟩ := hrel
              have hl1 := HI.out.l1
              have hl2 := HI.out.l2
              obtain ⟨-, x0, xi, x1, x2, -, -, -, -⟩ := HI.out.q2
              obtain ⟨-, y0, yi, y1, y2, -, -, -, -⟩ := HI.out.q3
              cases r with
              | nil =>
                simp only [Fo.len] at hl1
                have hr' : r' = .nil := by
                  cases r' with
                  | nil => rfl
                  | cons _ _ _ _ _ _ _ => simp only [Fo.len] at hl2; omega
                subst hr'
                have HQ2 : Hid (q = true) := HQ.out.2 trivial
                have HB := hide HI.out.be
                have hlt' : ¬ (i : Int) < ks.len := by omega
                go_wp2_with fail
                go_ret
                exact ⟨by rw [HQ2.out]; rfl, HB.out⟩
              | cons k1 ix1 nm1 a1 c1 ks1 r =>
                cases r' with
                | nil => simp only [Fo.len] at hl1 hl2; omega
                | cons k2 ix2 nm2 a2 c2 ks2 r' =>
                  simp only [Fo.len] at hl1 hl2
                  have hlt' : (i : Int) < ks.len := by omega
                  have hsz := HI.out.s1
                  simp only [Fo.size] at hsz
                  obtain ⟨b, o, rfl, hb, -, -, -, u0, ui, u1, u2, h4, h5, h6, h7⟩ := HI.out.r1 (by simp [Fo.len])
                  obtain ⟨b', o', rfl, hb', -, -, -, v0, vi, v1, v2, g4, g5, g6, g7⟩ := HI.out.r2 (by simp [Fo.len])
                  have hzr := HI.out.be.size
                  obtain ⟨qk, hqk⟩ : ∃ qk : Bool, qk = true ↔ (Fo.cons k1 ix1 nm1 a1 c1 ks1 .nil).sim (.cons k2 ix2 nm2 a2 c2 ks2 .nil) := by
                    by_cases h : (Fo.cons k1 ix1 nm1 a1 c1 ks1 .nil).sim (.cons k2 ix2 nm2 a2 c2 ks2 .nil)
                    · exact ⟨true, by simp [h]⟩
                    · exact ⟨false, by simp [h]⟩
                  have s1 : ks1.Sl wr (fun b => b < n0) a1 c1 := ⟨h4, h5, h6⟩
                  have s2 : ks2.Sl wr (fun b => b < n0) a2 c2 := ⟨g4, g5, g6⟩
                  have HC : Hid (∀ V, Kept (fun _ => True) wr V → Calls Try.prog 17 #[.agg #[.int .i64 k1, .int .i64 ix1, .string nm1, .slice a1 ks1.len c1], .agg #[.int .i64 k2, .int .i64 ix2, .string nm2, .slice a2 ks2.len c2]] V fun e w' => e = .returned (.bool qk) ∧ Kept (fun _ => True) wr w') := fun V kV => by
                    have h := HIH.out ks1 (by omega) k1 ix1 nm1 a1 c1 k2 ix2 nm2 a2 c2 ks2 n0 V qk (by have := kV.size; omega) (s1.kept kV (fun b x => ⟨trivial, by omega⟩)) (s2.kept kV (fun b x => ⟨trivial, by omega⟩)) hqk
                    exact h.mono (fun e w' h => ⟨h.1, kV.trans (Kept.of_below h.2 (fun c hc _ => hc))⟩)
                  have HSQ : Hid (∀ V, Kept (fun _ => True) wr V → V.cell? ⟨W.heap.size, 3, none⟩ = some (.slice (some ⟨b, o, none⟩) ks.len cap) ∧ V.cell? ⟨W.heap.size + 1, 3, none⟩ = some (.slice (some ⟨b', o', none⟩) ks.len cap') ∧
                      V.cell? ⟨b, o + i * 4, none⟩ = some (.int .i64 k1) ∧ V.cell? ⟨b, o + i * 4 + 1, none⟩ = some (.int .i64 ix1) ∧ V.cell? ⟨b, o + i * 4 + 2, none⟩ = some (.string nm1) ∧ V.cell? ⟨b, o + i * 4 + 3, none⟩ = some (.slice a1 ks1.len c1) ∧
                      V.cell? ⟨b', o' + i * 4, none⟩ = some (.int .i64 k2) ∧ V.cell? ⟨b', o' + i * 4 + 1, none⟩ = some (.int .i64 ix2) ∧ V.cell? ⟨b', o' + i * 4 + 2, none⟩ = some (.string nm2) ∧ V.cell? ⟨b', o' + i * 4 + 3, none⟩ = some (.slice a2 ks2.len c2)) := fun V kV => by
                    have hc : ∀ (c j : Nat), c < n0 → V.cell? ⟨c, j, none⟩ = wr.cell? ⟨c, j, none⟩ := fun c j hc => kV.cell (p := ⟨c, j, none⟩) (by show c < _; omega) trivial
                    exact ⟨(HI.out.q2.kept kV trivial).c2, (HI.out.q3.kept kV trivial).c2, (hc _ _ hb).trans u0, (hc _ _ hb).trans ui, (hc _ _ hb).trans u1, (hc _ _ hb).trans u2, (hc _ _ hb').trans v0, (hc _ _ hb').trans vi, (hc _ _ hb').trans v1, (hc _ _ hb').trans v2⟩
                  have HFN : Hid (∀ wx, Kept (fun _ => True) wr wx → SbI W wx k ix nm (some ⟨b, o, none⟩) cap ks (some ⟨b', o', none⟩) cap' n0 (i + 1) r r') := fun wx kx => by
                    have e : o + (i + 1) * 4 = o + i * 4 + 4 := by omega
                    have e' : o' + (i + 1) * 4 = o' + i * 4 + 4 := by omega
                    refine ⟨by omega, by omega, by omega, HI.out.q2.kept kx trivial, HI.out.q3.kept kx trivial, Below.kept HI.out.be kx (fun _ _ => trivial) (Nat.le_refl _), fun _ => ⟨b, o, rfl, hb, ?_⟩, fun _ => ⟨b', o', rfl, hb', ?_⟩⟩
                    · rw [e]
                      exact h7.keep (fun _ x => x) (fun p hp v hv => (kx.cell (p := p) (by have : p.block < n0 := hp; omega) trivial).trans hv) (fun j _ _ v hv => (kx.cell (p := ⟨b, j, none⟩) (by show b < _; omega) trivial).trans hv)
                    · rw [e']
                      exact g7.keep (fun _ x => x) (fun p hp v hv => (kx.cell (p := p) (by have : p.block < n0 := hp; omega) trivial).trans hv) (fun j _ _ v hv => (kx.cell (p := ⟨b', j, none⟩) (by show b' < _; omega) trivial).trans hv)
                  have HQS : Hid (q = true ↔ (qk = true ∧ r.sim r')) := by
                    unfold Hid
                    rw [HQ.out, hqk, sim_cons, sim_cons]
                    simp [Fo.sim, and_assoc]
                  have HBW := hide HI.out.be
                  have k0' := HSQ.out wr.drew (Kept.drew _ _)
                  have HKD : Hid (Kept (fun _ => True) wr wr.drew) := Kept.drew _ _
                  clear h4 h5 h6 h7 g4 g5 g6 g7 s1 s2 hqk HQ
                  go_upto_region 6 with fail
                  go_cut [52] (fun s52 wx => s52 = .bool (!qk) ∧ Kept (fun _ => True) wr wx)
                  case first =>
                    go_region_held3 (fun V => V.cell? ⟨W.heap.size, 3, none⟩ = some (.slice (some ⟨b, o, none⟩) ks.len cap) ∧ V.cell? ⟨W.heap.size + 1, 3, none⟩ = some (.slice (some ⟨b', o', none⟩) ks.len cap') ∧
                      V.cell? ⟨b, o + i * 4, none⟩ = some (.int .i64 k1) ∧ V.cell? ⟨b, o + i * 4 + 1, none⟩ = some (.int .i64 ix1) ∧ V.cell? ⟨b, o + i * 4 + 2, none⟩ = some (.string nm1) ∧ V.cell? ⟨b, o + i * 4 + 3, none⟩ = some (.slice a1 ks1.len c1) ∧
                      V.cell? ⟨b', o' + i * 4, none⟩ = some (.int .i64 k2) ∧ V.cell? ⟨b', o' + i * 4 + 1, none⟩ = some (.int .i64 ix2) ∧ V.cell? ⟨b', o' + i * 4 + 2, none⟩ = some (.string nm2) ∧ V.cell? ⟨b', o' + i * 4 + 3, none⟩ = some (.slice a2 ks2.len c2))
                      (first | with_reducible exact k9' | with_reducible exact k0')
                      (first
                        | (go_at_call 17; refine (HC.out _ HKD.out).mono ?_; rintro e w9x ⟨rfl, b9x⟩; have k9' := HSQ.out w9x b9x))
                    all_goals
                      go_wp2_with fail
                      go_meet
                      case rel => exact ⟨by simp, b9x⟩
                  case rest =>
                    obtain ⟨rfl, hcb⟩ := hcut
                    rename World => wx
                    have HF := hide (HFN.out wx hcb)
                    have HBx := hide (Below.kept HBW.out hcb (fun _ _ => trivial) (Nat.le_refl _))
                    clear hcb k0' HC HSQ
                    cases qk with
                    | true =>
                      have HQ3 : Hid (q = true ↔ r.sim r') := by unfold Hid; rw [HQS.out]; simp
                      go_wp2_with fail
                      go_roundw
                      case rel => exact ⟨i + 1, r, r', by go_num, by omega, HF, HQ3⟩
                      case measure => simp [intOf]; omega
                    | false =>
                      have HQ3 : Hid (q = false) := by
                        cases hqq : q
                        · rfl
                        · exact absurd (HQS.out.1 hqq).1 (by simp)
                      go_wp2_with fail
                      go_ret
                      exact ⟨by rw [HQ3.out]; rfl, HBx.out⟩
          · obtain rfl : q = false := by
              cases q
              · rfl
              · exact absurd (hq.1 rfl).2.2.2.1.len h4
            have hb : ((ks.len : Int) != (ks'.len : Int)) = true := by simp; omega
            clear ih hs hs' hq
            go_enter Try.func17, Try.ntmps17
            go_wp2_with fail
            go_ret
            exact ⟨rfl, below_alloc2 _ _ _⟩
        · obtain rfl : q = false := by
            cases q
            · rfl
            · exact absurd (hq.1 rfl).2.2.1 h3
          subst h1 h2
          have hb := U.list_ne h3
          clear ih hs hs' hq
          go_enter Try.func17, Try.ntmps17
          go_wp2_with fail
          go_ret
          exact ⟨rfl, below_alloc2 _ _ _⟩
      · obtain rfl : q = false := by
          cases q
          · rfl
          · exact absurd (hq.1 rfl).2.1 h2
        subst h1
        have hb : (ix != ix') = true := by simpa using h2
        clear ih hs hs' hq
        go_enter Try.func17, Try.ntmps17
        go_wp2_with fail
        go_ret
        exact ⟨rfl, below_alloc2 _ _ _⟩
    · obtain rfl : q = false := by
        cases q
        · rfl
        · exact absurd (hq.1 rfl).1 h1
      have hb : (k != k') = true := by simpa using h1
      clear ih hs hs' hq
      go_enter Try.func17, Try.ntmps17
      go_wp2_with fail
      go_ret
      exact ⟨rfl, below_alloc2 _ _ _⟩

end Go.Proofs.Ytanjgmmkodlffaa
