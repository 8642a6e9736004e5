import Derived.Test.YtmnligaelihmiaaMc
import Derived.Test.YtmnligaelihmiaaMe
namespace Go.Proofs.Ytmnligaelihmiaa
open Go.RowKit Go.Joins
theorem Gr.LO.popF {e : List (List Int)} {i z : Nat} {row : Nat → Bool} {L : List Nat} (h : Gr.LO e i row (z :: L)) : Gr.LI e i row L z 0 :=
  Gr.LO.pop ⟨h.md, fun x hx => h.ls x (by simpa [or_comm] using hx), fun x hx hn y hy => h.cl x hx (by simpa [and_comm] using hn) y hy⟩
set_option maxHeartbeats 4000000 in
set_option maxRecDepth 100000 in
theorem lw_leads {e : List (List Int)} {ea : Option Addr} {ec n0 a : Nat} {W : World} (hn : e.length ≤ 1048576) (hr : ∀ (x : Nat) (r : List Int), e[x]? = some r → r.length ≤ 1048576) (he : EM e n0 ea W) (h0 : n0 ≤ W.heap.size) (ha : a < e.length) :
    Calls Try.prog 7 #[.slice ea e.length ec, .int .i64 (a : Int)] W fun r W' => ∃ v, r = .returned v ∧ Hid (∃ R row, v = .slice (some ⟨R, 0, none⟩) e.length e.length ∧ W.heap.size ≤ R ∧ FB W' R e.length row ∧ (∀ y, row y = true ↔ Gr.Ld e a y) ∧ Kept (fun c => c < W.heap.size) W W') := by
  obtain ⟨n, hnn⟩ : ∃ n, n = e.length := ⟨_, rfl⟩
  have hmk := run_make_bools n (by omega)
  have HN := hide hnn
  have HR := hide hr
  have HNB := hide hn
  have HE := hide (And.intro he h0)
  have HAN := hide ha
  have hnI : (n : Int) ≤ 1048576 := by omega
  rw [← hnn]
  clear hnn hr he h0 hn ha
  go_enter Try.func7, Try.ntmps7
  go_wp2_with fail
  obtain ⟨V1, hV1⟩ : ∃ V1, (W.alloc (.cells (madeCells #[.bool false] n) 4)).alloc (.cells #[.int .i64 (a : Int)] 3) = V1 := ⟨_, rfl⟩
  rw [hV1]
  obtain ⟨R, hR⟩ : ∃ R, R = W.heap.size := ⟨_, rfl⟩
  rw [← hR]
  have hA : ∃ A1, W.alloc (.cells (madeCells #[.bool false] n) 4) = A1 ∧ A1.alloc (.cells #[.int .i64 (a : Int)] 3) = V1 := ⟨_, rfl, hV1⟩
  obtain ⟨A1, hA1, hA2⟩ := hA
  have z1 : A1.heap.size = R + 1 := by rw [← hA1, hR]; simp
  have kA : Kept (fun _ => True) W A1 := by rw [← hA1]; exact Kept.alloc _ _ _
  have kB : Kept (fun _ => True) A1 V1 := by rw [← hA2]; exact Kept.alloc _ _ _
  have hfb : FB V1 R e.length (fun _ => false) := by
    have : FB A1 R e.length (fun _ => false) := by rw [← hA1, hR, ← HN.out]; exact FB.made (heap_new _ _)
    exact this.kept kB trivial
  have hls : IR 0 V1 (.slice (some ⟨R + 1, 0, none⟩) 1 1) [a] := by
    refine ⟨rfl, .inr ⟨R + 1, 1, #[.int .i64 (a : Int)], rfl, Nat.zero_le _, ?_, by simp, by simp [maxLen], rfl, rfl⟩⟩
    rw [← hA2, ← z1]; exact heap_new _ _
  have HFB := hide hfb
  have HLS := hide hls
  have HKV : Hid (Kept (fun c => c < R) W V1) := (kA.trans kB).mono (fun _ _ _ => trivial)
  have HLO : Hid (Gr.LO e a (fun _ => false) [a]) := Gr.LO.start HAN.out
  have HE1 : Hid (EM e n0 ea V1 ∧ n0 ≤ R) := ⟨HE.out.1.kept (kA.trans kB) (fun _ _ => trivial) HE.out.2, by rw [hR]; exact HE.out.2⟩
  have HRW := hide hR
  have HRV : Hid (R + 1 < V1.heap.size) := by unfold Hid; rw [← hA2]; simp [z1]
  clear hV1 hA1 hA2 z1 kA kB hfb hls hmk hR
  go_loopg [6, 7, 8, 9] (2 * Gr.uns e.length (fun _ => false) + 1) (fun g s6 s7 s8 s9 wr => ∃ (L : List Nat) (i : Nat) (row : Nat → Bool), s7 = .int .i64 (i : Int) ∧ (∃ v, s8 = v) ∧ (∃ v, s9 = v) ∧ i ≤ L.length ∧ Hid (g + i = 2 * Gr.uns e.length row + L.length) ∧ Hid (2 * Gr.uns e.length row + L.length ≤ 2 * n + 1) ∧ Hid (IR 0 wr s6 L) ∧ Hid (∀ c, s6.ownBlock = some c → R < c) ∧ Hid (FB wr R e.length row) ∧ Hid (Gr.LO e a row (L.drop i)) ∧ Hid (Kept (fun c => c < R) V1 wr))
  case atStart =>
    refine ⟨[a], 0, fun _ => false, rfl, ⟨_, rfl⟩, ⟨_, rfl⟩, Nat.zero_le _, rfl, ?_, HLS.out, fun c hc => ?_, HFB.out, HLO.out, Kept.refl _ _⟩
    · have := Gr.uns_le e.length (fun _ => false); have := HN.out; unfold Hid; simp; omega
    · have : R + 1 = c := by simpa [Value.ownBlock] using hc
      omega
  case round =>
    obtain ⟨L, i, row, rfl, ⟨v8, rfl⟩, ⟨v9, rfl⟩, hiL, hg, hb, hls, hown, hfb, hlo, hkk⟩ := hrel
    obtain ⟨la, lc, rfl, q1, q2, q3⟩ := hls.out.shape
    obtain ⟨N, hNN⟩ : ∃ N, N = L.length := ⟨_, rfl⟩
    rw [← hNN] at hls hown ⊢
    have HIL := hide hiL
    by_cases hin : i < N
    · have hii : (i : Int) < (N : Int) := by omega
      have hNlc : (N : Int) ≤ (lc : Int) := by omega
      have hlcm : (lc : Int) ≤ 9223372036854775807 := by unfold maxLen at q2; omega
      have hNs : (N : Int) ≤ 3145729 := by have := hb.out; have := HNB.out; have := HN.out; omega
      obtain ⟨z, hz⟩ : ∃ z, L[i]? = some z := ⟨_, List.getElem?_eq_getElem (by omega)⟩
      have hdr : L.drop i = z :: L.drop (i + 1) := by
        obtain ⟨hi2, hz2⟩ := List.getElem?_eq_some_iff.1 hz
        rw [← hz2, List.getElem_cons_drop]
      have hlo2 := hlo.out
      rw [hdr] at hlo2
      have hzn := hlo2.ls z (by simp)
      obtain ⟨r, hrz⟩ : ∃ r, e[z]? = some r := ⟨_, List.getElem?_eq_getElem hzn.1⟩
      have hrl := HR.out z r hrz
      obtain ⟨eb, eo, ax, cx, he1, he2, he3, he4⟩ := HE1.out.1 z r hrz
      obtain ⟨rl, hrl2⟩ : ∃ rl, rl = r.length := ⟨_, rfl⟩
      rw [← hrl2] at he3 hrl
      have he2b : eb < R := by have := HE1.out.2; omega
      have hzi : (z : Int) < (n : Int) := by have := HN.out; omega
      have HEA := hide he1
      have HCE : Hid (∀ wz, Kept (fun c => c < R) V1 wz → wz.cell? ⟨eb, eo + z, none⟩ = some (.slice ax rl cx)) := fun wz kz => (kz.cell (p := ⟨eb, eo + z, none⟩) (block_lt_of_cell he3) he2b).trans he3
      have HE4 : Hid (∀ j v, r[j]? = some v → ∃ bb oo, ax = some ⟨bb, oo, none⟩ ∧ ∀ wz, Kept (fun c => c < R) V1 wz → wz.cell? ⟨bb, oo + j, none⟩ = some (.int .i64 v)) := fun j v hv => by
        obtain ⟨bb, oo, e1, e2, e3⟩ := he4 j v hv
        exact ⟨bb, oo, e1, fun wz kz => (kz.cell (p := ⟨bb, oo + j, none⟩) (block_lt_of_cell e3) (by have := HE1.out.2; show bb < R; omega)).trans e3⟩
      have HRL2 := hide hrl2
      have HRZ := hide hrz
      have HZN := hide hzn
      have HLI : Hid (Gr.LI e a row (L.drop (i + 1)) z 0) := hlo2.popF
      have HZI := hide hz
      have HOWN := hide hown.out
      have HFB2 := hide hfb.out
      have HKK := hide hkk.out
      have HLS2 := hide hls.out
      have HIN := hide hin
      have HGK : Hid (gk + i = 2 * Gr.uns e.length row + L.length ∧ 2 * Gr.uns e.length row + L.length ≤ 2 * n + 1) := ⟨hg.out, hb.out⟩
      have HNL := hide hNN
      subst he1
      have hrlI : (rl : Int) ≤ 1048576 := by omega
      have hrl0 : (0 : Int) ≤ (rl : Int) := by omega
      have HRLB : Hid (rl ≤ 1048576) := hrl
      clear hls hown hfb hlo hkk hg hb q1 q2 q3 hNN hzn hrz hrl2 he2 he3 he4 he2b hlo2 hdr hrl
      go_wp2_with fail
      go_loopg [6, 8, 9] (rl - 0) (fun g s6 s8 s9 wr => ∃ (L2 : List Nat) (row2 : Nat → Bool) (k : Nat), s8 = .int .i64 (k : Int) ∧ (∃ v, s9 = v) ∧ k ≤ rl ∧ Hid (g = rl - k) ∧ Hid (2 * Gr.uns e.length row2 + L2.length ≤ gk + i) ∧ Hid (L2[i]? = some z) ∧ Hid (IR 0 wr s6 L2) ∧ Hid (∀ c, s6.ownBlock = some c → R < c) ∧ Hid (FB wr R e.length row2) ∧ Hid (Gr.LI e a row2 (L2.drop (i + 1)) z k) ∧ Hid (Kept (fun c => c < R) V1 wr))
      case atStart => exact ⟨L, row, 0, rfl, ⟨_, rfl⟩, Nat.zero_le _, rfl, by have := HGK.out.1; unfold Hid; omega, HZI.out, HLS2.out, HOWN.out, HFB2.out, HLI.out, HKK.out⟩
      case round =>
      obtain ⟨L2, row2, k, rfl, ⟨v9, rfl⟩, hkr, hg2, hs2, hz2, hi2, how2, hf2, hl2, hk2⟩ := hrel
      have ce := HCE.out wr hk2.out
      have HKR0 := hide hkr
      obtain ⟨la2, lc2, rfl, q1, q2, q3⟩ := hi2.out.shape
      obtain ⟨hi9, -⟩ := List.getElem?_eq_some_iff.1 hz2.out
      obtain ⟨lb2, rfl, -, hlb2⟩ := q3.resolve_left (fun h => by rw [h] at hi9; simp at hi9)
      have cz := hi2.out.cell i hi9
      have hz0 : L2.getD i 0 = z := by rw [List.getD_eq_getElem?_getD, hz2.out]; rfl
      rw [hz0] at cz
      unfold iv at cz
      obtain ⟨N2, hN2⟩ : ∃ N2, N2 = L2.length := ⟨_, rfl⟩
      rw [← hN2] at hi9 q1 hi2 how2 ⊢
      have hi9i : (i : Int) < (N2 : Int) := by omega
      have hNlc2 : (N2 : Int) ≤ (lc2 : Int) := by omega
      have hlcm2 : (lc2 : Int) ≤ 9223372036854775807 := by unfold maxLen at q2; omega
      have HN2L := hide hN2
      clear q1 q2 q3 hlb2 hz0 hN2
      by_cases hkl : k < rl
      · have hkli : (k : Int) < (rl : Int) := by omega
        obtain ⟨v, hv1⟩ : ∃ v, r[k]? = some v := ⟨_, List.getElem?_eq_getElem (by rw [← HRL2.out]; exact hkl)⟩
        obtain ⟨bb, oo, rfl, cv0⟩ := HE4.out k v hv1
        have cv := cv0 wr hk2.out
        have HV := hide hv1
        have HG2 := hide hg2.out
        have HS2 := hide hs2.out
        have HZ2 := hide hz2.out
        have HI2 := hide hi2.out
        have HOW2 := hide how2.out
        have HF2 := hide hf2.out
        have HL2 := hide hl2.out
        have HK2 := hide hk2.out
        have HKR := hide hkl
        clear hv1 cv0 hg2 hs2 hi2 how2 hf2 hl2 hk2 hz2
        by_cases hv0 : 0 ≤ v ∧ v < (n : Int)
        · obtain ⟨y, rfl⟩ : ∃ y : Nat, v = (y : Int) := ⟨v.toNat, by omega⟩
          have hyn : y < n := by omega
          have hy0 : (0 : Int) ≤ (y : Int) := by omega
          have hyi : (y : Int) < (n : Int) := hv0.2
          obtain ⟨cr, crf⟩ := HF2.out y (by rw [← HN.out]; exact hyn)
          clear hv0
          cases hry : row2 y with
          | true =>
            rw [hry] at cr
            have HSK : Hid (Gr.LI e a row2 (L2.drop (i + 1)) z (k + 1)) := HL2.out.skip HRZ.out (fun w hw _ => by
              rw [HV.out] at hw
              have e1 : y = w := by have := Option.some.inj hw; omega
              rw [← e1]; exact hry)
            clear hry
            go_wp2_with fail
            go_roundg (rl - (k + 1))
            case measure => rw [HG2.out]; have h1 := HKR.out; omega
            case rel => exact ⟨L2, row2, k + 1, (by have h4 := HKR.out; have h5 := HRLB.out; go_num), ⟨_, rfl⟩, by have := HKR.out; omega, rfl, HS2.out, HZ2.out, HI2.out, HOW2.out, HF2.out, HSK.out, HK2.out⟩
          | false =>
            rw [hry] at cr
            have HYE : Hid (y < e.length ∧ row2 y = false) := ⟨by rw [← HN.out]; exact hyn, hry⟩
            obtain ⟨W5, hW5⟩ : ∃ W5, wr.setCell ⟨R, y, none⟩ (.bool true) = W5 := ⟨_, rfl⟩
            have k5 : Kept (fun c => c ≠ R) wr W5 := by rw [← hW5]; exact Kept.setCell _ _ _ _ (by simp)
            have hlr : lb2 ≠ R := by have := HOW2.out lb2 rfl; omega
            have i5 := HI2.out.kept k5 (fun c hc => by have := HOW2.out c hc; show c ≠ R; omega)
            have f5 : FB W5 R e.length (Gr.updB row2 y) := by rw [← hW5]; exact HF2.out.set true (fun j _ => rfl)
            obtain ⟨V2, hV2⟩ : ∃ V2, W5.alloc (.cells #[.int .i64 (y : Int)] 3) = V2 := ⟨_, rfl⟩
            have k2 : Kept (fun _ => True) W5 V2 := by rw [← hV2]; exact Kept.alloc _ _ _
            have HN2 : Hid (V2.heap[wr.heap.size]? = some (.cells #[.int .i64 (y : Int)] 3)) := by
              have hs : W5.heap.size = wr.heap.size := by rw [← hW5]; simp
              unfold Hid; rw [← hV2, ← hs]; exact heap_new _ _
            have HR2 : Hid (V2.ownsRow 0 3 1 (.slice (some ⟨lb2, 0, none⟩) N2 lc2) N2 (L2.map iv)) := by
              have h9 := ownsRow_kept (show W5.ownsRow 0 3 1 _ L2.length (L2.map iv) from i5) k2 (fun _ _ => trivial)
              rw [← HN2L.out] at h9
              exact h9
            have HM2 : Hid (N2 + 1 ≤ maxLen ∧ (N2 + 1) * 8 ≤ 140737488355328) := by have h1 := HS2.out; have h2 := HGK.out; have := HNB.out; have := HN.out; have := HN2L.out; unfold Hid maxLen; omega
            have HT4 : Hid (∀ b cap W6, V2.grownBy W6 (Value.slice (some ⟨lb2, 0, none⟩) N2 lc2).ownBlock → W6.ownsRow 0 3 1 (.slice (some ⟨b, 0, none⟩) (N2 + 1) cap) (N2 + 1) (L2.map iv ++ [.int .i64 (y : Int)]) → ((Value.slice (some ⟨lb2, 0, none⟩) N2 lc2).ownBlock = some b ∨ b = V2.heap.size) → IR 0 W6 (.slice (some ⟨b, 0, none⟩) (N2 + 1) cap) (L2 ++ [y]) ∧ (∀ c, (Value.slice (some ⟨b, 0, none⟩) (N2 + 1) cap).ownBlock = some c → R < c) ∧ FB W6 R e.length (Gr.updB row2 y) ∧ Kept (fun c => c < R) V1 W6) := by
              intro b cap W6 hG hO hat
              have k6 : Kept (fun c => lb2 ≠ c) W5 W6 := (k2.mono (fun _ _ _ => trivial)).trans (Kept.grown hG (fun k hk hn => hn (by simpa [Value.ownBlock] using hk)))
              refine ⟨?_, fun c hc => ?_, f5.kept k6 hlr, (HK2.out.trans (k5.mono (fun c _ h => by show c ≠ R; omega))).trans (k6.mono (fun c _ h => by have := HOW2.out lb2 rfl; show lb2 ≠ c; omega))⟩
              · unfold IR
                rw [List.map_append, List.length_append, ← HN2L.out]
                exact hO
              · have e2 : b = c := by simpa [Value.ownBlock] using hc
                rw [← e2]
                rcases hat with e3 | e3
                · exact HOW2.out b e3
                · have h1 := HRV.out; have h2 := HK2.out.size; have h3 := k5.size; have h4 := k2.size; omega
            have hdr2 : (L2 ++ [y]).drop (i + 1) = L2.drop (i + 1) ++ [y] := List.drop_append_of_le_length (by rw [← HN2L.out]; omega)
            have HPU : Hid (Gr.LI e a (Gr.updB row2 y) ((L2 ++ [y]).drop (i + 1)) z (k + 1)) := by rw [hdr2]; exact HL2.out.push HRZ.out HV.out HYE.out.1
            have HUN : Hid (2 * Gr.uns e.length (Gr.updB row2 y) + (L2 ++ [y]).length < 2 * Gr.uns e.length row2 + L2.length) := by
              have := Gr.uns_push HYE.out.1 HYE.out.2
              unfold Hid
              rw [List.length_append]
              simp
              omega
            have HZ3 : Hid ((L2 ++ [y])[i]? = some z) := by
              have := HZ2.out
              unfold Hid
              rw [List.getElem?_append_left (by rw [← HN2L.out]; exact hi9)]
              exact this
            have HV2 := hide hV2
            have HW5 := hide hW5
            clear hW5 k5 hlr i5 f5 hV2 k2 hry hdr2
            go_upto_region 8 with (at_builtin; rw [HW5.out, HV2.out]; refine ur_stepL rfl _ _ 26 3 rfl Try.info3 Try.underlying26 rfl (by decide) 0 V2 (.slice (some ⟨lb2, 0, none⟩) N2 lc2) N2 (L2.map iv) [.int .i64 (y : Int)] wr.heap.size 1 rfl rfl (Nat.zero_le _) HR2.out HN2.out rfl (by simp [Value.oneCell']) HM2.out.1 HM2.out.2 ?_; intro b cap W6 hO4 hG4 hat4; have Y := hide (HT4.out b cap W6 hG4 hO4 hat4); clear hO4 hG4 hat4)
            go_wp2_with fail
            go_roundg (rl - (k + 1))
            case measure => rw [HG2.out]; have h1 := HKR.out; omega
            case rel => exact ⟨L2 ++ [y], Gr.updB row2 y, k + 1, (by have h4 := HKR.out; have h5 := HRLB.out; go_num), ⟨_, rfl⟩, by have := HKR.out; omega, rfl, Nat.le_of_lt (Nat.lt_of_lt_of_le HUN.out HS2.out), HZ3.out, Y.out.1, Y.out.2.1, Y.out.2.2.1, HPU.out, Y.out.2.2.2⟩
        · have HSK : Hid (Gr.LI e a row2 (L2.drop (i + 1)) z (k + 1)) := HL2.out.skip HRZ.out (fun y hy hyn => by
            rw [HV.out] at hy
            have e1 : v = (y : Int) := Option.some.inj hy
            exact absurd ⟨by omega, by have := HN.out; omega⟩ hv0)
          by_cases hv1 : 0 ≤ v
          · have hv2 : ¬ v < (n : Int) := fun h => hv0 ⟨hv1, h⟩
            clear hv0
            go_wp2_with fail
            go_roundg (rl - (k + 1))
            case measure => rw [HG2.out]; have h1 := HKR.out; omega
            case rel => exact ⟨L2, row2, k + 1, (by have h4 := HKR.out; have h5 := HRLB.out; go_num), ⟨_, rfl⟩, by have := HKR.out; omega, rfl, HS2.out, HZ2.out, HI2.out, HOW2.out, HF2.out, HSK.out, HK2.out⟩
          · clear hv0
            go_wp2_with fail
            go_roundg (rl - (k + 1))
            case measure => rw [HG2.out]; have h1 := HKR.out; omega
            case rel => exact ⟨L2, row2, k + 1, (by have h4 := HKR.out; have h5 := HRLB.out; go_num), ⟨_, rfl⟩, by have := HKR.out; omega, rfl, HS2.out, HZ2.out, HI2.out, HOW2.out, HF2.out, HSK.out, HK2.out⟩
      · have hkli : ¬ (k : Int) < (rl : Int) := by omega
        have HLO2 : Hid (Gr.LO e a row2 (L2.drop (i + 1))) := hl2.out.done HRZ.out (by rw [← HRL2.out]; omega)
        have HS2 := hide hs2.out
        have HI2 := hide hi2.out
        have HOW2 := hide how2.out
        have HF2 := hide hf2.out
        have HK2 := hide hk2.out
        clear hg2 hs2 hi2 how2 hf2 hl2 hk2 hz2
        go_wp2_with fail
        go_roundg (2 * Gr.uns e.length row2 + L2.length - (i + 1))
        case measure => have h1 := HS2.out; have h2 := HN2L.out; have h3 := HGK.out.1; have h4 := HIN.out; have h5 := HNL.out; omega
        case rel => exact ⟨L2, i + 1, row2, (by go_num), ⟨_, rfl⟩, ⟨_, rfl⟩, by have := HN2L.out; omega, by have := HN2L.out; unfold Hid; omega, by have h1 := HS2.out; have h2 := HGK.out; unfold Hid; omega, HI2.out, HOW2.out, HF2.out, HLO2.out, HK2.out⟩
    · have hii : ¬ (i : Int) < (N : Int) := by omega
      have hL0 : L.drop i = [] := List.drop_eq_nil_of_le (by omega)
      have hlo2 := hlo.out
      rw [hL0] at hlo2
      have HF := hide hlo2.fin
      have HFB2 := hide hfb.out
      have HKK := hide hkk.out
      clear hls hown hfb hlo hkk hg hb q1 q2 q3 hNN hlo2 hL0
      go_wp2_with fail
      go_ret
      exact ⟨_, rfl, R, rfl, Nat.le_of_eq HRW.out.symm, row, by rw [HN.out]; exact HFB2.out, HF.out, (HKV.out.trans HKK.out).mono (fun c _ h => by have := HRW.out; omega)⟩
end Go.Proofs.Ytmnligaelihmiaa
