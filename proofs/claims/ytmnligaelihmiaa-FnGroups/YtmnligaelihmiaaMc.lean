import Derived.Test.YtmnligaelihmiaaMa
import Derived.Test.YtmnligaelihmiaaGy
namespace Go.Proofs.Ytmnligaelihmiaa
open Go.RowKit Go.Joins
theorem IR2.cell {w : World} {b n cap : Nat} {L : List Nat} (h : IR2 w (.slice (some ⟨b, 0, none⟩) n cap) L) (i : Nat) (hi : i < L.length) : n = L.length ∧ w.cell? ⟨b, i, none⟩ = some (iv (L.getD i 0)) := by
  have hn : n = L.length := by
    have hh : w.ownsRow 0 2 1 (.slice (some ⟨b, 0, none⟩) n cap) L.length (L.map iv) := h
    rcases hh.2 with ⟨h', _⟩ | ⟨g', cap', cur, h', -⟩
    · simp at h'
    · simp only [Value.slice.injEq] at h'
      exact h'.2.1
  subst hn
  refine ⟨rfl, ?_⟩
  rw [World.ownsRow.cellAt (show w.ownsRow 0 2 1 _ L.length (L.map iv) from h) i (by omega)]
  simp [hi]
theorem IR2.cut {w : World} {b N cap : Nat} {L : List Nat} {z : Nat} (h : IR2 w (.slice (some ⟨b, 0, none⟩) N cap) (L ++ [z])) : IR2 w (.slice (some ⟨b, 0, none⟩) L.length cap) L := by
  have hh : w.ownsRow 0 2 1 (.slice (some ⟨b, 0, none⟩) N cap) (L ++ [z]).length ((L ++ [z]).map iv) := h
  rcases hh.2 with ⟨h', _⟩ | ⟨g', cap', cur, h', hb, hg, hnc, hcm, hcs, ht⟩
  · simp at h'
  · simp only [Value.slice.injEq, Option.some.injEq, Addr.mk.injEq, and_true] at h'
    obtain ⟨⟨rfl, -⟩, e2, rfl⟩ := h'
    rw [List.length_append] at hnc ht
    refine ⟨by simp, .inr ⟨b, cap, cur, rfl, hb, hg, by simp at hnc; omega, hcm, hcs, ?_⟩⟩
    have h3 := congrArg (List.take L.length) ht
    rw [List.take_take, List.map_append, List.take_left' (by simp)] at h3
    rw [← h3]
    congr 1
    simp
theorem IR2.form {w : World} {v : Value} {L : List Nat} (h : IR2 w v L) : ∃ a cap, v = .slice a L.length cap ∧ L.length ≤ cap ∧ cap ≤ maxLen ∧ (L = [] ∨ ∃ b, a = some ⟨b, 0, none⟩ ∧ b < w.heap.size) := by
  have hh : w.ownsRow 0 2 1 v L.length (L.map iv) := h
  rcases hh.2 with ⟨rfl, h0⟩ | ⟨b, cap, cur, rfl, hb, hg, hnc, hcm, -⟩
  · exact ⟨none, 0, by rw [h0], by omega, by simp [maxLen], .inl (List.eq_nil_of_length_eq_zero h0)⟩
  · exact ⟨_, cap, rfl, hnc, hcm, .inr ⟨b, rfl, (Array.getElem?_eq_some_iff.1 hg).1⟩⟩
/-- The rows of what leads to what, as far as i. -/
def LR (e : List (List Int)) (n0 i : Nat) (ov : Value) (W : World) : Prop :=
  ∃ xs : List Value, W.ownsRow 0 28 1 ov i xs ∧ (∀ c, ov.ownBlock = some c → n0 ≤ c) ∧ ∀ x, x < i → ∃ rb, xs[x]? = some (.slice (some ⟨rb, 0, none⟩) e.length e.length) ∧ n0 ≤ rb ∧ rb < W.heap.size ∧ ov.ownBlock ≠ some rb ∧ ∃ row, FB W rb e.length row ∧ ∀ y, y < e.length → (row y = true ↔ Gr.Ld e x y)
theorem LR.kept {e : List (List Int)} {n0 i : Nat} {ov : Value} {W W' : World} (h : LR e n0 i ov W) (k : Kept (fun c => c < W.heap.size) W W') : LR e n0 i ov W' := by
  obtain ⟨xs, h1, h2, h3⟩ := h
  refine ⟨xs, ownsRow_kept h1 k (fun c hc => (World.ownsRow.lt h1 c hc).2), h2, fun x hx => ?_⟩
  obtain ⟨rb, a1, a2, a3, a4, row, a5, a6⟩ := h3 x hx
  exact ⟨rb, a1, a2, Nat.lt_of_lt_of_le a3 k.size, a4, row, a5.kept k a3, a6⟩
theorem LR.push {e : List (List Int)} {n0 i : Nat} {ov : Value} {W V W4 : World} {xs : List Value} (h1 : W.ownsRow 0 28 1 ov i xs) (h2 : ∀ c, ov.ownBlock = some c → n0 ≤ c) (h3 : ∀ x, x < i → ∃ rb, xs[x]? = some (.slice (some ⟨rb, 0, none⟩) e.length e.length) ∧ n0 ≤ rb ∧ rb < W.heap.size ∧ ov.ownBlock ≠ some rb ∧ ∃ row, FB W rb e.length row ∧ ∀ y, y < e.length → (row y = true ↔ Gr.Ld e x y)) {rb : Nat} {row : Nat → Bool} (hb : n0 ≤ rb ∧ rb < W.heap.size ∧ ov.ownBlock ≠ some rb) (hf : FB W rb e.length row) (hl : ∀ y, y < e.length → (row y = true ↔ Gr.Ld e i y)) (kV : Kept (fun _ => True) W V) {b cap : Nat} (hG : V.grownBy W4 ov.ownBlock) (hO : W4.ownsRow 0 28 1 (.slice (some ⟨b, 0, none⟩) (i + 1) cap) (i + 1) (xs ++ [.slice (some ⟨rb, 0, none⟩) e.length e.length])) (hat : ov.ownBlock = some b ∨ b = V.heap.size) :
    LR e n0 (i + 1) (.slice (some ⟨b, 0, none⟩) (i + 1) cap) W4 ∧ Kept (fun c => c < n0) W W4 := by
  have k4 : Kept (fun c => ov.ownBlock ≠ some c) W W4 := (kV.mono (fun _ _ _ => trivial)).trans (Kept.grown hG (fun k hk hn => hn hk))
  have hxl : xs.length = i := by have := h1.1; omega
  have nb : ∀ r, r < W.heap.size → ov.ownBlock ≠ some r → (Value.slice (some ⟨b, 0, none⟩) (i + 1) cap).ownBlock ≠ some r := fun r hr hn e1 => by
    have e2 : b = r := by simpa [Value.ownBlock] using e1
    rcases hat with e3 | e3
    · exact hn (by rw [e3, e2])
    · have := kV.size; omega
  refine ⟨⟨_, hO, fun c hc => ?_, fun x hx => ?_⟩, k4.mono (fun c _ h e1 => by have := h2 c e1; omega)⟩
  · have e2 : b = c := by simpa [Value.ownBlock] using hc
    rcases hat with e3 | e3
    · rw [← e2]; exact h2 b e3
    · have := kV.size; omega
  · by_cases e1 : x = i
    · subst e1
      exact ⟨rb, by rw [List.getElem?_append_right (by omega), hxl, Nat.sub_self]; rfl, hb.1, Nat.lt_of_lt_of_le hb.2.1 k4.size, nb rb hb.2.1 hb.2.2, row, hf.kept k4 hb.2.2, hl⟩
    · obtain ⟨r, a1, a2, a3, a4, rw', a5, a6⟩ := h3 x (by omega)
      exact ⟨r, by rw [List.getElem?_append_left (by omega)]; exact a1, a2, Nat.lt_of_lt_of_le a3 k4.size, nb r a3 a4, rw', a5.kept k4 a4, a6⟩
end Go.Proofs.Ytmnligaelihmiaa

namespace Go.Proofs.Ytmnligaelihmiaa
open Go.RowKit Go.Joins
theorem Try.info28 : (Try.prog.info? 28).map (fun i => (i.zero, i.size, i.bytes)) = some (some (.slice none 0 0), 1, 24) := by kernel_rfl
theorem list_last : ∀ {L : List Nat}, L ≠ [] → ∃ L' z, L = L' ++ [z]
  | [], h => absurd rfl h
  | [x], _ => ⟨[], x, rfl⟩
  | x :: y :: t, _ => by
    obtain ⟨L', z, h⟩ := list_last (L := y :: t) (by simp)
    exact ⟨x :: L', z, by rw [h]; rfl⟩
set_option maxHeartbeats 4000000 in
set_option maxRecDepth 100000 in
theorem m_leads {e : List (List Int)} {ea : Option Addr} {ec n0 : Nat} {W : World} (hn : e.length ≤ 1048576) (hr : ∀ (x : Nat) (r : List Int), e[x]? = some r → r.length ≤ 1048576) (he : EM e n0 ea W) (h0 : n0 ≤ W.heap.size) :
    Calls Try.prog 22 #[.slice ea e.length ec] W fun r W' => ∃ v, r = .returned v ∧ Hid (LR e W.heap.size e.length v W' ∧ Kept (fun c => c < W.heap.size) W W') := by
  obtain ⟨n, hnn⟩ : ∃ n, n = e.length := ⟨_, rfl⟩
  have hmk := run_make_bools n (by omega)
  have HN := hide hnn
  have HR := hide hr
  have HNB := hide hn
  have HE := hide (And.intro he h0)
  have hnI : (n : Int) ≤ 1048576 := by omega
  rw [← hnn]
  clear hnn hr he h0 hn
  go_enter Try.func22, Try.ntmps22
  go_upto_region 4 with fail
  have hst : LR e W.heap.size 0 (.slice (some ⟨W.heap.size, 0, none⟩) 0 0) (W.alloc (.cells #[] 28)) := ⟨[], ⟨rfl, .inr ⟨W.heap.size, 0, #[], rfl, Nat.zero_le _, heap_new _ _, Nat.le_refl _, by simp [maxLen], rfl, rfl⟩⟩, fun c hc => by
    have : W.heap.size = c := by simpa [Value.ownBlock] using hc
    omega, fun x hx => by omega⟩
  have HST := hide hst
  have HK0 : Hid (Kept (fun c => c < W.heap.size) W (W.alloc (.cells #[] 28))) := Kept.alloc _ _ _
  clear hst
  go_loopw [4, 5, 6, 7, 8, 9, 10] (fun s4 s5 s6 s7 s8 s9 s10 wr => ∃ (i : Nat), s5 = .int .i64 (i : Int) ∧ (∃ v, s6 = v) ∧ (∃ v, s7 = v) ∧ (∃ v, s8 = v) ∧ (∃ v, s9 = v) ∧ (∃ v, s10 = v) ∧ i ≤ n ∧ Hid (LR e W.heap.size i s4 wr) ∧ Hid (Kept (fun c => c < W.heap.size) W wr)) (fun _ s5 _ _ _ _ _ _ => n - (intOf s5).toNat)
  case atStart => exact ⟨0, rfl, ⟨_, rfl⟩, ⟨_, rfl⟩, ⟨_, rfl⟩, ⟨_, rfl⟩, ⟨_, rfl⟩, Nat.zero_le _, HST.out, HK0.out⟩
  case round =>
    obtain ⟨i, rfl, ⟨v6, rfl⟩, ⟨v7, rfl⟩, ⟨v8, rfl⟩, ⟨v9, rfl⟩, ⟨v10, rfl⟩, hi, hO1, hK1⟩ := hrel
    have HIN := hide hi
    by_cases hin : i < n
    · have hii : (i : Int) < (n : Int) := by omega
      go_upto_region 8 with fail
      obtain ⟨V1, hV1⟩ : ∃ V1, (wr.alloc (.cells (madeCells #[.bool false] n) 4)).alloc (.cells #[.int .i64 (i : Int)] 2) = V1 := ⟨_, rfl⟩
      rw [hV1]
      obtain ⟨R, hR⟩ : ∃ R, R = wr.heap.size := ⟨_, rfl⟩
      rw [← hR]
      have hA : ∃ A1, wr.alloc (.cells (madeCells #[.bool false] n) 4) = A1 ∧ A1.alloc (.cells #[.int .i64 (i : Int)] 2) = V1 := ⟨_, rfl, hV1⟩
      obtain ⟨A1, hA1, hA2⟩ := hA
      have z1 : A1.heap.size = R + 1 := by rw [← hA1, hR]; simp
      have kA : Kept (fun _ => True) wr A1 := by rw [← hA1]; exact Kept.alloc _ _ _
      have kB : Kept (fun _ => True) A1 V1 := by rw [← hA2]; exact Kept.alloc _ _ _
      have hfb : FB V1 R e.length (fun _ => false) := by
        have : FB A1 R e.length (fun _ => false) := by rw [← hA1, hR, ← HN.out]; exact FB.made (heap_new _ _)
        exact this.kept kB trivial
      have hls : IR2 V1 (.slice (some ⟨R + 1, 0, none⟩) 1 1) [i] := by
        refine ⟨rfl, .inr ⟨R + 1, 1, #[.int .i64 (i : Int)], rfl, Nat.zero_le _, ?_, by simp, by simp [maxLen], rfl, rfl⟩⟩
        rw [← hA2, ← z1]; exact heap_new _ _
      have HFB := hide hfb
      have HLS := hide hls
      have HKV : Hid (Kept (fun c => c < R) wr V1) := (kA.trans kB).mono (fun _ _ _ => trivial)
      have HO1 := hide hO1.out
      have HK1 := hide hK1.out
      have HRR := hide hR
      have HLO : Hid (Gr.LO e i (fun _ => false) [i]) := Gr.LO.start (by rw [← HN.out]; exact hin)
      have HE1 : Hid (EM e n0 ea V1 ∧ n0 ≤ R ∧ W.heap.size ≤ R) := ⟨HE.out.1.kept (HK1.out.trans (((kA.trans kB).mono (fun _ _ _ => trivial)) : Kept (fun c => c < W.heap.size) wr V1)) (fun c hc => Nat.lt_of_lt_of_le hc HE.out.2) HE.out.2, by rw [hR]; exact Nat.le_trans HE.out.2 HK1.out.size, by rw [hR]; exact HK1.out.size⟩
      have HKW : Hid (Kept (fun c => c < W.heap.size) W V1) := HK1.out.trans ((kA.trans kB).mono (fun _ _ _ => trivial))
      have HOV : Hid (LR e W.heap.size i u4 V1 ∧ u4.ownBlock ≠ some R) := by
        refine ⟨HO1.out.kept (by rw [← hR]; exact HKV.out), fun e1 => ?_⟩
        obtain ⟨xs, x1, -⟩ := HO1.out
        have := (World.ownsRow.lt x1 R e1).2
        omega
      have hRV : R + 1 < V1.heap.size := by rw [← hA2]; simp [z1]
      have HRV := hide hRV
      have hRl : u4.ownBlock ≠ some R := HOV.out.2
      have HOL : Hid (∀ c, u4.ownBlock = some c → c < R) := by
        obtain ⟨xs, x1, -⟩ := HO1.out
        intro c hc
        have := (World.ownsRow.lt x1 c hc).2
        omega
      have HLR : Hid (∀ wz, Kept (fun c => c < R) V1 wz → LR e W.heap.size i u4 wz) := fun wz kz => by
        have k9 : Kept (fun c => c < R) wr wz := HKV.out.trans kz
        rw [hR] at k9
        exact HO1.out.kept k9
      clear hRV hRl hV1 hA1 hA2 z1 kA kB hfb hls hO1 hK1 hR
      go_loopg [7, 8, 9, 10] (2 * Gr.uns e.length (fun _ => false) + 1) (fun g s7 s8 s9 s10 wr => ∃ (L : List Nat) (row : Nat → Bool), (∃ v, s8 = v) ∧ (∃ v, s9 = v) ∧ (∃ v, s10 = v) ∧ Hid (g = 2 * Gr.uns e.length row + L.length) ∧ Hid (2 * Gr.uns e.length row + L.length ≤ 2 * n + 1) ∧ Hid (IR2 wr s7 L) ∧ Hid (∀ c, s7.ownBlock = some c → R < c) ∧ Hid (FB wr R e.length row) ∧ Hid (Gr.LO e i row L) ∧ Hid (Kept (fun c => c < R) V1 wr))
      case atStart =>
        refine ⟨[i], fun _ => false, ⟨_, rfl⟩, ⟨_, rfl⟩, ⟨_, rfl⟩, rfl, ?_, HLS.out, fun c hc => ?_, HFB.out, HLO.out, Kept.refl _ _⟩
        · have := Gr.uns_le e.length (fun _ => false); have := HN.out; unfold Hid; simp; omega
        · have : R + 1 = c := by simpa [Value.ownBlock] using hc
          omega
      case round =>
        obtain ⟨L, row, ⟨v8, rfl⟩, ⟨v9, rfl⟩, ⟨v10, rfl⟩, hg, hb, hls, hown, hfb, hlo, hkk⟩ := hrel
        obtain ⟨la, lc, rfl, q1, q2, q3⟩ := hls.out.form
        obtain ⟨N, hNN⟩ : ∃ N, N = L.length := ⟨_, rfl⟩
        rw [← hNN]
        by_cases hN0 : N = 0
        · have z1 : ¬ (N : Int) > 0 := by omega
          have hL0 : L = [] := List.eq_nil_of_length_eq_zero (by omega)
          subst hL0
          have hfin := hlo.out.fin
          obtain ⟨xs, x1, x2, x3⟩ := HLR.out wr hkk.out
          obtain ⟨V2, hV2⟩ : ∃ V2, wr.alloc (.cells #[.slice (some ⟨R, 0, none⟩) n n] 28) = V2 := ⟨_, rfl⟩
          have k2 : Kept (fun _ => True) wr V2 := by rw [← hV2]; exact Kept.alloc _ _ _
          have HN2 : Hid (V2.heap[wr.heap.size]? = some (.cells #[.slice (some ⟨R, 0, none⟩) n n] 28)) := by unfold Hid; rw [← hV2]; exact heap_new _ _
          have HR2 : Hid (V2.ownsRow 0 28 1 u4 i xs) := ownsRow_kept x1 k2 (fun _ _ => trivial)
          have HM2 : Hid (i + 1 ≤ maxLen ∧ (i + 1) * 24 ≤ 140737488355328) := by have := HNB.out; have := HN.out; unfold Hid maxLen; omega
          have HT4 : Hid (∀ b cap W4, V2.grownBy W4 u4.ownBlock → W4.ownsRow 0 28 1 (.slice (some ⟨b, 0, none⟩) (i + 1) cap) (i + 1) (xs ++ [.slice (some ⟨R, 0, none⟩) n n]) → (u4.ownBlock = some b ∨ b = V2.heap.size) → LR e W.heap.size (i + 1) (.slice (some ⟨b, 0, none⟩) (i + 1) cap) W4 ∧ Kept (fun c => c < W.heap.size) W W4) := by
            intro b cap W4 hG hO hat
            rw [HN.out] at hO
            obtain ⟨p1, p2⟩ := LR.push (n0 := W.heap.size) x1 x2 x3 ⟨HE1.out.2.2, by have := hkk.out.size; have := HRV.out; omega, HOV.out.2⟩ hfb.out (fun y _ => hfin y) k2 hG hO hat
            exact ⟨p1, (HKW.out.trans (hkk.out.mono (fun c _ h => by have := HE1.out.2.2; omega))).trans p2⟩
          have HV2 := hide hV2
          clear hls hown hfb hlo hkk hg hb q1 q2 q3 hN0 hNN x1 x2 x3 k2 hV2 hfin
          go_upto_region 5 with (at_builtin; rw [HV2.out]; refine ur_stepL rfl _ _ 48 28 rfl Try.info28 Try.underlying48 rfl (by decide) 0 V2 u4 i xs [.slice (some ⟨R, 0, none⟩) n n] wr.heap.size 1 rfl rfl (Nat.zero_le _) HR2.out HN2.out rfl (by simp [Value.oneCell']) HM2.out.1 HM2.out.2 ?_; intro b cap W4 hO4 hG4 hat4; have Y := hide (HT4.out b cap W4 hG4 hO4 hat4); clear hO4 hG4 hat4)
          go_wp2_with fail
          go_roundw
          case rel => exact ⟨i + 1, (by have h4 := HIN.out; have h5 := HNB.out; have := HN.out; go_num), ⟨_, rfl⟩, ⟨_, rfl⟩, ⟨_, rfl⟩, ⟨_, rfl⟩, ⟨_, rfl⟩, hin, Y.out.1, Y.out.2⟩
          case measure => (have h4 := HIN.out; have h5 := HNB.out; have := HN.out; simp [intOf]; omega)
        · have z1 : (N : Int) > 0 := by omega
          obtain ⟨L', z, rfl⟩ : ∃ L' z, L = L' ++ [z] := list_last (fun e1 => by rw [e1] at hNN; simp at hNN; omega)
          obtain ⟨p, hp⟩ : ∃ p, p = L'.length := ⟨_, rfl⟩
          have hNp : N = p + 1 := by rw [hNN, hp]; simp
          obtain ⟨lb, rfl, hlb⟩ := q3.resolve_left (by simp)
          obtain ⟨-, cz⟩ := hls.out.cell p (by rw [← hNN]; omega)
          have hz0 : (L' ++ [z]).getD p 0 = z := by rw [hp]; simp [List.getD_eq_getElem?_getD]
          rw [hz0] at cz
          unfold iv at cz
          have hzn := hlo.out.ls z (by simp)
          obtain ⟨r, hrz⟩ : ∃ r, e[z]? = some r := ⟨_, List.getElem?_eq_getElem hzn.1⟩
          have hrl := HR.out z r hrz
          obtain ⟨eb, eo, ax, cx, he1, he2, he3, he4⟩ := HE1.out.1 z r hrz
          obtain ⟨rl, hrl2⟩ : ∃ rl, rl = r.length := ⟨_, rfl⟩
          rw [← hrl2] at he3 hrl
          have he2b : eb < R := by have := HE1.out.2.1; omega
          have ce := (hkk.out.cell (p := ⟨eb, eo + z, none⟩) (block_lt_of_cell he3) he2b).trans he3
          have hcut := hls.out.cut
          have hzi : (z : Int) < (n : Int) := by have := HN.out; omega
          have hki : (N : Int) - 1 = (p : Int) := by omega
          have hkN : (p : Int) < (N : Int) := by omega
          have hNlc : (N : Int) ≤ (lc : Int) := by omega
          have hlcm : (lc : Int) ≤ 9223372036854775807 := by unfold maxLen at q2; omega
          rw [← hp] at hcut
          have HEA := hide he1
          have HCE : Hid (∀ wz, Kept (fun c => c < R) V1 wz → wz.cell? ⟨eb, eo + z, none⟩ = some (.slice ax rl cx)) := fun wz kz => (kz.cell (p := ⟨eb, eo + z, none⟩) (block_lt_of_cell he3) he2b).trans he3
          have HE4 : Hid (∀ j v, r[j]? = some v → ∃ bb oo, ax = some ⟨bb, oo, none⟩ ∧ ∀ wz, Kept (fun c => c < R) V1 wz → wz.cell? ⟨bb, oo + j, none⟩ = some (.int .i64 v)) := fun j v hv => by
            obtain ⟨bb, oo, e1, e2, e3⟩ := he4 j v hv
            exact ⟨bb, oo, e1, fun wz kz => (kz.cell (p := ⟨bb, oo + j, none⟩) (block_lt_of_cell e3) (by have := HE1.out.2.1; show bb < R; omega)).trans e3⟩
          have HRL2 := hide hrl2
          have HRZ := hide hrz
          have HZN := hide hzn
          have HLI : Hid (Gr.LI e i row L' z 0) := hlo.out.pop
          have HCUT := hide hcut
          have HOWN : Hid (∀ c, (Value.slice (some ⟨lb, 0, none⟩) p lc).ownBlock = some c → R < c) := hown.out
          have HFB2 := hide hfb.out
          have HKK := hide hkk.out
          have HGK : Hid (2 * Gr.uns e.length row + p < gk ∧ gk ≤ 2 * n + 1) := by
            have h1 := hg.out; have h2 := hb.out
            rw [List.length_append, ← hp] at h1 h2
            unfold Hid
            simp at h1 h2
            omega
          have HPL2 := hide hp
          subst he1
          clear hls hown hfb hlo hkk hg hb q1 q2 q3 hN0 hNN hNp hz0 hzn hrz hrl2 he2 he3 he4 hcut hp he2b hlb
          go_upto_region 12 with fail
          have HRLB : Hid (rl ≤ 1048576) := hrl
          have hrlI : (rl : Int) ≤ 1048576 := by omega
          clear cz ce hki hkN hNlc hlcm z1 hmk
          go_loopg [7, 9, 10] (rl - 0) (fun g s7 s9 s10 wr => ∃ (L : List Nat) (row2 : Nat → Bool) (k : Nat), s9 = .int .i64 (k : Int) ∧ (∃ v, s10 = v) ∧ k ≤ rl ∧ Hid (g = rl - k) ∧ Hid (2 * Gr.uns e.length row2 + L.length < gk) ∧ Hid (IR2 wr s7 L) ∧ Hid (∀ c, s7.ownBlock = some c → R < c) ∧ Hid (FB wr R e.length row2) ∧ Hid (Gr.LI e i row2 L z k) ∧ Hid (Kept (fun c => c < R) V1 wr))
          case atStart => exact ⟨L', row, 0, rfl, ⟨_, rfl⟩, Nat.zero_le _, rfl, by rw [← HPL2.out]; exact HGK.out.1, HCUT.out, HOWN.out, HFB2.out, HLI.out, HKK.out⟩
          case round =>
          obtain ⟨L, row2, k, rfl, ⟨v10, rfl⟩, hkr, hg2, hs2, hi2, how2, hf2, hl2, hk2⟩ := hrel
          have ce := HCE.out wr hk2.out
          have HKR0 := hide hkr
          by_cases hkl : k < rl
          · have hkli : (k : Int) < (rl : Int) := by omega
            obtain ⟨v, hv1⟩ : ∃ v, r[k]? = some v := ⟨_, List.getElem?_eq_getElem (by rw [← HRL2.out]; exact hkl)⟩
            obtain ⟨bb, oo, rfl, cv0⟩ := HE4.out k v hv1
            have cv := cv0 wr hk2.out
            have HV := hide hv1
            have HG2 := hide hg2.out
            have HS2 := hide hs2.out
            have HI2 := hide hi2.out
            have HOW2 := hide how2.out
            have HF2 := hide hf2.out
            have HL2 := hide hl2.out
            have HK2 := hide hk2.out
            have HKR := hide hkl
            clear hv1 cv0 hg2 hs2 hi2 how2 hf2 hl2 hk2
            by_cases hv0 : 0 ≤ v ∧ v < (n : Int)
            · obtain ⟨y, rfl⟩ : ∃ y : Nat, v = (y : Int) := ⟨v.toNat, by omega⟩
              have hyn : y < n := by omega
              have hy0 : (0 : Int) ≤ (y : Int) := by omega
              have hyi : (y : Int) < (n : Int) := hv0.2
              obtain ⟨cr, crf⟩ := HF2.out y (by rw [← HN.out]; exact hyn)
              clear hv0
              cases hry : row2 y with
              | true =>
                rw [hry] at cr
                have HSK : Hid (Gr.LI e i row2 L z (k + 1)) := HL2.out.skip HRZ.out (fun w hw _ => by
                  rw [HV.out] at hw
                  have e1 : y = w := by have := Option.some.inj hw; omega
                  rw [← e1]; exact hry)
                clear hry
                go_wp2_with fail
                go_roundg (rl - (k + 1))
                case measure => rw [HG2.out]; have h1 := HKR.out; omega
                case rel => exact ⟨L, row2, k + 1, (by have h4 := HKR.out; have h5 := HRLB.out; go_num), ⟨_, rfl⟩, by have := HKR.out; omega, rfl, HS2.out, HI2.out, HOW2.out, HF2.out, HSK.out, HK2.out⟩
              | false =>
                rw [hry] at cr
                have HYE : Hid (y < e.length ∧ row2 y = false) := ⟨by rw [← HN.out]; exact hyn, hry⟩
                obtain ⟨W5, hW5⟩ : ∃ W5, wr.setCell ⟨R, y, none⟩ (.bool true) = W5 := ⟨_, rfl⟩
                have k5 : Kept (fun c => c ≠ R) wr W5 := by rw [← hW5]; exact Kept.setCell _ _ _ _ (by simp)
                have hOR : ∀ c, u7.ownBlock = some c → c ≠ R := fun c hc => by have := HOW2.out c hc; omega
                have i5 := HI2.out.kept k5 hOR
                have f5 : FB W5 R e.length (Gr.updB row2 y) := by rw [← hW5]; exact HF2.out.set true (fun j _ => rfl)
                obtain ⟨V2, hV2⟩ : ∃ V2, W5.alloc (.cells #[.int .i64 (y : Int)] 2) = V2 := ⟨_, rfl⟩
                have k2 : Kept (fun _ => True) W5 V2 := by rw [← hV2]; exact Kept.alloc _ _ _
                obtain ⟨q, hq⟩ : ∃ q, q = L.length := ⟨_, rfl⟩
                have HN2 : Hid (V2.heap[wr.heap.size]? = some (.cells #[.int .i64 (y : Int)] 2)) := by
                  have hs : W5.heap.size = wr.heap.size := by rw [← hW5]; simp
                  unfold Hid; rw [← hV2, ← hs]; exact heap_new _ _
                have HR2 : Hid (V2.ownsRow 0 2 1 u7 q (L.map iv)) := by rw [hq]; exact ownsRow_kept i5 k2 (fun _ _ => trivial)
                have HM2 : Hid (q + 1 ≤ maxLen ∧ (q + 1) * 8 ≤ 140737488355328) := by have h1 := HS2.out; have h2 := HGK.out.2; have := HNB.out; have := HN.out; unfold Hid maxLen; omega
                have HT4 : Hid (∀ b cap W6, V2.grownBy W6 u7.ownBlock → W6.ownsRow 0 2 1 (.slice (some ⟨b, 0, none⟩) (q + 1) cap) (q + 1) (L.map iv ++ [.int .i64 (y : Int)]) → (u7.ownBlock = some b ∨ b = V2.heap.size) → IR2 W6 (.slice (some ⟨b, 0, none⟩) (q + 1) cap) (L ++ [y]) ∧ (∀ c, (Value.slice (some ⟨b, 0, none⟩) (q + 1) cap).ownBlock = some c → R < c) ∧ FB W6 R e.length (Gr.updB row2 y) ∧ Kept (fun c => c < R) V1 W6) := by
                  intro b cap W6 hG hO hat
                  have k6 : Kept (fun c => u7.ownBlock ≠ some c) W5 W6 := (k2.mono (fun _ _ _ => trivial)).trans (Kept.grown hG (fun k hk hn => hn hk))
                  refine ⟨?_, fun c hc => ?_, f5.kept k6 (fun e1 => hOR R e1 rfl), (HK2.out.trans (k5.mono (fun c _ h => by omega))).trans (k6.mono (fun c _ h e1 => by have := HOW2.out c e1; omega))⟩
                  · unfold IR2
                    rw [List.map_append, List.length_append, ← hq]
                    exact hO
                  · have e2 : b = c := by simpa [Value.ownBlock] using hc
                    rw [← e2]
                    rcases hat with e3 | e3
                    · exact HOW2.out b e3
                    · have h1 := HRV.out; have h2 := HK2.out.size; have h3 := k5.size; have h4 := k2.size; omega
                have HPU : Hid (Gr.LI e i (Gr.updB row2 y) (L ++ [y]) z (k + 1)) := HL2.out.push HRZ.out HV.out HYE.out.1
                have HUN : Hid (2 * Gr.uns e.length (Gr.updB row2 y) + (L ++ [y]).length < 2 * Gr.uns e.length row2 + L.length) := by
                  have := Gr.uns_push HYE.out.1 HYE.out.2
                  unfold Hid
                  rw [List.length_append]
                  simp
                  omega
                have HV2 := hide hV2
                have HW5 := hide hW5
                clear hW5 k5 hOR i5 f5 hV2 k2 hq hry
                go_upto_region 13 with (at_builtin; rw [HW5.out, HV2.out]; refine ur_stepL rfl _ _ 27 2 rfl Try.info2 Try.underlying27 rfl (by decide) 0 V2 u7 q (L.map iv) [.int .i64 (y : Int)] wr.heap.size 1 rfl rfl (Nat.zero_le _) HR2.out HN2.out rfl (by simp [Value.oneCell']) HM2.out.1 HM2.out.2 ?_; intro b cap W6 hO4 hG4 hat4; have Y := hide (HT4.out b cap W6 hG4 hO4 hat4); clear hO4 hG4 hat4)
                go_wp2_with fail
                go_roundg (rl - (k + 1))
                case measure => rw [HG2.out]; have h1 := HKR.out; omega
                case rel => exact ⟨L ++ [y], Gr.updB row2 y, k + 1, (by have h4 := HKR.out; have h5 := HRLB.out; go_num), ⟨_, rfl⟩, by have := HKR.out; omega, rfl, Nat.lt_trans HUN.out HS2.out, Y.out.1, Y.out.2.1, Y.out.2.2.1, HPU.out, Y.out.2.2.2⟩
            · have HSK : Hid (Gr.LI e i row2 L z (k + 1)) := HL2.out.skip HRZ.out (fun y hy hyn => by
                rw [HV.out] at hy
                have e1 : v = (y : Int) := Option.some.inj hy
                exact absurd ⟨by omega, by have := HN.out; omega⟩ hv0)
              by_cases hv1 : 0 ≤ v
              · have hv2 : ¬ v < (n : Int) := fun h => hv0 ⟨hv1, h⟩
                clear hv0
                go_wp2_with fail
                go_roundg (rl - (k + 1))
                case measure => rw [HG2.out]; have h1 := HKR.out; omega
                case rel => exact ⟨L, row2, k + 1, (by have h4 := HKR.out; have h5 := HRLB.out; go_num), ⟨_, rfl⟩, by have := HKR.out; omega, rfl, HS2.out, HI2.out, HOW2.out, HF2.out, HSK.out, HK2.out⟩
              · clear hv0
                go_wp2_with fail
                go_roundg (rl - (k + 1))
                case measure => rw [HG2.out]; have h1 := HKR.out; omega
                case rel => exact ⟨L, row2, k + 1, (by have h4 := HKR.out; have h5 := HRLB.out; go_num), ⟨_, rfl⟩, by have := HKR.out; omega, rfl, HS2.out, HI2.out, HOW2.out, HF2.out, HSK.out, HK2.out⟩
          · have hkli : ¬ (k : Int) < (rl : Int) := by omega
            have HLO2 : Hid (Gr.LO e i row2 L) := hl2.out.done HRZ.out (by rw [← HRL2.out]; omega)
            have HS2 := hide hs2.out
            have HI2 := hide hi2.out
            have HOW2 := hide how2.out
            have HF2 := hide hf2.out
            have HK2 := hide hk2.out
            clear hg2 hs2 hi2 how2 hf2 hl2 hk2
            go_wp2_with fail
            go_roundg (2 * Gr.uns e.length row2 + L.length)
            case measure => exact HS2.out
            case rel => exact ⟨L, row2, ⟨_, rfl⟩, ⟨_, rfl⟩, ⟨_, rfl⟩, rfl, by have h1 := HS2.out; have h2 := HGK.out.2; unfold Hid; omega, HI2.out, HOW2.out, HF2.out, HLO2.out, HK2.out⟩
    · have hii : ¬ (i : Int) < (n : Int) := by omega
      have hin2 : i = n := by omega
      have HO1 : Hid (LR e W.heap.size n u4 wr) := hin2 ▸ hO1.out
      have HK1 := hide hK1.out
      clear hO1 hK1 hin2
      go_wp2_with fail
      go_ret
      exact ⟨_, rfl, HO1.out, HK1.out⟩
end Go.Proofs.Ytmnligaelihmiaa
