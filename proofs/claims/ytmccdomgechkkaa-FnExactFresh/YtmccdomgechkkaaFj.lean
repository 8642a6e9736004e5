import Derived.Test.YtmccdomgechkkaaFi
namespace Go.Proofs.Ytmccdomgechkkaa
open Go.RowKit Go.Joins

theorem LI.start : LI [⟨#[]⟩] [0] := by
  intro i n t h1 h2 _
  cases i with
  | zero => exact absurd (Option.some.inj h1).symm h2
  | succ i => simp at h1

/-- A new book with an empty set. -/
theorem FS.start {W W1 W2 : World} {b M s : Nat} {g1 g2 g3 : Option Nat} (nb : NB W1 W.heap.size b M g1 g2 g3 [⟨#[]⟩] [0]) (hb : Below W.heap.size W W1) (ns : NS W2 W.heap.size s none []) (hs : s = W1.heap.size) (k : Kept (fun c => c ≠ s) W1 W2) : FS W W2 b s [⟨#[]⟩] [] := by
  have hk : Kept (fun c => c < s) W1 W2 := k.mono (fun c _ h => by omega)
  refine ⟨M, g1, g2, g3, none, [0], [], ⟨nb.kept hk (fun c hc => by have := (nb.nx.lo c hc).2; omega), LI.start, ns, fun c hc hB => ?_, fun n => ⟨fun h => by simp at h, fun ⟨t, _, h⟩ => by simp at h⟩, fun t h => by simp at h, by simp⟩, below_own hb k (fun c hc => by have := Classical.not_not.1 hc; have := hb.size; omega)⟩
  rcases hc with e | e
  · have := (nb.nx.lo c hB).2
    omega
  · cases e

set_option maxHeartbeats 4000000 in
set_option maxRecDepth 100000 in
theorem i_Fresh (a : Option Addr) (c : Nat) (A : List ByteArray) (x : ByteArray) (W : World) (hs : SR W (fun b => b < W.heap.size) a c A) (hsz : ∀ t ∈ A, t.size ≤ 1048576) (hx : x.size ≤ 1048576) (hA : A.length ≤ 1048576) :
    Calls Try.prog 7 #[.string x, .slice a A.length c] W fun e W' => ∃ k, FrK A x k ∧ e = .returned (.string (pr x k)) ∧ Below W.heap.size W W' := by
  have HC := hide (i_book W)
  have HS := hide hs
  have HZ := hide hsz
  have HX := hide hx
  have HA := hide hA
  obtain ⟨n, hn⟩ : ∃ n, n = A.length := ⟨_, rfl⟩
  have HN := hide hn
  have hmx : n ≤ 1048576 := by omega
  rw [← hn]
  clear hs hsz hx hA hn
  go_enter Try.func7, Try.ntmps7
  go_upto_region 2 with (go_at_call 10; refine HC.out.mono ?_; rintro e W1 ⟨b, M, g1, g2, g3, rfl, nb, b1⟩)
  have NB1 := hide nb
  have B1 := hide b1
  clear nb b1
  obtain ⟨V1, hV1⟩ : ∃ V, W1.alloc (.cells #[.slice none 0 0, .int .i64 0, .int .i64 0] 33) = V := ⟨_, rfl⟩
  have HE := hide (i_empty (W := V1) (B0 := W.heap.size) (s := W1.heap.size) (by rw [← hV1]; exact Bx.new _ _ _) B1.out.size)
  have HV1 := hide hV1
  clear hV1
  go_upto_region 3 with fail
  rw [HV1.out]
  go_upto_region 4 with (go_at_call 11; refine HE.out.mono ?_; rintro e W2 ⟨⟨v2, rfl⟩, ns, k2⟩)
  have F2 : Hid (FS W W2 b W1.heap.size [⟨#[]⟩] []) := FS.start NB1.out B1.out ns rfl ((by rw [← HV1.out]; exact Kept.alloc _ _ _ : Kept (fun c => c ≠ W1.heap.size) W1 V1).trans k2)
  obtain ⟨s, hs⟩ : ∃ s, s = W1.heap.size := ⟨_, rfl⟩
  rw [← hs] at F2 ⊢
  clear ns k2 hs HE HC
  go_upto_region 5 with fail
  go_loopw [8, 14] (fun _ s13 wr => ∃ (i : Nat) (T : List ByteArray), s13 = .int .i64 (i : Int) ∧ i ≤ n ∧ Hid (FS W wr b s T (A.take i)) ∧ Hid (T.length ≤ i + 1)) (fun _ s13 _ => n - (intOf s13).toNat)
  case atStart => exact ⟨0, [⟨#[]⟩], rfl, Nat.zero_le _, F2, Nat.le_refl _⟩
  case round =>
    obtain ⟨i, T, rfl, hin, hf, hl⟩ := hrel
    by_cases hi : i < n
    · have hii : (i : Int) < (n : Int) := by omega
      have hil : i < A.length := by rw [← HN.out]; exact hi
      obtain ⟨y, hy⟩ : ∃ y, A[i]? = some y := ⟨_, List.getElem?_eq_getElem hil⟩
      obtain ⟨bb, o, rfl, hbb, hc⟩ := HS.out.at_ (List.length_pos_iff.1 (by omega))
      obtain ⟨M', g1', g2', g3', g', L', R', hj, hbw⟩ := hf.out
      have y0 : wr.cell? ⟨bb, o + i, none⟩ = some (.string y) := (hbw.cell (p := ⟨bb, o + i, none⟩) hbb).trans (hc i y hy)
      have hyz := HZ.out y (List.mem_of_getElem? hy)
      have hTl : T.length ≤ 16777216 := by have := hl.out; omega
      have HC1 := hide (hf.out.number y (by omega) hTl)
      have HTK : Hid (A.take (i + 1) = A.take i ++ [y]) := by
        unfold Hid
        rw [List.take_add_one, hy]
        rfl
      clear hc hy hil hj hbw hbb hyz hTl
      go_upto_region 7 with fail
      go_upto_region 8 with (first
        | (go_at_call 13; refine HC1.out.mono ?_; rintro e W3 ⟨j, T3, rfl, a3, p3, l3, f3⟩; have HC2 := hide (f3.add y j a3 (by have := hl.out; omega)); have L3 : Hid (T3.length ≤ i + 1 + 1) := (by have := hl.out; show T3.length ≤ _; omega); clear a3 p3 l3 f3)
        | (go_at_call 12; refine HC2.out.mono ?_; rintro e W4 ⟨⟨v4, rfl⟩, f4⟩; rw [← HTK.out] at f4; have F4 := hide f4; clear f4))
      go_wp2_with fail
      go_roundw
      case rel => exact ⟨i + 1, T3, by go_num, by omega, F4, L3⟩
      case measure => simp [intOf]; omega
    · have hii : ¬ (i : Int) < (n : Int) := by omega
      have F5 : Hid (FS W wr b s T A) := by
        have e : A.take i = A := List.take_of_length_le (by rw [← HN.out]; omega)
        have := hf.out
        rw [e] at this
        exact this
      go_upto_region 9 with fail
      have hxx := HX.out
      have hTT : T.length ≤ 1048577 := by have := hl.out; omega
      have HC3 := hide (F5.out.number x (by omega) (by omega))
      have hAA : A.length ≤ 1048576 := HA.out
      go_upto_region 10 with (first
        | (go_at_call 13; refine HC3.out.mono ?_; rintro e W3 ⟨j, T3, rfl, a3, p3, l3, f3⟩; have HC4 := hide (f3.fresh x j a3 hxx (by omega) hAA); clear a3 p3 l3 f3)
        | (go_at_call 14; refine HC4.out.mono ?_; rintro e W4 ⟨k, j4, T4, fk, rfl, a4, f4⟩))
      obtain ⟨M4, g14, g24, g34, g4, L4, R4, hj4, hb4⟩ := f4
      have hjl : j4 < T4.length := (List.getElem?_eq_some_iff.1 a4).1
      obtain ⟨q1, c1, e1, p1, pc1, -, -, -⟩ := hj4.nb.nx.r1.at_ (by rw [List.length_map]; omega)
      obtain ⟨n4, hn4⟩ : ∃ n, n = T4.length := ⟨_, rfl⟩
      rw [List.length_map, ← hn4] at p1
      have pt : W4.cell? ⟨q1, j4, none⟩ = some (.string (pr x k)) := pc1 j4 _ (by rw [List.getElem?_map, a4]; rfl)
      have hnl : (j4 : Int) < (n4 : Int) := by omega
      have hnl2 : j4 < n4 := by omega
      have HB4 := hide hb4
      have HFK := hide fk
      clear hj4 hb4 a4 hjl pc1 e1 hn4 fk HC3 HC4 hl hTT hxx hAA
      go_wp2_with fail
      go_ret
      exact ⟨k, HFK.out, rfl, HB4.out⟩

end Go.Proofs.Ytmccdomgechkkaa
