import Derived.Test.YtmccdomgechkkaaFl
import Derived.Test.YtmccdomgechkkaaUx
import Derived.Test.YtmccdomgechkkaaUw
import Derived.Test.YtmccdomgechkkaaKb
import Derived.Test.YtmccdomgechkkaaKTostring
import Derived.Test.YtmccdomgechkkaaKEqstring
import Derived.Deep.RegionHeld3
import Derived.Deep.DeepCutAuto
namespace Go.Proofs.Ytmccdomgechkkaa
open Go.RowKit Go.Joins

set_option maxHeartbeats 16000000 in
set_option maxRecDepth 100000 in
theorem lawFr (s0 : ByteArray) (a1 : Option Addr) (n1 c1 : Nat) (K1 : Fo) (W : World) (hf1 : Fit E (.s a1 n1 c1 K1 .nil) [.s 0]) (hs1 : Fo.Subs W (fun b => b < W.heap.size) (.s a1 n1 c1 K1 .nil)) :
    Calls Try.prog 3 #[.string s0, .slice a1 n1 c1] W fun e W' => e = .returned (.bool true) ∧ Below W.heap.size W W' := by
  obtain ⟨F1, hF1⟩ : ∃ F1 : Fo, F1 = .s a1 n1 c1 K1 .nil := ⟨_, rfl⟩
  rw [← hF1] at hf1 hs1
  have hv1 : F1.vals = [.slice a1 n1 c1] := by rw [hF1]; rfl
  have HMx1 : Hid (n1 ≤ 9223372036854775807) := by have h1 := hs1; rw [hF1] at h1; have h2 := h1.1.1; have h3 := h1.1.2.1; simp only [maxLen] at h3; unfold Hid; omega
  have HFi1 := hide hf1
  have HFin1 : Hid (∀ c ∈ F1.inn, c < W.heap.size) := hs1.inn_of
  have HS1 : Hid (∀ V (left : Int), F1.Subs V (fun c => c < V.heap.size) → 0 ≤ left → left ≤ 1048576 → Calls Try.prog 4 #[.slice a1 n1 c1, .int .i64 left] V fun e w' => e = .returned (.int .i64 (szV left F1.wt)) ∧ Below V.heap.size V w') := fun V left hV h0 h1 => szR_rec sz_R_StringS hF1 HFi1.out left h0 h1 V hV
  have HL0 : Hid (Law W [] [F1] [] W) := ((Law.start W).add hs1)
  show Calls Try.prog 3 #[.string s0, .slice a1 n1 c1] W _
  by_cases gp0 : (1048576 : Int) < ((s0.size : Nat) : Int)
  · have HB := hide HL0.out.be
    have hx1 := HMx1.out
    go_enter Try.func3, Try.ntmps3
    go_wp2_with fail
    go_ret
    exact ⟨rfl, HB.out⟩
  by_cases g9_1 : (1048576 : Int) < ((F1.wt : Nat) : Int)
  · have hend := szV_lt g9_1
    have hx1 := HMx1.out
    go_enter Try.func3, Try.ntmps3
    go_wp2_with fail
    refine (HS1.out W 1048576 (HL0.out.fo F1 mem_0) (by omega) (by omega)).mono ?_
    rintro e w1 ⟨rfl, b1⟩
    rw [hend]
    have HL2 : Hid (Law W [] [F1] [] w1) := HL0.out.below b1
    clear b1
    go_wp2_with fail
    go_ret
    exact ⟨rfl, HL2.out.be⟩
  obtain ⟨l1, hl1⟩ : ∃ l1 : Int, l1 = 1048576 - F1.wt := ⟨_, rfl⟩
  have he_1 : szV 1048576 F1.wt = l1 := by rw [szV_ge g9_1, hl1]
  have hge_1 : ¬ l1 < 0 := by omega
  have HLF1 : Hid (0 ≤ l1 ∧ l1 ≤ 1048576 ∧ F1.wt ≤ 1048576) := ⟨by omega, by omega, by omega⟩
  clear hl1 g9_1
  have hwt1 : F1.wt ≤ 1048576 := HLF1.out.2.2
  have ht0 : s0.size ≤ 1048576 := by omega
  obtain ⟨qq, hqq⟩ : ∃ qq : ByteArray, qq = frU s0 F1 := ⟨_, rfl⟩
  have HTo1 : Hid (∀ V, F1.Subs V (fun c => c < V.heap.size) → Calls Try.prog 6 #[.slice a1 n1 c1] V fun e w' => ∃ (d1 : Option Addr) (e1 : Nat) (G : Fo), e = .returned (.slice d1 n1 e1) ∧ Hid (G.vals = [.slice d1 n1 e1] ∧ G.sim F1 ∧ Own V.heap.size w' G) ∧ Hid (Below V.heap.size V w')) := fun V hV => by
    exact toR_rec to_R_StringS hF1 HFi1.out hwt1 V hV
  have HEa1 : Hid (∀ V (d1 : Option Addr) (e1 : Nat) (p1 : Option Addr) (q1 : Nat) (Q R : Fo), Hid (Q.vals = [.slice d1 n1 e1] ∧ Q.sim F1 ∧ Q.Subs V (fun c => c < V.heap.size)) → Hid (R.vals = [.slice p1 n1 q1] ∧ R.sim F1 ∧ R.Subs V (fun c => c < V.heap.size)) → Calls Try.prog 8 #[.slice d1 n1 e1, .slice p1 n1 q1] V fun e w' => e = .returned (.bool true) ∧ Hid (Below V.heap.size V w')) := fun V d1 e1 p1 q1 Q R h h2 => eqR_rec eq_R_StringS hF1 HFi1.out V d1 e1 p1 q1 Q R h h2
  have HMo : Hid (∀ V (d1 : Option Addr) (e1 : Nat) (G1 : Fo), Hid (G1.vals = [.slice d1 n1 e1] ∧ G1.sim F1 ∧ G1.Subs V (fun c => c < V.heap.size)) → Calls Try.prog 5 #[.string s0, .slice d1 n1 e1] V fun e w' => e = .returned (.string qq) ∧ Hid (Below V.heap.size V w')) := fun V d1 e1 G1 h1 => by
    obtain ⟨v1, s1', o1⟩ := h1.out
    have h := m_FR s0 G1 V d1 n1 e1 v1 (s1'.fit HFi1.out) ht0 (by rw [s1'.wt]; exact hwt1) o1
    refine h.mono ?_
    rintro e w' ⟨rfl, r2⟩
    exact ⟨by rw [hqq, frU_sim s0 HFi1.out s1'], r2⟩
  have HPr : Hid (∀ V (d1 : Option Addr) (e1 : Nat) (G1 : Fo) (lo1 : Nat), Hid (G1.vals = [.slice d1 n1 e1] ∧ G1.sim F1 ∧ Own lo1 V G1) → Calls Try.prog 7 #[.string s0, .slice d1 n1 e1] V fun e w' => e = .returned (.string qq) ∧ Hid (Below V.heap.size V w')) := fun V d1 e1 G1 lo1 h1 => by
    obtain ⟨v1, s1', o1⟩ := h1.out
    have h := i_FR s0 G1 V d1 n1 e1 v1 (s1'.fit HFi1.out) ht0 (by rw [s1'.wt]; exact hwt1) (o1.subs.mono (fun _ x => x.2))
    refine h.mono ?_
    rintro e w' ⟨rfl, r2⟩
    exact ⟨by rw [hqq, frU_sim s0 HFi1.out s1'], r2⟩
  have hx1 := HMx1.out
  clear hqq hv1 hf1 hs1 hwt1  hF1  ht0
  go_enter Try.func3, Try.ntmps3
  go_wp2_with fail
  refine (HS1.out W 1048576 (HL0.out.fo F1 mem_0) (by omega) (by omega)).mono ?_
  rintro e w3 ⟨rfl, b1⟩
  rw [he_1]
  have HL4 : Hid (Law W [] [F1] [] w3) := HL0.out.below b1
  clear b1 HL0 HS1 he_1
  go_wp2_with fail
  refine (HTo1.out w3 (HL4.out.fo F1 mem_0)).mono ?_
  rintro e w5 ⟨md1, me1, Gm1, rfl, g1, b2⟩
  have HL6 : Hid (Law W [] [Gm1, F1] [(w3.heap.size, Gm1)] w5) := (HL4.out.below b2.out).adds g1.out.2.2
  have HVGm1 : Hid (Gm1.vals = [.slice md1 n1 me1] ∧ Gm1.sim F1) := ⟨g1.out.1, g1.out.2.1⟩
  clear g1 b2 HL4
  have HC := hide (HMo.out w5 md1 me1 Gm1 ⟨HVGm1.out.1, HVGm1.out.2, (HL6.out.ow (_, Gm1) mem_0).subs.mono (fun _ x => x.2)⟩)
  go_wp2_with fail
  refine HC.out.mono ?_
  rintro e w7 ⟨rfl, b3⟩
  have HL8 : Hid (Law W [] [F1] [] w7) := (HL6.out.below b3.out).drop (fun _ x => x) (all1 mem_1) (fun p hp => absurd hp List.not_mem_nil)
  clear HC HL6 b3 HVGm1
  go_upto_region 8 with fail
  go_wp2_with fail
  refine (HTo1.out w7 (HL8.out.fo F1 mem_0)).mono ?_
  rintro e w9 ⟨xd1, xe1, X1, rfl, g1, b2⟩
  have HX1 : Hid (X1.vals = [.slice xd1 n1 xe1] ∧ X1.sim F1 ∧ ∀ c ∈ X1.inn, w7.heap.size ≤ c ∧ c < w9.heap.size) := ⟨g1.out.1, g1.out.2.1, g1.out.2.2.subs.inn_of⟩
  have HL10 : Hid (Law W [] [X1, F1] [(w7.heap.size, X1)] w9) := (HL8.out.below b2.out).adds g1.out.2.2
  have HZ1 : Hid (w7.heap.size ≤ w9.heap.size) := b2.out.size
  clear g1 b2 HL8
  have HC := hide (HPr.out w9 xd1 xe1 X1 _ ⟨HX1.out.1, HX1.out.2.1, HL10.out.ow (_, X1) mem_0⟩)
  go_wp2_with fail
  refine HC.out.mono ?_
  rintro e w11 ⟨rfl, b5⟩
  have HL12 : Hid (Law W [] [X1, F1] [(w7.heap.size, X1)] w11) := HL10.out.below b5.out
  clear HC HL10 b5
  go_wp2_with fail
  refine (HTo1.out w11 (HL12.out.fo F1 mem_1)).mono ?_
  rintro e w13 ⟨yd1, ye1, Gy, rfl, g1, b2⟩
  have HL14 : Hid (Law W [] [Gy, X1, F1] [(w7.heap.size, X1)] w13) := (HL12.out.below b2.out).add (g1.out.2.2.subs.mono (fun _ x => x.2))
  have HC := hide (HEa1.out w13 xd1 xe1 yd1 ye1 X1 Gy ⟨HX1.out.1, HX1.out.2.1, HL14.out.fo X1 mem_1⟩ ⟨g1.out.1, g1.out.2.1, HL14.out.fo Gy mem_0⟩)
  go_wp2_with fail
  refine HC.out.mono ?_
  rintro e w15 ⟨rfl, b4⟩
  have HL16 : Hid (Law W [] [X1, F1] [(w7.heap.size, X1)] w15) := (HL14.out.below b4.out).drop (fun _ x => x) (by intro G hG; exact List.mem_cons_of_mem _ hG) (fun _ x => x)
  clear HC HL12 HL14 g1 b2 b4
  go_wp2_with fail
  go_ret
  exact ⟨rfl, HL16.out.be⟩

end Go.Proofs.Ytmccdomgechkkaa
