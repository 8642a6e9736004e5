import Derived.Test.YtmnligaelihmiaaHd
namespace Go.Proofs.Ytmnligaelihmiaa.He
open Go.RowKit Go.Joins

theorem Kept.then {S T : Nat → Prop} {A B C : World} (h : Kept S A B) (k : Kept T B C) (hT : ∀ c, c < A.heap.size → S c → T c) : Kept S A C :=
  ⟨k.os.trans h.os, k.tape.trans h.tape, k.output.trans h.output, Nat.le_trans h.size k.size, fun c hc hs => (k.block c (Nat.lt_of_lt_of_le hc h.size) (hT c hc hs)).trans (h.block c hc hs)⟩

set_option maxRecDepth 100000 in
theorem swap_same (b n cap i x : Nat) (w : World) (hi : i < n) (hx : w.cell? ⟨b, i, none⟩ = some (.int .i64 (x : Int))) (fx : w.frozen? ⟨b, i, none⟩ = false) :
    Calls Try.prog 56 #[.slice (some ⟨b, 0, none⟩) n cap, .int .i64 i, .int .i64 i] w fun e w' => e = .returned (.tuple #[]) ∧ w' = ((w.setCell ⟨b, i, none⟩ (.int .i64 (x : Int))).setCell ⟨b, i, none⟩ (.int .i64 (x : Int))).drew := by
  have h1 : (i : Int) < n := by omega
  have hs := World.cell?_setCell_same w _ (.int .i64 (x : Int)) hx
  go_enter Try.func56, Try.ntmps56
  go_wp2_with fail
  go_region
  all_goals
    go_wp2_with fail
    go_end0
    exact ⟨rfl, rfl⟩

theorem swap_all (b n cap i j x y : Nat) (w : World) (hi : i < n) (hj : j < n) (hx : w.cell? ⟨b, i, none⟩ = some (.int .i64 (x : Int))) (hy : w.cell? ⟨b, j, none⟩ = some (.int .i64 (y : Int))) (fx : w.frozen? ⟨b, i, none⟩ = false) (fy : w.frozen? ⟨b, j, none⟩ = false) :
    Calls Try.prog 56 #[.slice (some ⟨b, 0, none⟩) n cap, .int .i64 i, .int .i64 j] w fun e w' => e = .returned (.tuple #[]) ∧ w' = ((w.setCell ⟨b, i, none⟩ (.int .i64 (y : Int))).setCell ⟨b, j, none⟩ (.int .i64 (x : Int))).drew := by
  by_cases e : i = j
  · subst e
    have : x = y := by
      have := hx.symm.trans hy
      simp only [Option.some.injEq, Value.int.injEq, true_and] at this
      omega
    subst this
    exact swap_same b n cap i x w hi hx fx
  · exact swap_any b n cap i j x y w hi hj e hx hy fx fy

theorem JR.cut {B : Nat} {w : World} {b cap N n : Nat} {L : List Nat} (h : JR B w (.slice (some ⟨b, 0, none⟩) N cap) L) (hN : N = L.length) (hn : n ≤ N) : JR B w (.slice (some ⟨b, 0, none⟩) n cap) (L.take n) := by
  subst hN
  rcases h.2 with ⟨h', _⟩ | ⟨g', cap', cur, h', hb, hg, hnc, hcm, hcs, ht⟩
  · simp at h'
  · simp only [Value.slice.injEq, Option.some.injEq, Addr.mk.injEq, and_true, true_and] at h'
    obtain ⟨rfl, rfl⟩ := h'
    have hl : (L.take n).length = n := by simp; omega
    refine ⟨by simp, .inr ⟨b, cap, cur, by rw [hl], hb, hg, by omega, hcm, hcs, ?_⟩⟩
    rw [hl, List.map_take, ← ht, List.take_take]
    congr 1
    omega

set_option maxHeartbeats 1000000 in
set_option maxRecDepth 100000 in
theorem pop57 (hb ho B b N n cap : Nat) (L : List Nat) (w : World) (h : HB w hb ho B (.slice (some ⟨b, 0, none⟩) N cap) L) (hN : N = L.length) (hn : N = n + 1) (hcap : N ≤ cap) :
    Calls Try.prog 57 #[.pointer (some ⟨hb, ho, none⟩)] w fun e w' => e = .returned (.iface 3 (.int .i64 (g L n : Nat))) ∧ HB w' hb ho B (.slice (some ⟨b, 0, none⟩) n cap) (L.take n) ∧ Kept (fun c => c ≠ hb) w w' ∧ Oth hb ho w w' := by
  have c0 := h.cell
  have f0 := h.fr
  have hl := h.len
  have cn := h.row.cell hN n (by omega)
  have H := hide h
  have HN := hide hN
  have HNN := hide hn
  have hNn : n < N := by omega
  have hNi : (n : Int) < N := by omega
  have hNs : (N : Int) - 1 = (n : Int) := by omega
  have hNb : N ≤ 1048576 := by omega
  have hn0 : ¬ (n : Int) > (cap : Int) := by omega
  have hn1 : (n : Int) ≤ (cap : Int) := by omega
  clear h hN hn hl
  go_enter Try.func57, Try.ntmps57
  go_wp2_with (go_at_call 18; refine (len_any _ _ _ _).mono ?_; rintro e w1 ⟨rfl, rfl⟩)
  go_ret
  refine ⟨rfl, ⟨by simpa using H.out.lt, World.cell?_setCell_same _ _ _ c0, by rw [World.frozen?_setCell]; exact f0, ?_, H.out.ne, ?_⟩, Kept.setCell _ _ _ _ (by simp), fun j hj => ?_⟩
  · exact (H.out.row.cut HN.out (by omega)).kept (Kept.setCell (fun c => c ≠ hb) _ _ _ (by simp)) (fun c hc e => H.out.ne (by rw [← e]; exact hc))
  · have := H.out.len
    simp; omega
  · rw [World.cell?_setCell_other _ _ _ _ (fun e => hj (by simpa using (congrArg Addr.off e).symm)), World.frozen?_setCell]
    exact ⟨rfl, rfl⟩

set_option maxHeartbeats 1000000 in
set_option maxRecDepth 100000 in
theorem push35 (hb ho B : Nat) (v : Value) (L : List Nat) (x : Nat) (w : World) (h : HB w hb ho B v L) (hp : Hp L L.length) (hl : L.length < 1048576) (hB : B ≤ w.heap.size) :
    Calls Try.prog 35 #[.iface 59 (.pointer (some ⟨hb, ho, none⟩)), .iface 3 (.int .i64 x)] w fun e w' => e = .returned (.tuple #[]) ∧ ∃ b cap L', HB w' hb ho B (.slice (some ⟨b, 0, none⟩) (L.length + 1) cap) L' ∧ L'.Perm (L ++ [x]) ∧ Hp L' L'.length ∧ (v.ownBlock = some b ∨ w.heap.size ≤ b) ∧ Kept (fun c => c ≠ hb ∧ v.ownBlock ≠ some c) w w' ∧ Oth hb ho w w' := by
  have H := hide h
  have HP := hide hp
  have mP := m_push ⟨hb, ho, none⟩ w
  clear h hp
  obtain ⟨n, hn⟩ : ∃ n, L.length = n := ⟨_, rfl⟩
  have HC := hide (push58 hb ho B v L x w H.out hl hB)
  rw [hn] at hl HC ⊢
  have HN := hide hn
  clear hn
  go_enter Try.func35, Try.ntmps35
  go_wp2_with fail
  refine HC.out.mono ?_
  rintro e w1 ⟨rfl, b, cap, h1, hat, k1, o1⟩
  have HO1 := hide o1
  have mL := m_len hb ho _ w1 h1.cell
  have H1 := hide h1
  have HK := hide k1
  have HA := hide hat
  clear h1 k1 hat o1
  go_wp2_with fail
  refine (len_any _ _ _ w1).mono ?_
  rintro e w2 ⟨rfl, rfl⟩
  have hn1 : ((n + 1 : Nat) : Int) - 1 = (n : Int) := by omega
  have hn2 : (n : Int) + 1 - 1 = (n : Int) := by omega
  have HU := hide (up_any hb ho B b (n + 1) cap n (L ++ [x]) w2 H1.out (by simp [HN.out]) (by omega) (by have := HP.out.push x; rw [HN.out] at this; exact this))
  go_wp2_with fail
  refine HU.out.mono ?_
  rintro e w3 ⟨rfl, L', h3, hp3, hh3, k3⟩
  have hl3 : L'.length = n + 1 := by rw [hp3.length_eq]; simp [HN.out]
  go_wp2_with fail
  go_end0
  refine ⟨rfl, b, cap, L', h3, hp3, by rw [hl3]; exact hh3, HA.out, Kept.then HK.out k3 ?_, fun j hj => ?_⟩
  · intro c hlt hc e
    subst e
    rcases HA.out with e | e
    · exact hc.2 e
    · omega
  · have h5 := HO1.out j hj
    have hbb : hb ≠ b := fun e => H1.out.ne (by rw [e]; rfl)
    exact ⟨(k3.cell (p := ⟨hb, j, none⟩) H1.out.lt hbb).trans h5.1, (k3.frozen (p := ⟨hb, j, none⟩) H1.out.lt hbb).trans h5.2⟩

set_option maxHeartbeats 1000000 in
set_option maxRecDepth 100000 in
theorem pop30 (hb ho B b N n cap : Nat) (L : List Nat) (w : World) (h : HB w hb ho B (.slice (some ⟨b, 0, none⟩) N cap) L) (hN : N = L.length) (hn : N = n + 1) (hcap : N ≤ cap) (hp : Hp L L.length) :
    Calls Try.prog 30 #[.iface 59 (.pointer (some ⟨hb, ho, none⟩))] w fun e w' => e = .returned (.iface 3 (.int .i64 (g L 0 : Nat))) ∧ ∃ L', HB w' hb ho B (.slice (some ⟨b, 0, none⟩) n cap) L' ∧ (L' ++ [g L 0]).Perm L ∧ Hp L' L'.length ∧ Kept (fun c => c ≠ hb ∧ c ≠ b) w w' ∧ Oth hb ho w w' := by
  have hlen := h.len
  have hNb : N ≤ 1048576 := by omega
  have hNs : (N : Int) - 1 = (n : Int) := by omega
  have hN0 : 0 < N := by omega
  have hnN : n < N := by omega
  have c0 := h.row.cell hN 0 (by omega)
  have cn := h.row.cell hN n (by omega)
  have f0 := h.row.frozen hN 0
  have fn := h.row.frozen hN n
  have mL := m_len hb ho _ w h.cell
  have mS := m_swap hb ho _ w h.cell
  have HS := hide (swap_all b N cap 0 n (g L 0) (g L n) w hN0 hnN c0 cn f0 fn)
  have H1 := hide (h.swap hN 0 n)
  have hsl : (sw L 0 n).length = N := by rw [sw_len, hN]
  have HD := hide (hp.pop (n := n) (by omega))
  have HG : Hid (g (sw L 0 n) n = g L 0) := by unfold Hid; rw [g_sw (by omega) (by omega), if_pos rfl]
  have HPm := hide (sw_perm (L := L) (i := 0) (j := n) (by omega) (by omega))
  have HL := hide hsl
  have HNn := hide hn
  have hbb : b ≠ hb := fun e => h.ne (by rw [e]; rfl)
  have HLT := hide h.lt
  clear h hp hN hn hlen c0 cn f0 fn hsl
  have e00 : ((0 : Nat) : Int) = 0 := rfl
  rw [e00] at HS
  go_enter Try.func30, Try.ntmps30
  go_wp2_with fail
  refine (len_any _ _ _ w).mono ?_
  rintro e w1 ⟨rfl, rfl⟩
  go_wp2_with fail
  refine HS.out.mono ?_
  rintro e w2 ⟨rfl, e2⟩
  rw [← e2] at H1
  have k2 : Kept (fun c => c ≠ b) w1 w2 := by rw [e2]; exact (Kept.setCell _ _ _ _ (by simp)).trans ((Kept.setCell _ _ _ _ (by simp)).trans (Kept.drew _ _))
  clear e2
  have HDn := hide (down_any hb ho B b n N cap (sw L 0 n) w2 H1.out HNn.out HL.out.symm HD.out)
  go_wp2_with fail
  refine HDn.out.mono ?_
  rintro e w3 ⟨r, rfl, L3, h3, p3, hh3, g3, k3⟩
  have H3 := hide h3
  have l3 : Hid (L3.length = N) := by unfold Hid; rw [p3.length_eq]; exact HL.out
  have HP3 := hide p3
  have HH3 := hide hh3
  have HG3 := hide g3
  have mP := m_pop ⟨hb, ho, none⟩ w3
  clear h3 p3 hh3 g3
  go_wp2_with fail
  refine (pop57 hb ho B b N n cap L3 w3 H3.out l3.out.symm HNn.out hcap).mono ?_
  rintro e w4 ⟨rfl, h4, k4, o4⟩
  have HO4 := hide o4
  have H4 := hide h4
  clear h4 o4
  go_wp2_with fail
  go_ret
  refine ⟨by rw [HG3.out, HG.out]; rfl, L3.take n, H4.out, ?_, HH3.out.take (by rw [l3.out]; exact HNn.out), ?_, ?_⟩
  · have e := take_last (L := L3) (n := n) (by rw [l3.out]; exact HNn.out)
    rw [HG3.out, HG.out] at e
    rw [← e]
    exact HP3.out.trans HPm.out
  · exact ((k2.trans k3).mono (fun c _ hc => hc.2)).trans (k4.mono (fun c _ hc => hc.1))
  · intro j hj
    have h5 := HO4.out j hj
    have hlt := HLT.out
    exact ⟨h5.1.trans (((k2.trans k3).cell (p := ⟨hb, j, none⟩) hlt (fun e => hbb e.symm))), h5.2.trans (((k2.trans k3).frozen (p := ⟨hb, j, none⟩) hlt (fun e => hbb e.symm)))⟩

theorem run_ta20 (x : Int) (w : World) : (Instr.typeAssert (.iface 3 (.int .i64 x)) 20 3 false).run Try.prog w = .ok (.int .i64 x) w := by kernel_rfl
set_option maxRecDepth 100000 in
theorem put29 (hb ho B : Nat) (v : Value) (L : List Nat) (x : Nat) (w : World) (h : HB w hb ho B v L) (hp : Hp L L.length) (hl : L.length < 1048576) (hB : B ≤ w.heap.size) :
    Calls Try.prog 29 #[.pointer (some ⟨hb, ho, none⟩), .int .i64 x] w fun e w' => e = .returned (.tuple #[]) ∧ ∃ b cap L', HB w' hb ho B (.slice (some ⟨b, 0, none⟩) (L.length + 1) cap) L' ∧ L'.Perm (L ++ [x]) ∧ Hp L' L'.length ∧ (v.ownBlock = some b ∨ w.heap.size ≤ b) ∧ Kept (fun c => c ≠ hb ∧ v.ownBlock ≠ some c) w w' ∧ Oth hb ho w w' := by
  have HC := hide (push35 hb ho B v L x w h hp hl hB)
  clear h hp hl hB
  go_enter Try.func29, Try.ntmps29
  go_wp2_with (go_at_call 35; refine HC.out.mono ?_; rintro e w1 ⟨rfl, h1⟩)
  go_end0
  exact ⟨rfl, h1⟩
set_option maxRecDepth 100000 in
theorem take19 (hb ho B b N n cap : Nat) (L : List Nat) (w : World) (h : HB w hb ho B (.slice (some ⟨b, 0, none⟩) N cap) L) (hN : N = L.length) (hn : N = n + 1) (hcap : N ≤ cap) (hp : Hp L L.length) :
    Calls Try.prog 19 #[.pointer (some ⟨hb, ho, none⟩)] w fun e w' => e = .returned (.int .i64 (g L 0 : Nat)) ∧ ∃ L', HB w' hb ho B (.slice (some ⟨b, 0, none⟩) n cap) L' ∧ (L' ++ [g L 0]).Perm L ∧ Hp L' L'.length ∧ Kept (fun c => c ≠ hb ∧ c ≠ b) w w' ∧ Oth hb ho w w' := by
  have HC := hide (pop30 hb ho B b N n cap L w h hN hn hcap hp)
  have hta := run_ta20 (g L 0 : Nat)
  clear h hp hN hn hcap
  go_enter Try.func19, Try.ntmps19
  go_wp2_with (go_at_call 30; refine HC.out.mono ?_; rintro e w1 ⟨rfl, h1⟩)
  go_ret
  exact ⟨rfl, h1⟩
end Go.Proofs.Ytmnligaelihmiaa.He
