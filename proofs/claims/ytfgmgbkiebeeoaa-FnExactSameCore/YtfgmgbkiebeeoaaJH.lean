import Derived.Test.YtfgmgbkiebeeoaaVb
namespace Go.Proofs.Ytfgmgbkiebeeoaa
open Go.RowKit Go.Joins

theorem Try.info133 : (Try.prog.info? 133).map (fun i => (i.zero, i.size, i.bytes)) = some (some (.agg #[.int .i64 0, .int .i64 0, .int .i64 0]), 3, 24) := by kernel_rfl

set_option maxHeartbeats 2000000 in
theorem i_capped (a b : Nat) (ha : a ≤ 1000000000) (hb : b ≤ 1000000000) (W : World) : Calls Try.prog 64 #[.int .i64 a, .int .i64 b] W fun e W' => e = .returned (.int .i64 ((a + b : Nat) : Int)) ∧ W' = W := by
  have h1 : ((b : Nat) : Int) ≤ 9223372036854775807 - (a : Int) := by omega
  go_enter Try.func64, Try.ntmps64
  go_wp2_with fail
  go_ret
  exact ⟨by simp, rfl⟩

set_option maxHeartbeats 2000000 in
set_option maxRecDepth 100000 in
theorem i_begin {g : Gr} {W0 : World} {lo G nb lsb B tb lb ct cl cn cm : Nat} {V : World} {T L : Nat → Int} {st : List (Nat × Nat)} {sv : Value} (c : MC g W0 lo G nb lsb B tb lb ct cl cn cm) (h : MS g W0 lo G B tb lb ct cl V T L st sv) (p : Nat) (hp : p < g.nl) (hs : st.length ≤ 10000000) :
    Calls Try.prog 43 #[.pointer (some ⟨B, 0, none⟩), .int .i64 p] V fun e V' => e = .returned (.tuple #[]) ∧ ∃ b cap, MS g W0 lo G B tb lb ct cl V' T (upd L p 9223372036854775807) ((p, 0) :: st) (.slice (some ⟨b, 0, none⟩) (st.length + 1) cap) := by
  obtain ⟨V1, hV1⟩ : ∃ V1, V.setCell ⟨lb, p, none⟩ (.int .i64 9223372036854775807) = V1 := ⟨_, rfl⟩
  have h1 : MS g W0 lo G B tb lb ct cl V1 T (upd L p 9223372036854775807) st sv := by rw [← hV1]; exact h.setL c hp _
  obtain ⟨V2, hV2⟩ : ∃ V2, V1.alloc (.cells #[.int .i64 p, .int .i64 0, .int .i64 0] 133) = V2 := ⟨_, rfl⟩
  have k2 : Kept (fun _ => True) V1 V2 := by rw [← hV2]; exact Kept.alloc _ _ _
  have h2 := h1.kept c k2
  have c0 := h.bx.cel 3 _ rfl
  have c1 := h.lr p hp
  have c2 := h.lf p
  have hpc : p < cl := by have := c.nc; omega
  have d0 := h1.bx.cel 4 _ rfl
  have HN : Hid (V2.heap[V1.heap.size]? = some (.cells #[.int .i64 p, .int .i64 0, .int .i64 0] 133)) := by unfold Hid; rw [← hV2]; exact heap_new _ _
  have HFIN : Hid (∀ b cap W', W'.ownsRow lo 133 3 (.slice (some ⟨b, 0, none⟩) (st.length + 1) cap) (st.length + 1) (g.stk st ++ [.int .i64 p, .int .i64 0, .int .i64 0]) → V2.grownBy W' sv.ownBlock → MS g W0 lo G B tb lb ct cl (W'.setCell ⟨B, 4, none⟩ (.slice (some ⟨b, 0, none⟩) (st.length + 1) cap)) T (upd L p 9223372036854775807) ((p, 0) :: st) (.slice (some ⟨b, 0, none⟩) (st.length + 1) cap) ∧ W'.cell? ⟨B, 4, none⟩ = some sv ∧ W'.frozen? ⟨B, 4, none⟩ = false) := fun b cap W' o1 o2 => by
    have k5 : Kept (fun d => d < lo) V2 W' := Kept.grown o2 (fun d e hd => by have := ownsRow_blk h2.ow d e; omega)
    have e1 : g.stk ((p, 0) :: st) = g.stk st ++ [.int .i64 p, .int .i64 0, .int .i64 0] := by rw [g.stk_cons]; rfl
    have b5 := h2.bx.kept k5 c.hB.2
    exact ⟨h2.open c k5 (st' := (p, 0) :: st) (by rw [e1]; exact o1), b5.cel 4 _ rfl, b5.live 4⟩
  have HOW := hide h2.ow
  have HZ := hide h2.hv
  have h63 : Hid (st.length + 1 ≤ maxLen ∧ (st.length + 1) * 24 ≤ 140737488355328) := ⟨by unfold maxLen; omega, by omega⟩
  have HV1 := hide hV1
  have HV2 := hide hV2
  clear hV1 hV2 h h1 h2 k2 hs
  go_enter Try.func43, Try.ntmps43
  go_upto_region 1 with fail
  rw [HV1.out]
  clear HV1 c0 c1 c2
  go_wp2_with (at_builtin; rw [HV2.out]; refine ur_stepL rfl _ _ 103 133 rfl Try.info133 Try.underlying103 rfl (by decide) lo V2 sv st.length (g.stk st) [.int .i64 p, .int .i64 0, .int .i64 0] _ _ rfl rfl HZ.out HOW.out HN.out rfl (by simp [Value.oneCell']) h63.out.1 h63.out.2 ?_; intro g7 c7 w3 hO7 hG7 _; have HA7 := hide (HFIN.out g7 c7 w3 hO7 hG7); have x1 := HA7.out.2.1; have x2 := HA7.out.2.2; clear hO7 hG7)
  exact bodyPost_end (results_none rfl _ _ _) rfl ⟨rfl, g7, c7, HA7.out.1⟩
end Go.Proofs.Ytfgmgbkiebeeoaa

namespace Go.Proofs.Ytfgmgbkiebeeoaa
open Go.RowKit Go.Joins

theorem i_one (k : Int) (W : World) : Calls Try.prog 22 #[.int .i64 k] W fun e W' => e = .returned (.int .i64 1) ∧ W' = W := by
  go_enter Try.func22, Try.ntmps22
  go_wp2_with fail
  go_ret
  exact ⟨rfl, rfl⟩

/-- What isMeasured leaves. -/
def MsP (g : Gr) (W0 : World) (lo G B tb lb ct cl : Nat) (T L : Nat → Int) (l n : Nat) (st : List (Nat × Nat)) (sv : Value) (e : Ending) (V' : World) : Prop :=
  (e = .returned (.bool true) ∧ ∃ T' : Nat → Int, T' (g.fst l + n) = ((g.sT (g.fst l + n) : Nat) : Int) ∧ g.MI T' L ((l, n) :: st) ∧ MS g W0 lo G B tb lb ct cl V' T' L ((l, n) :: st) sv) ∨
  (e = .returned (.bool false) ∧ ∃ p b cap, p < g.nl ∧ L p = -1 ∧ g.MI T (upd L p 9223372036854775807) ((p, 0) :: (l, n) :: st) ∧ MS g W0 lo G B tb lb ct cl V' T (upd L p 9223372036854775807) ((p, 0) :: (l, n) :: st) (.slice (some ⟨b, 0, none⟩) (st.length + 1 + 1) cap))

theorem run_idx0 (x y : Int) (w : World) : (Instr.index 77 (.agg #[.int .i64 x, .int .i64 y]) (.int .i64 0)).run Try.prog w = .ok (.int .i64 x) w := by kernel_rfl
theorem run_idx1 (x y : Int) (w : World) : (Instr.index 77 (.agg #[.int .i64 x, .int .i64 y]) (.int .i64 1)).run Try.prog w = .ok (.int .i64 y) w := by kernel_rfl

/-- Where the loop over the two lists stands. -/
def LpI (g : Gr) (L : Nat → Int) (V : World) (p q : Nat) (s5 s33 : Value) (wr : World) : Prop :=
  (wr = V ∧ s33 = .int .i64 0 ∧ s5 = .int .i64 1) ∨ (wr = V ∧ s33 = .int .i64 1 ∧ s5 = .int .i64 ((1 + g.sL p : Nat) : Int) ∧ Hid (L p = ((g.sL p : Nat) : Int))) ∨ (wr = V ∧ s33 = .int .i64 2 ∧ s5 = .int .i64 ((1 + g.sL p + g.sL q : Nat) : Int) ∧ Hid (L p = ((g.sL p : Nat) : Int)) ∧ Hid (L q = ((g.sL q : Nat) : Int)))

set_option maxHeartbeats 4000000 in
set_option maxRecDepth 100000 in
theorem i_meas {g : Gr} {W0 : World} {lo G nb lsb B tb lb ct cl cn cm : Nat} {V : World} {T L : Nat → Int} {l n : Nat} {st : List (Nat × Nat)} {sv : Value} (c : MC g W0 lo G nb lsb B tb lb ct cl cn cm) (h : MS g W0 lo G B tb lb ct cl V T L ((l, n) :: st) sv) (hi : g.MI T L ((l, n) :: st)) (hn : n < g.cnt l) (hs : st.length + 1 ≤ 10000000) (HLIM : ∀ p q, p < g.nl → q < g.nl → g.sL p ≤ 400000000 ∧ g.sL q ≤ 400000000) :
    Calls Try.prog 63 #[.pointer (some ⟨B, 0, none⟩), .int .i64 ((g.fst l + n : Nat) : Int)] V (MsP g W0 lo G B tb lb ct cl T L l n st sv) := by
  obtain ⟨k, hk⟩ : ∃ k, g.fst l + n = k := ⟨_, rfl⟩
  have hkt : k < g.nt := by have := c.ok.bnd l (hi.op (l, n) List.mem_cons_self).1; omega
  have hkc : k < ct := by have := c.nc; omega
  have hkn : k < cn := by have := c.nc; omega
  obtain ⟨pq1, pq2⟩ := c.ok.pq k hkt
  have HP1 := hi.closed c.ok hn (.inl rfl)
  have HP2 := hi.closed c.ok hn (.inr rfl)
  rw [hk] at HP1 HP2
  rw [hk]
  have c2 := h.bx.cel 2 _ rfl
  have ct1 := h.tr k hkt
  by_cases ht : T k = -1
  rotate_left
  · have hT : T k = g.sT k := (hi.tOk k hkt).resolve_left ht
    have htb : (T k == -1) = false := by simp [ht]
    have HF : Hid (MsP g W0 lo G B tb lb ct cl T L l n st sv (.returned (.bool true)) V) := .inl ⟨rfl, T, by rw [hk]; exact hT, hi, h⟩
    clear hT ht h hi HP1 HP2
    go_enter Try.func63, Try.ntmps63
    go_wp2_with fail
    go_ret
    exact HF.out
  have HT : Hid (g.MI T L ((l, n) :: st) ∧ MS g W0 lo G B tb lb ct cl V T L ((l, n) :: st) sv) := ⟨hi, h⟩
  have htb : (T k == -1) = true := by simp [ht]
  have c0 := h.bx.cel 0 _ rfl
  have c1 := h.bx.cel 1 _ rfl
  have c3 := h.bx.cel 3 _ rfl
  have g8 := (h.be.cell (p := ⟨G, 8, none⟩) (block_lt_of_cell c.n8)).trans c.n8
  have n1 := (h.be.cell (p := ⟨nb, k * 3 + 1, none⟩) (block_lt_of_cell (c.nd k hkt).1)).trans (c.nd k hkt).1
  have n2 := (h.be.cell (p := ⟨nb, k * 3 + 1 + 1, none⟩) (block_lt_of_cell (c.nd k hkt).2)).trans (c.nd k hkt).2
  have HC := hide c
  have HKK := hide hk
  have HPQ : Hid ((L (g.pl k) = -1 ∨ L (g.pl k) = ((g.sL (g.pl k) : Nat) : Int)) ∧ (L (g.ql k) = -1 ∨ L (g.ql k) = ((g.sL (g.ql k) : Nat) : Int))) := ⟨HP1.2.2, HP2.2.2⟩
  obtain ⟨p, hp⟩ : ∃ p, g.pl k = p := ⟨_, rfl⟩
  obtain ⟨q, hq⟩ : ∃ q, g.ql k = q := ⟨_, rfl⟩
  rw [hp] at n1 HPQ pq1
  rw [hq] at n2 HPQ pq2
  have HPE := hide hp
  have HQE := hide hq
  have lp := h.lr p pq1
  have lq := h.lr q pq2
  have pc : p < cl := by have := c.nc; omega
  have qc : q < cl := by have := c.nc; omega
  have HO := hide (i_one k V)
  have HSZ : Hid (g.sL p ≤ 400000000 ∧ g.sL q ≤ 400000000) := HLIM p q pq1 pq2
  clear hp hq HP1 HP2 hi h c hk ht
  go_enter Try.func63, Try.ntmps63
  go_wp2_with fail
  refine HO.out.mono ?_
  rintro e w ⟨rfl, rfl⟩
  go_wp2_with fail
  have ri0 := run_idx0 p q w
  have ri1 := run_idx1 p q w
  go_loopw [5, 33] (fun s5 s33 wr => LpI g L w p q s5 s33 wr) (fun s5 s33 wr => (2 - intOf s33).toNat)
  case atStart => exact .inl ⟨rfl, rfl, rfl⟩
  case round =>
    rcases hrel with ⟨hw, rfl, rfl⟩ | ⟨hw, rfl, rfl, e1⟩ | ⟨hw, rfl, rfl, e1, e2⟩
    all_goals obtain rfl : w = wr := hw.symm
    all_goals try clear hw
    · rcases HPQ.out.1 with e2 | e2
      · have HB : Hid (Calls Try.prog 43 #[.pointer (some ⟨B, 0, none⟩), .int .i64 p] w (fun e V' => e = .returned (.tuple #[]) ∧ MsP g W0 lo G B tb lb ct cl T L l n st sv (.returned (.bool false)) V')) := (i_begin HC.out HT.out.2 p pq1 (by rw [List.length_cons]; omega)).mono (by
          rintro e V' ⟨rfl, b, cap, h3⟩
          exact ⟨rfl, .inr ⟨rfl, p, b, cap, pq1, e2, HT.out.1.opn HC.out.ok hn (.inl (by rw [HKK.out, HPE.out])) _, h3⟩⟩)
        have hb : (L p == -1) = true := by simp [e2]
        clear e2
        go_wp2_with fail
        refine HB.out.mono ?_
        rintro e w1 ⟨rfl, hF⟩
        have HF := hide hF
        clear hF
        go_wp2_with fail
        go_ret
        exact HF.out
      · have E2 := hide e2
        have hb : (L p == -1) = false := by rw [e2]; simp
        have lp' := lp
        rw [e2] at lp'
        have lp2 : w.cell? ⟨lb, p, none⟩ = some (.int .i64 (L p)) := lp
        have HB := hide (i_capped 1 (g.sL p) (by have := HSZ.out.1; have := HSZ.out.2; omega) (by have := HSZ.out.1; have := HSZ.out.2; omega) w)
        rw [e2] at hb
        clear e2 lp lp2
        go_wp2_with fail
        refine HB.out.mono ?_
        rintro e w1 ⟨rfl, rfl⟩
        go_wp2_with fail
        go_roundw
        case rel => exact .inr (.inl ⟨rfl, rfl, rfl, E2⟩)
        case measure => simp [intOf]
    · rcases HPQ.out.2 with e2 | e2
      · have HB : Hid (Calls Try.prog 43 #[.pointer (some ⟨B, 0, none⟩), .int .i64 q] w (fun e V' => e = .returned (.tuple #[]) ∧ MsP g W0 lo G B tb lb ct cl T L l n st sv (.returned (.bool false)) V')) := (i_begin HC.out HT.out.2 q pq2 (by rw [List.length_cons]; omega)).mono (by
          rintro e V' ⟨rfl, b, cap, h3⟩
          exact ⟨rfl, .inr ⟨rfl, q, b, cap, pq2, e2, HT.out.1.opn HC.out.ok hn (.inr (by rw [HKK.out, HQE.out])) _, h3⟩⟩)
        have hb : (L q == -1) = true := by simp [e2]
        clear e2 e1
        go_wp2_with fail
        refine HB.out.mono ?_
        rintro e w1 ⟨rfl, hF⟩
        have HF := hide hF
        clear hF
        go_wp2_with fail
        go_ret
        exact HF.out
      · have E2 := hide e2
        have hb : (L q == -1) = false := by rw [e2]; simp
        have lq' := lq
        rw [e2] at lq'
        have lq2 : w.cell? ⟨lb, q, none⟩ = some (.int .i64 (L q)) := lq
        have HB := hide (i_capped (1 + g.sL p) (g.sL q) (by have := HSZ.out.1; have := HSZ.out.2; omega) (by have := HSZ.out.1; have := HSZ.out.2; omega) w)
        rw [e2] at hb
        clear e2 lq lq2
        go_wp2_with fail
        refine HB.out.mono ?_
        rintro e w1 ⟨rfl, rfl⟩
        go_wp2_with fail
        go_roundw
        case rel => exact .inr (.inr ⟨rfl, rfl, rfl, e1, E2⟩)
        case measure => simp [intOf]
    · have HF : Hid (MsP g W0 lo G B tb lb ct cl T L l n st sv (.returned (.bool true)) (w.setCell ⟨tb, k, none⟩ (.int .i64 ((1 + g.sL p + g.sL q : Nat) : Int)))) := by
        have hz : 1 + g.sL p + g.sL q = g.sT k := by rw [← HPE.out, ← HQE.out]; exact (HC.out.ok.sz k hkt).symm
        rw [hz]
        have h3 := HT.out.1.term HC.out.ok hn (by rw [HKK.out, HPE.out, e1.out]; omega) (by rw [HKK.out, HQE.out, e2.out]; omega)
        rw [HKK.out] at h3
        exact .inl ⟨rfl, _, by rw [HKK.out, upd_same], h3.2, HT.out.2.setT HC.out hkt _⟩
      have tf := HT.out.2.tf k
      clear e1 e2
      go_wp2_with fail
      go_ret
      exact HF.out
end Go.Proofs.Ytfgmgbkiebeeoaa
