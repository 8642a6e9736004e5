import Derived.Test.YtmnligaelihmiaaGw
namespace Go.Proofs.Ytmnligaelihmiaa
open Go.RowKit Go.Joins
theorem run_make_ints (n : Nat) (hn : n ≤ 1048576) (w : World) :
    (Instr.makeSlice 26 (.int .i64 (n : Int)) (.int .i64 (n : Int))).run Try.prog w = .ok (.slice (some ⟨w.heap.size, 0, none⟩) n n) (w.alloc (.cells (madeCells #[.int .i64 0] (n * 1)) 3)) := by
  obtain ⟨i, hi, hzz⟩ := Option.map_eq_some_iff.1 Try.info3
  simp only [Prod.mk.injEq] at hzz
  obtain ⟨hz, hs, hb⟩ := hzz
  have hr := run_make (P := Try.prog) w 26 3 i _ Try.underlying26 hi hz .i64 .i64 n n (by omega) (Int.le_refl _) (by rw [hb]; omega) (by omega)
  simp only [Int.toNat_natCast, hs] at hr
  exact hr
/-- The grouping's box and its two rows. -/
structure NS (n : Nat) (ea : Option Addr) (ec GB OB NB : Nat) (W0 W : World) : Prop where
  bx : Bx W GB [.slice ea n ec, .slice none 0 0, .slice (some ⟨OB, 0, none⟩) n n, .slice (some ⟨NB, 0, none⟩) n n, .slice none 0 0, .slice none 0 0, .slice none 0 0, .slice none 0 0]
  ofs : FR W OB n (fun _ => 0)
  nxs : FR W NB n (fun _ => 0)
  kp : Kept (fun _ => True) W0 W
  ge : W0.heap.size ≤ GB ∧ W0.heap.size ≤ OB ∧ W0.heap.size ≤ NB
  lt : OB < W.heap.size ∧ NB < W.heap.size
  ne : GB ≠ OB ∧ GB ≠ NB ∧ OB ≠ NB
theorem ns_start {W : World} {n : Nat} {ea : Option Addr} {ec OB NB : Nat} (hh : (OB = W.heap.size ∧ NB = W.heap.size + 1) ∨ (OB = W.heap.size + 1 ∧ NB = W.heap.size)) :
    NS n ea ec (W.heap.size + 2) OB NB W (((W.alloc (.cells (madeCells #[.int .i64 0] n) 3)).alloc (.cells (madeCells #[.int .i64 0] n) 3)).alloc (.cells #[.slice ea n ec, .slice none 0 0, .slice (some ⟨OB, 0, none⟩) n n, .slice (some ⟨NB, 0, none⟩) n n, .slice none 0 0, .slice none 0 0, .slice none 0 0, .slice none 0 0] 45)).drew := by
  obtain ⟨A1, hA1⟩ : ∃ A, W.alloc (.cells (madeCells #[.int .i64 0] n) 3) = A := ⟨_, rfl⟩
  obtain ⟨A2, hA2⟩ : ∃ A, A1.alloc (.cells (madeCells #[.int .i64 0] n) 3) = A := ⟨_, rfl⟩
  obtain ⟨A3, hA3⟩ : ∃ A, A2.alloc (.cells #[.slice ea n ec, .slice none 0 0, .slice (some ⟨OB, 0, none⟩) n n, .slice (some ⟨NB, 0, none⟩) n n, .slice none 0 0, .slice none 0 0, .slice none 0 0, .slice none 0 0] 45) = A := ⟨_, rfl⟩
  rw [hA1, hA2, hA3]
  have z1 : A1.heap.size = W.heap.size + 1 := by rw [← hA1]; simp
  have z2 : A2.heap.size = W.heap.size + 2 := by rw [← hA2]; simp [z1]
  have z3 : A3.heap.size = W.heap.size + 3 := by rw [← hA3]; simp [z2]
  have k1 : Kept (fun _ => True) W A1 := by rw [← hA1]; exact Kept.alloc _ _ _
  have k2 : Kept (fun _ => True) A1 A2 := by rw [← hA2]; exact Kept.alloc _ _ _
  have k3 : Kept (fun _ => True) A2 A3.drew := by rw [← hA3]; exact (Kept.alloc _ _ _).trans (Kept.drew _ _)
  have b3 : Bx A3 (W.heap.size + 2) [.slice ea n ec, .slice none 0 0, .slice (some ⟨OB, 0, none⟩) n n, .slice (some ⟨NB, 0, none⟩) n n, .slice none 0 0, .slice none 0 0, .slice none 0 0, .slice none 0 0] := by rw [← hA3, ← z2]; exact Bx.new _ _ _
  have f1 : FR A1 W.heap.size n (fun _ => 0) := by rw [← hA1]; exact FR.made (heap_new _ _)
  have f2 : FR A2 (W.heap.size + 1) n (fun _ => 0) := by rw [← hA2, ← z1]; exact FR.made (heap_new _ _)
  have f1 := (f1.kept k2 trivial).kept k3 trivial
  have f2 := f2.kept k3 trivial
  refine ⟨b3.kept (S := fun _ => True) (Kept.drew _ _) trivial, ?_, ?_, (k1.trans k2).trans k3, by omega, by have : A3.drew.heap.size = A3.heap.size := rfl; omega, by omega⟩
  · rcases hh with ⟨rfl, rfl⟩ | ⟨rfl, rfl⟩
    · exact f1
    · exact f2
  · rcases hh with ⟨rfl, rfl⟩ | ⟨rfl, rfl⟩
    · exact f2
    · exact f1
theorem ng_start {e : List (List Int)} {ea : Option Addr} {ec GB OB NB VB : Nat} {W W1 W2 W3 : World} (he : EM e W.heap.size ea W) (hs : NS e.length ea ec GB OB NB W W1) (h2 : W1.alloc (.cells (madeCells #[.int .i64 0] e.length) 3) = W2) (kb : Below W2.heap.size W2 W3) (hv : W2.heap.size ≤ VB) (hl : VB < W3.heap.size) {com : Nat → Nat} (hw : ∀ x, x < e.length → (∃ a b c : Nat, W3.cell? ⟨VB, x * 4, none⟩ = some (iv a) ∧ W3.cell? ⟨VB, x * 4 + 1, none⟩ = some (iv b) ∧ W3.cell? ⟨VB, x * 4 + 2, none⟩ = some (iv c)) ∧ W3.cell? ⟨VB, x * 4 + 3, none⟩ = some (iv (com x))) :
    (∃ tg, NG e W.heap.size ea ec GB OB NB W1.heap.size VB tg com (fun _ => 0) (fun _ => 0) 0 (.slice none 0 0) (fun _ => .slice none 0 0) (fun _ => []) W3) ∧ Kept (fun _ => True) W W3 := by
  have z2 : W2.heap.size = W1.heap.size + 1 := by rw [← h2]; simp
  have k2 : Kept (fun _ => True) W1 W2 := by rw [← h2]; exact Kept.alloc _ _ _
  have k3 : Kept (fun _ => True) W2 W3 := Kept.of_below kb (fun c hc _ => hc)
  have fm : FR W2 W1.heap.size e.length (fun _ => 0) := by rw [← h2]; exact FR.made (heap_new _ _)
  have k := (hs.kp.trans k2).trans k3
  have k13 := k2.trans k3
  have h1 := hs.bx.lt
  obtain ⟨g1, g2, g3⟩ := hs.ge
  obtain ⟨l1, l2⟩ := hs.lt
  obtain ⟨n1, n2, n3⟩ := hs.ne
  have hsz := k3.size
  refine ⟨⟨fun c => if c = GB then 1 else if c = OB then 2 else if c = NB then 3 else if c = W1.heap.size then 11 else if c = VB then 12 else 0, hs.bx.kept k13 trivial, he.kept k (fun _ _ => trivial) (Nat.le_refl _), k.size, hs.ofs.kept k13 trivial, hs.nxs.kept k13 trivial, fm.kept k3 trivial, hw, OR.nil _ _, fun g hg => by omega, fun c hc => ?_, ?_, ?_, ?_, ?_, ?_, fun c hc => by simp [Value.ownBlock] at hc, fun g hg => by omega, by omega, by omega, by omega, hl⟩, k⟩
  · rw [if_neg (by omega), if_neg (by omega), if_neg (by omega), if_neg (by omega), if_neg (by omega)]
  · rw [if_pos rfl]
  · rw [if_neg (by omega), if_pos rfl]
  · rw [if_neg (by omega), if_neg (by omega), if_pos rfl]
  · rw [if_neg (by omega), if_neg (by omega), if_neg (by omega), if_pos rfl]
  · rw [if_neg (by omega), if_neg (by omega), if_neg (by omega), if_neg (by omega), if_pos rfl]
theorem Try.info27 : (Try.prog.info? 27).map (fun i => (i.zero, i.size, i.bytes)) = some (some (.slice none 0 0), 1, 24) := by kernel_rfl
/-- The grouping as newGrouping makes it. -/
def Made (e : List (List Int)) (ea : Option Addr) (ec GB : Nat) (W W' : World) : Prop :=
  ∃ of m A tg L, Gr.Part e of m ∧ GM e W.heap.size m ea ec GB A tg of (fun _ => 0) (fun g => (L g).length) L (fun _ => .slice none 0 0) (fun _ => []) (fun _ => false) (.slice none 0 0) [] W' ∧ (∀ g, g < m → L g = Gr.gm of e.length g) ∧ Kept (fun c => c < W.heap.size) W W'
/-- The gathering behind the question whether the group is new. -/
def NM (e : List (List Int)) (ea : Option Addr) (ec GB OB NB MB VB : Nat) (com : Nat → Nat) (W : World) (X k : Nat) (wx : World) : Prop :=
  ∃ tg of nb m gv rv L g, NG e W.heap.size ea ec GB OB NB MB VB tg com of nb m gv rv L wx ∧ nb (com k) = g + 1 ∧ g < m ∧ m ≤ k + 1 ∧ Gr.NumI com (k + 1) (Gr.upd of k g) m nb ∧ (∀ x, x < m → L x = Gr.gm of k x) ∧ Kept (fun c => c < W.heap.size) W wx ∧ wx.cell? ⟨X, 3, none⟩ = some (.int .i64 (com k : Int)) ∧ X < wx.heap.size ∧ X ≠ OB
theorem Try.info2 : (Try.prog.info? 2).map (fun i => (i.zero, i.size, i.bytes)) = some (some (.int .i64 0), 1, 8) := by kernel_rfl
theorem NM.drew {e : List (List Int)} {ea : Option Addr} {ec GB OB NB MB VB : Nat} {com : Nat → Nat} {W : World} {X k : Nat} {wx : World} (h : NM e ea ec GB OB NB MB VB com W X k wx) : NM e ea ec GB OB NB MB VB com W X k wx.drew := by
  obtain ⟨tg, of, nb, m, gv, rv, L, g, a1, a2, a3, a4, a5, a6, a7, a8, a9, a10⟩ := h
  have kd : Kept (fun _ => True) wx wx.drew := Kept.drew _ _
  exact ⟨tg, of, nb, m, gv, rv, L, g, a1.kept kd (fun _ _ => trivial), a2, a3, a4, a5, a6, a7.trans (kd.mono (fun _ _ _ => trivial)), a8, a9, a10⟩
set_option maxHeartbeats 4000000 in
set_option maxRecDepth 100000 in
theorem i_new {e : List (List Int)} {ea : Option Addr} {ec : Nat} {W : World} (hn : e.length ≤ 1048576) (hr : ∀ (x : Nat) (r : List Int), e[x]? = some r → r.length ≤ 1048576) (he : EM e W.heap.size ea W) :
    Calls Try.prog 16 #[.slice ea e.length ec] W fun r W' => ∃ GB, r = .returned (.pointer (some ⟨GB, 0, none⟩)) ∧ Hid (Made e ea ec GB W W') := by
  obtain ⟨n, hnn⟩ : ∃ n, n = e.length := ⟨_, rfl⟩
  rw [← hnn] at hn ⊢
  have hmk := run_make_ints n hn
  have HN := hide hnn
  have HR := hide hr
  have HE := hide he
  clear hnn hr he
  go_enter Try.func16, Try.ntmps16
  go_upto_region 1 with fail
  have HW0 := hide (rfl : W = W)
  go_cut [3] (fun s3 wx => ∃ GB OB NB, s3 = .pointer (some ⟨GB, 0, none⟩) ∧ Hid (NS n ea ec GB OB NB W wx))
  · refine wp_region_held_drew (S := (fun _ => True)) (by kernel_rfl) trivial (fun hHeld => ?_)
    refine tn 0 ?_
    refine tn 1 ?_
    refine tn 2 ?_
    refine tn 4 ?_
    refine tn 5 ?_
    refine wpAnyH_ready (rs := [3, 6]) (by kernel_rfl) (by simp) ?_
    refine AllReadyH.cons rfl (fun K hK => ?_) (AllReadyH.cons rfl (fun K hK => ?_) AllReadyH.nil)
    · go_simp
      refine hK.out _ _ trivial (fun hHeld1 => ?_)
      clear hK K
      refine rk 6 (fun K hK => ?_)
      go_simp
      refine hK.out _ _ trivial (fun hHeld1 => ?_)
      clear hK K
      refine tn 7 ?_
      refine rk 8 (fun K hK => ?_)
      go_simp
      refine hK.out _ _ trivial (fun hHeld1 => ?_)
      clear hK K
      refine tn 9 ?_
      refine wpAnyH_done (by kernel_rfl) ?_ _
      go_wp2_with fail
      go_meet
      case rel => exact ⟨_, _, _, rfl, ns_start (.inl ⟨rfl, rfl⟩)⟩
    · go_simp
      refine hK.out _ _ trivial (fun hHeld1 => ?_)
      clear hK K
      refine rk 3 (fun K hK => ?_)
      go_simp
      refine hK.out _ _ trivial (fun hHeld1 => ?_)
      clear hK K
      refine tn 7 ?_
      refine rk 8 (fun K hK => ?_)
      go_simp
      refine hK.out _ _ trivial (fun hHeld1 => ?_)
      clear hK K
      refine tn 9 ?_
      refine wpAnyH_done (by kernel_rfl) ?_ _
      go_wp2_with fail
      go_meet
      case rel => exact ⟨_, _, _, rfl, ns_start (.inr ⟨rfl, rfl⟩)⟩
  obtain ⟨GB, OB, NB, rfl, hns⟩ := hcut
  obtain ⟨W1, hW1⟩ : ∃ W1, W1 = wc := ⟨_, rfl⟩
  obtain ⟨W2, hW2⟩ : ∃ W2, wc.alloc (.cells (madeCells #[.int .i64 0] n) 3) = W2 := ⟨_, rfl⟩
  have hw2 : W2.heap.size = wc.heap.size + 1 := by rw [← hW2]; simp
  have k2 : Kept (fun _ => True) wc W2 := by rw [← hW2]; exact Kept.alloc _ _ _
  have fm : FR W2 wc.heap.size n (fun _ => 0) := by rw [← hW2]; exact FR.made (heap_new _ _)
  obtain ⟨MB, hMB⟩ : ∃ MB, MB = wc.heap.size := ⟨_, rfl⟩
  have HC := hide (i_walks (ec := ec) (W := W2) (n0 := W.heap.size) (by rw [← HN.out]; exact hn) HR.out ((HE.out.kept hns.out.kp (fun _ _ => trivial) (Nat.le_refl _)).kept k2 (fun _ _ => trivial) hns.out.kp.size) (Nat.le_trans hns.out.kp.size k2.size))
  rw [← HN.out] at HC
  have HNS := hide hns.out
  have HK2 := hide k2
  have HFM := hide fm
  have HW2 := hide hW2
  have HZ2 := hide hw2
  clear hns k2 fm hW2 hw2 hW1 hMB
  go_upto_region 4 with (go_at_call 27; rw [HW2.out]; refine HC.out.mono ?_; rintro r W3 ⟨VB, rfl, h3⟩)
  obtain ⟨s, hinv, hpath, hnum, hcells⟩ := h3.out.2.2.2
  obtain ⟨com, hcom⟩ : ∃ com, com = s.com := ⟨_, rfl⟩
  rw [← hcom] at hcells
  obtain ⟨hcl, hceq⟩ := hinv.fin hpath hnum
  rw [← hcom] at hcl hceq
  obtain ⟨⟨tg0, hng⟩, hkp⟩ := ng_start HE.out (HN.out ▸ HNS.out) (HN.out ▸ HW2.out) h3.out.1 h3.out.2.1 h3.out.2.2.1 (fun x hx => ⟨⟨_, _, _, (hcells x hx).1, (hcells x hx).2.1, (hcells x hx).2.2.1⟩, (hcells x hx).2.2.2⟩)
  obtain ⟨MB, hMB⟩ : ∃ MB, MB = wc.heap.size := ⟨_, rfl⟩
  rw [← hMB] at hng ⊢
  have HCL : Hid (∀ x, x < n → com x < n) := by rw [HN.out]; exact hcl
  have HCE := hide hceq
  have HNG := hide hng
  have HKP := hide hkp
  have HNB := hide hn
  clear h3 hinv hpath hnum hcells hcom hcl hceq hng hkp hMB HC HNS HK2 HFM HW2 HZ2 hmk
  go_loopw [25, 5, 6, 7] (fun s25 s5 s6 s7 wr => ∃ (k : Nat) (tg of nb : Nat → Nat) (m : Nat) (gv : Value) (rv : Nat → Value) (L : Nat → List Nat), s25 = .int .i64 (k : Int) ∧ (∃ v, s5 = v) ∧ (∃ v, s6 = v) ∧ (∃ v, s7 = v) ∧ k ≤ n ∧ Hid (NG e W.heap.size ea ec GB OB NB MB VB tg com of nb m gv rv L wr) ∧ Hid (Gr.NumI com k of m nb) ∧ Hid (∀ g, g < m → L g = Gr.gm of k g) ∧ Hid (Kept (fun c => c < W.heap.size) W wr)) (fun s25 _ _ _ _ => n - (intOf s25).toNat)
  case atStart => exact ⟨0, tg0, _, _, 0, _, _, _, rfl, ⟨_, rfl⟩, ⟨_, rfl⟩, ⟨_, rfl⟩, Nat.zero_le _, HNG.out, Gr.NumI.start, fun g hg => by omega, HKP.out.mono (fun _ _ _ => trivial)⟩
  case round =>
    obtain ⟨k, tg, of, nb, m, gv, rv, L, rfl, ⟨v5, rfl⟩, ⟨v6, rfl⟩, ⟨v7, rfl⟩, hk, hG1, hN1, hL1, hK1⟩ := hrel
    have HKN := hide hk
    by_cases hkn : k < n
    · have hki : (k : Int) < (n : Int) := by omega
      obtain ⟨⟨qa, qb, qc, q0, q1, q2⟩, q3⟩ := hG1.out.vis k (by rw [← HN.out]; exact hkn)
      unfold iv at q0 q1 q2 q3
      have HG1 := hide hG1.out
      have HN1 := hide hN1.out
      have HL1 := hide hL1.out
      have HK1 := hide hK1.out
      clear hG1 hN1 hL1 hK1
      go_upto_region 6 with fail
      obtain ⟨V1, hV1⟩ : ∃ V1, wr.alloc (.cells #[.int .i64 (qa : Int), .int .i64 (qb : Int), .int .i64 (qc : Int), .int .i64 (com k : Int)] 57) = V1 := ⟨_, rfl⟩
      rw [hV1]
      obtain ⟨X, hX⟩ : ∃ X, X = wr.heap.size := ⟨_, rfl⟩
      rw [← hX]
      have kv1 : Kept (fun _ => True) wr V1 := by rw [← hV1]; exact Kept.alloc _ _ _
      have hbx : Bx V1 X [.int .i64 (qa : Int), .int .i64 (qb : Int), .int .i64 (qc : Int), .int .i64 (com k : Int)] := by rw [← hV1, hX]; exact Bx.new _ _ _
      have hg1 := HG1.out.kept kv1 (fun _ _ => trivial)
      have kW1 : Kept (fun c => c < W.heap.size) W V1 := HK1.out.trans (kv1.mono (fun _ _ _ => trivial))
      have cx := hbx.cel 3 _ rfl
      have hcn : com k < n := HCL.out k hkn
      have hcni : (com k : Int) < (n : Int) := by omega
      obtain ⟨cn, cnf⟩ := hg1.mbs (com k) (by rw [← HN.out]; exact hcn)
      have hXg : gv.ownBlock ≠ some X ∧ X ≠ GB ∧ X ≠ MB ∧ X ≠ OB := ⟨fun e1 => by have := HG1.out.out.lt X e1; omega, fun e1 => by have := HG1.out.bx.lt; omega, fun e1 => by have := HG1.out.lts; omega, fun e1 => by have := HG1.out.lts; omega⟩
      have HG2 := hide hg1
      have HKW := hide kW1
      have HBX := hide hbx
      have HXG := hide hXg
      clear hV1 kv1 hg1 kW1 hbx hX HG1 HK1 q0 q1 q2 q3 hXg
      obtain ⟨nk, hnk⟩ : ∃ nk, nk = nb (com k) := ⟨_, rfl⟩
      rw [← hnk] at cn
      unfold iv at cn
      have HNK := hide hnk
      clear hnk
      go_upto_if 35 with fail
      go_cut [] (fun wx => Hid (NM e ea ec GB OB NB MB VB com W X k wx))
      case first =>
        by_cases hz : nk = 0
        · have z1 : ((nk : Int) == 0) = true := by rw [hz]; rfl
          have z2 : decide ((nk : Int) = 0) = true := by rw [hz]; rfl
          have d1 := HG2.out.bx.cel 1 _ rfl
          obtain ⟨xs, hx1, hx2⟩ := HG2.out.out
          obtain ⟨V2, hV2⟩ : ∃ V2, V1.alloc (.cells #[.slice none 0 0] 27) = V2 := ⟨_, rfl⟩
          have k2 : Kept (fun _ => True) V1 V2 := by rw [← hV2]; exact Kept.alloc _ _ _
          have HN2 : Hid (V2.heap[V1.heap.size]? = some (.cells #[.slice none 0 0] 27)) := by unfold Hid; rw [← hV2]; exact heap_new _ _
          have HR2 : Hid (V2.ownsRow 0 27 1 gv m xs) := ownsRow_kept hx1 k2 (fun _ _ => trivial)
          have HM : Hid (m + 1 ≤ maxLen ∧ (m + 1) * 24 ≤ 140737488355328) := by have := HN1.out.mle; unfold Hid maxLen; omega
          have HXL := hide hx2
          have HXS : Hid (xs.length = m) := by have := hx1.1; unfold Hid; omega
          have HK2 := hide k2
          have HV2 := hide hV2
          have HZ := hide hz
          have hmb : (m : Int) ≤ 1048576 := by have := HN1.out.mle; omega
          have HT4 : Hid (∀ b cap W4, V2.grownBy W4 gv.ownBlock → W4.ownsRow 0 27 1 (.slice (some ⟨b, 0, none⟩) (m + 1) cap) (m + 1) (xs ++ [.slice none 0 0]) → (gv.ownBlock = some b ∨ b = V2.heap.size) → W4.cell? ⟨GB, 1, none⟩ = some gv ∧ W4.frozen? ⟨GB, 1, none⟩ = false ∧ (∃ tg', NG e W.heap.size ea ec GB OB NB MB VB tg' com of nb (m + 1) (.slice (some ⟨b, 0, none⟩) (m + 1) cap) (updV rv m (.slice none 0 0)) (Gr.updL L m []) (W4.setCell ⟨GB, 1, none⟩ (.slice (some ⟨b, 0, none⟩) (m + 1) cap))) ∧ Kept (fun c => gv.ownBlock ≠ some c ∧ c ≠ GB) V1 (W4.setCell ⟨GB, 1, none⟩ (.slice (some ⟨b, 0, none⟩) (m + 1) cap))) := by
            intro b cap W4 hG hO hat
            have hGn : gv.ownBlock ≠ some GB := fun e1 => by have := HG2.out.tgv GB e1; have := HG2.out.tGB; omega
            have k4 : Kept (fun c => gv.ownBlock ≠ some c) V1 W4 := (k2.mono (fun _ _ _ => trivial)).trans (Kept.grown hG (fun k hk hn => hn hk))
            refine ⟨(k4.cell (p := ⟨GB, 1, none⟩) HG2.out.bx.lt hGn).trans d1, (k4.frozen (p := ⟨GB, 1, none⟩) HG2.out.bx.lt hGn).trans (HG2.out.bx.live 1), ⟨_, (HG2.out.grow hx2 HXS.out k2 hG hO hat).1⟩, (k4.mono (fun c _ h => h.1)).trans (Kept.setCell _ _ _ _ (by simp))⟩
          clear hV2 k2 hx1 hx2 hz
          go_upto_region 8 with (at_builtin; rw [HV2.out]; refine ur_stepL rfl _ _ 23 27 rfl Try.info27 Try.underlying23 rfl (by decide) 0 V2 gv m xs [.slice none 0 0] V1.heap.size 1 rfl rfl (Nat.zero_le _) HR2.out HN2.out rfl (by simp [Value.oneCell']) HM.out.1 HM.out.2 ?_; intro b cap W4 hO4 hG4 hat4; obtain ⟨y1, y2, y3, y4⟩ := HT4.out b cap W4 hG4 hO4 hat4; have y3 := hide y3; have y4 := hide y4)
          obtain ⟨tg5, hg5⟩ := y3.out
          have k5 := y4.out
          obtain ⟨W5, hW5⟩ : ∃ W5, W4.setCell ⟨GB, 1, none⟩ (.slice (some ⟨b, 0, none⟩) (m + 1) cap) = W5 := ⟨_, rfl⟩
          rw [hW5] at hg5 k5 ⊢
          have cx5 := (k5.cell (p := ⟨X, 3, none⟩) HBX.out.lt ⟨HXG.out.1, HXG.out.2.1⟩).trans cx
          have d15 := hg5.bx.cel 1 _ rfl
          obtain ⟨cn5, cnf5⟩ := hg5.mbs (com k) (by rw [← HN.out]; exact hcn)
          rw [← HNK.out] at cn5
          unfold iv at cn5
          have ev : (.int .i64 ((m : Int) + 1) : Value) = iv (m + 1) := by unfold iv; congr 1
          have HNM : Hid (NM e ea ec GB OB NB MB VB com W X k (W5.setCell ⟨MB, com k, none⟩ (.int .i64 ((m : Int) + 1)))) := by
            rw [ev]
            have hMBW : ¬ MB < W.heap.size := fun e1 => by have h1 := HG2.out.t0 MB e1; have h2 := HG2.out.tMB; omega
            have hGBW : ¬ GB < W.heap.size := fun e1 => by have h1 := HG2.out.t0 GB e1; have h2 := HG2.out.tGB; omega
            have hnew := HN1.out.new (by rw [← HNK.out]; exact HZ.out)
            have kM : Kept (fun c => c ≠ MB) W5 (W5.setCell ⟨MB, com k, none⟩ (iv (m + 1))) := Kept.setCell _ _ _ _ (by simp)
            refine ⟨tg5, of, _, m + 1, _, _, _, m, hg5.setNb (com k) (m + 1), Gr.upd_same _ _ _, by omega, by have := HN1.out.mle; omega, hnew, fun x hx => ?_, (HKW.out.trans (k5.mono (fun c hc h => ⟨fun e1 => ?_, fun e1 => hGBW (by rw [← e1]; exact h)⟩))).trans (kM.mono (fun c _ h e1 => hMBW (by rw [← e1]; exact h))), (kM.cell (p := ⟨X, 3, none⟩) (Nat.lt_of_lt_of_le HBX.out.lt k5.size) HXG.out.2.2.1).trans cx5, Nat.lt_of_lt_of_le (Nat.lt_of_lt_of_le HBX.out.lt k5.size) kM.size, HXG.out.2.2.2⟩
            · by_cases e1 : x = m
              · rw [e1, Gr.updL_same]; exact (Gr.gm_none HN1.out).symm
              · rw [Gr.updL_other e1]; exact HL1.out x (by omega)
            · have h1 := HG2.out.tgv c e1; have h2 := HG2.out.t0 c h; omega
          clear hW5 hg5 k5 y1 y2 y3 y4 ev hO4 hG4 hat4 HT4 cx cn d1
          go_region
          go_wp2_with fail
          go_meet
          case rel => exact HNM.out.drew
        · have z1 : ((nk : Int) == 0) = false := by simp; omega
          have z2 : decide ((nk : Int) = 0) = false := by simp; omega
          have hnm : NM e ea ec GB OB NB MB VB com W X k V1 := by
            obtain ⟨g, hg⟩ : ∃ g, nk = g + 1 := ⟨nk - 1, by omega⟩
            obtain ⟨a1, a2⟩ := HN1.out.old (g := g) (by rw [← HNK.out]; exact hg)
            exact ⟨tg, of, nb, m, gv, rv, L, g, HG2.out, by rw [← HNK.out]; exact hg, a1, by have := HN1.out.mle; omega, a2, HL1.out, HKW.out, cx, HBX.out.lt, HXG.out.2.2.2⟩
          have HNM := hide hnm
          clear hnm hz
          go_wp2_with fail
          go_meet
          case rel => exact HNM.out
      case rest =>
        obtain ⟨tg2, of2, nb2, m2, gv2, rv2, L2, g, a1, a2, a3, a4, a5, a6, a7, a8, a9, a10⟩ := hcut.out
        obtain ⟨pg, pc, hgv, hp1, hp2, hp3⟩ := a1.out.shape
        obtain ⟨PG, rfl, hPG⟩ := hp3.resolve_left (by omega)
        subst hgv
        obtain ⟨cn2, cnf2⟩ := a1.mbs (com k) (by rw [← HN.out]; exact hcn)
        obtain ⟨gq, hgq⟩ : ∃ gq, gq = g + 1 := ⟨_, rfl⟩
        rw [a2, ← hgq] at cn2
        unfold iv at cn2
        have hq1 : (gq : Int) - 1 = (g : Int) := by omega
        have hq2 : (gq : Int) ≤ 1048577 := by omega
        have hq3 : 0 < (gq : Int) := by omega
        have d22 := a1.bx.cel 2 _ rfl
        rw [← HN.out] at d22
        obtain ⟨co, cof⟩ := a1.ofs k (by rw [← HN.out]; exact hkn)
        have hg6 := a1.setOf k g
        have ev : iv g = .int .i64 (g : Int) := rfl
        rw [ev] at hg6
        have k6 : Kept (fun c => c ≠ OB) wc (wc.setCell ⟨OB, k, none⟩ (.int .i64 (g : Int))) := Kept.setCell _ _ _ _ (by simp)
        have kW6 : Kept (fun c => c < W.heap.size) W (wc.setCell ⟨OB, k, none⟩ (.int .i64 (g : Int))) := a7.trans (k6.mono (fun c _ h e1 => by have h1 := a1.t0 c h; have h2 := a1.tOB; rw [e1] at h1; omega))
        have HQ1 := hide hq1
        have HA3 := hide a3
        have HA4 := hide a4
        have HA5 := hide a5
        have HA6 := hide a6
        have HG6 := hide hg6
        have HK6 := hide kW6
        have HP12 := hide (And.intro hp1 hp2)
        have hg3 : (g : Int) < (m2 : Int) := by omega
        clear hcut a1 a2 a3 a4 a5 a6 a7 a9 a10 hg6 kW6 k6 ev hgq hp1 hp2 hp3 hq1 cn cx cnf2
        go_upto_region 10 with fail
        rw [HQ1.out]
        obtain ⟨W6, hW6⟩ : ∃ W6, wc.setCell ⟨OB, k, none⟩ (.int .i64 (g : Int)) = W6 := ⟨_, rfl⟩
        rw [hW6] at HG6 HK6
        have d1 := HG6.out.bx.cel 1 _ rfl
        obtain ⟨cw, cwf⟩ := HG6.out.out.cell g HA3.out
        obtain ⟨q, hq⟩ : ∃ q, q = (L2 g).length := ⟨_, rfl⟩
        have hqb : q ≤ k := by
          rw [hq, HA6.out g HA3.out]
          have := List.length_filter_le (fun t => of2 t == g) (List.range k)
          rw [List.length_range] at this
          exact this
        have hPGB : PG ≠ GB ∧ PG < W6.heap.size := ⟨fun e1 => by have h1 := HG6.out.tgv PG rfl; have h2 := HG6.out.tGB; rw [e1] at h1; omega, HG6.out.out.lt PG rfl⟩
        have HR : Hid (∀ V, Kept (fun _ => True) W6 V → V.ownsRow 0 2 1 (rv2 g) q ((L2 g).map iv) ∧ V.cell? ⟨GB, 1, none⟩ = some (.slice (some ⟨PG, 0, none⟩) m2 pc) ∧ V.cell? ⟨PG, g, none⟩ = some (rv2 g)) := fun V kV => ⟨by rw [hq]; exact (HG6.out.row g HA3.out).kept kV (fun _ _ => trivial), (kV.cell (p := ⟨GB, 1, none⟩) HG6.out.bx.lt trivial).trans d1, (kV.cell (p := ⟨PG, g, none⟩) hPGB.2 trivial).trans cw⟩
        have HMM : Hid (q + 1 ≤ maxLen ∧ (q + 1) * 8 ≤ 140737488355328) := by have := HNB.out; unfold Hid maxLen; omega
        have HUP : Hid (∀ x, x < m2 → Gr.updL L2 g (L2 g ++ [k]) x = Gr.gm (Gr.upd of2 k g) (k + 1) x) := fun x hx => by
          rw [Gr.gm_step]
          by_cases e1 : x = g
          · rw [if_pos e1, e1, Gr.updL_same, HA6.out g HA3.out]
          · rw [if_neg e1, Gr.updL_other e1]; exact HA6.out x hx
        have HEND : Hid (∀ (V W8 : World) (b cap : Nat), Kept (fun _ => True) W6 V → V.grownBy W8 (rv2 g).ownBlock → W8.ownsRow 0 2 1 (.slice (some ⟨b, 0, none⟩) (q + 1) cap) (q + 1) ((L2 g).map iv ++ [.int .i64 (k : Int)]) → ((rv2 g).ownBlock = some b ∨ b = V.heap.size) → W8.cell? ⟨GB, 1, none⟩ = some (.slice (some ⟨PG, 0, none⟩) m2 pc) ∧ W8.cell? ⟨PG, g, none⟩ = some (rv2 g) ∧ W8.frozen? ⟨PG, g, none⟩ = false ∧ (W8.setCell ⟨PG, g, none⟩ (.slice (some ⟨b, 0, none⟩) (q + 1) cap)).cell? ⟨GB, 1, none⟩ = some (.slice (some ⟨PG, 0, none⟩) m2 pc) ∧ NG e W.heap.size ea ec GB OB NB MB VB (mark tg2 b (20 + g)) com (Gr.upd of2 k g) nb2 m2 (.slice (some ⟨PG, 0, none⟩) m2 pc) (updV rv2 g (.slice (some ⟨b, 0, none⟩) (q + 1) cap)) (Gr.updL L2 g (L2 g ++ [k])) (W8.setCell ⟨PG, g, none⟩ (.slice (some ⟨b, 0, none⟩) (q + 1) cap)) ∧ Kept (fun c => c < W.heap.size) W (W8.setCell ⟨PG, g, none⟩ (.slice (some ⟨b, 0, none⟩) (q + 1) cap))) := by
          intro V W8 b cap kV hG hO hat
          rw [hq] at hO ⊢
          have k4 : Kept (fun c => (rv2 g).ownBlock ≠ some c) W6 W8 := (kV.mono (fun _ _ _ => trivial)).trans (Kept.grown hG (fun k hk hn => hn hk))
          have hPn : (rv2 g).ownBlock ≠ some PG := fun e1 => by have h1 := HG6.out.trv g HA3.out PG e1; have h2 := HG6.out.tgv PG rfl; omega
          have hGn : (rv2 g).ownBlock ≠ some GB := fun e1 => by have h1 := HG6.out.trv g HA3.out GB e1; have h2 := HG6.out.tGB; omega
          have x1 := (k4.cell (p := ⟨GB, 1, none⟩) HG6.out.bx.lt hGn).trans d1
          have hPW : ¬ PG < W.heap.size := fun e1 => by have h1 := HG6.out.t0 PG e1; have h2 := HG6.out.tgv PG rfl; omega
          refine ⟨x1, (k4.cell (p := ⟨PG, g, none⟩) hPGB.2 hPn).trans cw, (k4.frozen (p := ⟨PG, g, none⟩) hPGB.2 hPn).trans cwf, ?_, (HG6.out.push HA3.out kV hG hO hat).1, (HK6.out.trans (k4.mono (fun c _ h e1 => ?_))).trans (Kept.setCell _ _ _ _ hPW)⟩
          · rw [World.cell?_setCell_other _ _ _ _ (fun e2 => by have := congrArg Addr.block e2; first | exact hPGB.1 this | exact hPGB.1 this.symm)]
            exact x1
          · have h1 := HG6.out.trv g HA3.out c e1; have h2 := HG6.out.t0 c h; omega
        have HW6 := hide hW6
        clear hq hqb cwf hW6 hPGB
        go_upto_region 11 with fail
        rw [HW6.out]
        have cwa : ∀ o, (W6.alloc o).drew.cell? ⟨PG, g, none⟩ = some (rv2 g) := fun o => (HR.out _ ((Kept.alloc _ _ _).dr)).2.2
        refine wp_region_held_drew (S := (fun w => w.cell? ⟨GB, 1, none⟩ = some (.slice (some ⟨PG, 0, none⟩) m2 pc))) (by kernel_rfl) d1 (fun hHeld => ?_)
        refine tn 0 ?_
        refine tn 1 ?_
        refine tn 2 ?_
        refine tn 3 ?_
        refine tn 4 ?_
        refine tn 5 ?_
        refine tn 6 ?_
        refine tn 7 ?_
        refine tn 8 ?_
        refine tn 9 ?_
        refine tn 10 ?_
        refine tn 12 ?_
        refine wpAnyH_ready (rs := [11, 13]) (by kernel_rfl) (by simp) ?_
        refine AllReadyH.cons rfl (fun K hK => ?_) (AllReadyH.cons rfl (fun K hK => ?_) AllReadyH.nil)
        · go_simp
          refine hK.out _ _ (HR.out _ ((Kept.refl _ _).dr)).2.1 (fun hHeld1 => ?_)
          clear hK K
          refine rk 13 (fun K hK => ?_)
          go_simp
          refine hK.out _ _ (HR.out _ ((Kept.alloc _ _ _).dr)).2.1 (fun hHeld2 => ?_)
          clear hK K
          refine rk 14 (fun K hK => ?_)
          refine ur_draw (by rfl) _ _ 27 2 (by rfl) Try.info2 Try.underlying27 rfl (by decide) 0 _ (rv2 g) q ((L2 g).map iv) [.int .i64 (k : Int)] _ 1 (by rfl) (HR.out _ ((Kept.alloc _ _ _).dr)).1 (by rfl) (heap_new_dr _ _) (Nat.zero_le _) rfl (by simp [Value.oneCell']) HMM.out.1 HMM.out.2 ?_
          intro b cap W8 hO8 hG8 hat8
          obtain ⟨e1, e2, e3, e4, e5⟩ := HEND.out _ W8 b cap ((Kept.alloc _ _ _).dr) hG8 hO8 hat8
          have E5 := hide e5
          refine hK.out _ _ e1 (fun hHeld3 => ?_)
          clear hK K
          refine tn 15 ?_
          refine rk 16 (fun K hK => ?_)
          go_simp
          refine hK.out _ _ e4 (fun hHeld4 => ?_)
          clear hK K
          refine wpAnyH_done (by kernel_rfl) ?_ _
          clear e1 e2 e3 e4 e5 hHeld hHeld1 hHeld2 hHeld3 hHeld4 hG8 hO8 hat8 cwa HR HEND
          go_wp2_with fail
          go_roundw
          case rel => exact ⟨k + 1, _, _, nb2, m2, _, _, _, (by have h4 := HKN.out; have h5 := HNB.out; go_num), ⟨_, rfl⟩, ⟨_, rfl⟩, ⟨_, rfl⟩, hkn, E5.out.1, HA5.out, HUP.out, E5.out.2⟩
          case measure => (have h4 := HKN.out; have h5 := HNB.out; simp [intOf]; omega)
        · go_simp
          refine hK.out _ _ (HR.out _ ((Kept.alloc _ _ _).dr)).2.1 (fun hHeld1 => ?_)
          clear hK K
          refine rk 11 (fun K hK => ?_)
          go_simp
          refine hK.out _ _ (HR.out _ ((Kept.alloc _ _ _).dr)).2.1 (fun hHeld2 => ?_)
          clear hK K
          refine rk 14 (fun K hK => ?_)
          refine ur_draw (by rfl) _ _ 27 2 (by rfl) Try.info2 Try.underlying27 rfl (by decide) 0 _ (rv2 g) q ((L2 g).map iv) [.int .i64 (k : Int)] _ 1 (by rfl) (HR.out _ ((Kept.alloc _ _ _).dr)).1 (by rfl) (heap_new_dr _ _) (Nat.zero_le _) rfl (by simp [Value.oneCell']) HMM.out.1 HMM.out.2 ?_
          intro b cap W8 hO8 hG8 hat8
          obtain ⟨e1, e2, e3, e4, e5⟩ := HEND.out _ W8 b cap ((Kept.alloc _ _ _).dr) hG8 hO8 hat8
          have E5 := hide e5
          refine hK.out _ _ e1 (fun hHeld3 => ?_)
          clear hK K
          refine tn 15 ?_
          refine rk 16 (fun K hK => ?_)
          go_simp
          refine hK.out _ _ e4 (fun hHeld4 => ?_)
          clear hK K
          refine wpAnyH_done (by kernel_rfl) ?_ _
          clear e1 e2 e3 e4 e5 hHeld hHeld1 hHeld2 hHeld3 hHeld4 hG8 hO8 hat8 cwa HR HEND
          go_wp2_with fail
          go_roundw
          case rel => exact ⟨k + 1, _, _, nb2, m2, _, _, _, (by have h4 := HKN.out; have h5 := HNB.out; go_num), ⟨_, rfl⟩, ⟨_, rfl⟩, ⟨_, rfl⟩, hkn, E5.out.1, HA5.out, HUP.out, E5.out.2⟩
          case measure => (have h4 := HKN.out; have h5 := HNB.out; simp [intOf]; omega)
    · have hkn2 : k = n := by omega
      have hki : ¬ (k : Int) < (n : Int) := by omega
      subst hkn2
      have hG := hG1.out
      have hN := hN1.out
      have hL := hL1.out
      have hpart : Gr.Part e of m := Gr.NumI.part (com := com) (nb := nb) (by rw [← HN.out]; exact hN) HCE.out
      obtain ⟨ga, gc, hgv, hp1, hp2, hp3⟩ := hG.out.shape
      subst hgv
      have hne : ∀ g, g < m → L g ≠ [] := fun g hg => by
        rw [hL g hg]
        obtain ⟨t, ht, ho⟩ := hN.ne g hg
        intro e1
        have : t ∈ Gr.gm of k g := by unfold Gr.gm; simp [ht, ho]
        rw [e1] at this; simp at this
      have hmb : m ≤ 1048576 := by have := hN.mle; omega
      have hmk2 := run_make_rows m hmb
      have hmk3 := run_make_bools m hmb
      have HPART := hide hpart
      have HNE := hide hne
      have HL2 := hide hL
      have HC0 := hide hG.count
      have HK0 := hide hK1.out
      have HMB := hide hmb
      have HP3 := hide hp3
      have HP12 := hide (And.intro hp1 hp2)
      have d1 := hG.bx.cel 1 _ rfl
      clear hG1 hN1 hL1 hK1 hG hN hL hpart hne hp1 hp2 hp3
      go_upto_region 14 with fail
      go_loopw [89, 9] (fun s89 s9 wq => ∃ (j : Nat) (lv : Value) (tgj : Nat → Nat), s89 = .int .i64 (j : Int) ∧ (∃ v, s9 = v) ∧ j ≤ m ∧ Hid (N2 e W.heap.size ea ec GB OB NB tgj of m (.slice ga m gc) rv L j lv wq) ∧ Hid (Kept (fun c => c < W.heap.size) W wq)) (fun s89 _ _ => m - (intOf s89).toNat)
      case atStart => exact ⟨0, _, _, rfl, ⟨_, rfl⟩, Nat.zero_le _, HC0.out, HK0.out⟩
      case round =>
        obtain ⟨j, lv, tgj, rfl, ⟨v9, rfl⟩, hj, hQ1, hKQ⟩ := hrel
        have HJM := hide hj
        clear d1
        by_cases hjm : j < m
        · have hji : (j : Int) < (m : Int) := by omega
          have hmI : (m : Int) ≤ 1048576 := by omega
          obtain ⟨PG, rfl, -⟩ := HP3.out.resolve_left (by omega)
          obtain ⟨c1, c1f⟩ := hQ1.out.out.cell j hjm
          obtain ⟨gb, cap0, e1, e2, e3, e4, e5⟩ := (hQ1.out.row j hjm).shape (HNE.out j hjm)
          obtain ⟨q, hq⟩ : ∃ q, q = (L j).length := ⟨_, rfl⟩
          rw [e1, ← hq] at c1
          have d4 := hQ1.out.bx.cel 4 _ rfl
          obtain ⟨V2, hV2⟩ : ∃ V2, wr.alloc (.cells #[.int .i64 (q : Int)] 3) = V2 := ⟨_, rfl⟩
          have k2 : Kept (fun _ => True) wr V2 := by rw [← hV2]; exact Kept.alloc _ _ _
          have HN2 : Hid (V2.heap[wr.heap.size]? = some (.cells #[.int .i64 (q : Int)] 3)) := by unfold Hid; rw [← hV2]; exact heap_new _ _
          have HR2 : Hid (V2.ownsRow 0 3 1 lv j (((List.range j).map (fun g => (L g).length)).map iv)) := by
            have h1 := hQ1.out.lrow.kept k2 (fun _ _ => trivial)
            unfold IR at h1
            rw [List.length_map, List.length_range] at h1
            exact h1
          have HM : Hid (j + 1 ≤ maxLen ∧ (j + 1) * 8 ≤ 140737488355328) := by have := HMB.out; unfold Hid maxLen; omega
          have HT4 : Hid (∀ b cap W4, V2.grownBy W4 lv.ownBlock → W4.ownsRow 0 3 1 (.slice (some ⟨b, 0, none⟩) (j + 1) cap) (j + 1) (((List.range j).map (fun g => (L g).length)).map iv ++ [.int .i64 (q : Int)]) → (lv.ownBlock = some b ∨ b = V2.heap.size) → N2 e W.heap.size ea ec GB OB NB (mark tgj b 4) of m (.slice (some ⟨PG, 0, none⟩) m gc) rv L (j + 1) (.slice (some ⟨b, 0, none⟩) (j + 1) cap) (W4.setCell ⟨GB, 4, none⟩ (.slice (some ⟨b, 0, none⟩) (j + 1) cap)) ∧ Kept (fun c => c < W.heap.size) W (W4.setCell ⟨GB, 4, none⟩ (.slice (some ⟨b, 0, none⟩) (j + 1) cap)) ∧ W4.cell? ⟨GB, 4, none⟩ = some lv ∧ W4.frozen? ⟨GB, 4, none⟩ = false) := by
            intro b cap W4 hG hO hat
            rw [hq] at hO
            obtain ⟨p1, p2, p3, p4⟩ := hQ1.out.push k2 hG hO hat
            exact ⟨p1, hKQ.out.trans (p2.mono (fun c _ h => by have := hQ1.out.t0 c h; omega)), p3, p4⟩
          have HV2 := hide hV2
          clear hQ1 hKQ e1 e2 e3 e4 e5 hq hV2 k2 c1f
          go_upto_region 17 with (at_builtin; rw [HV2.out]; refine ur_stepL rfl _ _ 26 3 rfl Try.info3 Try.underlying26 rfl (by decide) 0 V2 lv j (((List.range j).map (fun g => (L g).length)).map iv) [.int .i64 (q : Int)] wr.heap.size 1 rfl rfl (Nat.zero_le _) HR2.out HN2.out rfl (by simp [Value.oneCell']) HM.out.1 HM.out.2 ?_; intro b cap W4 hO4 hG4 hat4; obtain ⟨y1, y2, y3, y4⟩ := HT4.out b cap W4 hG4 hO4 hat4; have Y1 := hide y1; have Y2 := hide y2; clear y1 y2 hO4 hG4 hat4)
          go_wp2_with fail
          go_roundw
          case rel => exact ⟨j + 1, _, _, (by have h4 := HJM.out; have h5 := HMB.out; go_num), ⟨_, rfl⟩, hjm, Y1.out, Y2.out⟩
          case measure => (have h4 := HJM.out; have h5 := HMB.out; simp [intOf]; omega)
        · have hji : ¬ (j : Int) < (m : Int) := by omega
          have hjm2 : j = m := by omega
          subst hjm2
          have hm0 : (0 : Int) ≤ (j : Int) := by omega
          have d1 := hQ1.out.bx.cel 1 _ rfl
          have d5 := hQ1.out.bx.cel 5 _ rfl
          have d6 := hQ1.out.bx.cel 6 _ rfl
          have f5 := hQ1.out.bx.live 5
          have f6 := hQ1.out.bx.live 6
          have lt := hQ1.out.bx.lt
          have HQ := hide hQ1.out
          have HKQ := hide hKQ.out
          clear hQ1 hKQ
          go_wp2_with fail
          go_ret
          refine ⟨GB, rfl, ?_⟩
          obtain ⟨⟨A, tg', hgm⟩, kf⟩ := HQ.out.done HNE.out rfl rfl rfl rfl
          exact ⟨of, j, A, tg', L, HPART.out, hgm, fun g hg => by rw [← HN.out]; exact HL2.out g hg, HKQ.out.trans (kf.mono (fun c _ h => by have := HQ.out.t0 c h; omega))⟩
end Go.Proofs.Ytmnligaelihmiaa
