import Derived.Test.YtjfoagmenehapaaGreatDoorQ16
namespace Go.Proofs.YtjfoagmenehapaaGreatDoor
open Go.RowKit Go.Joins

theorem Only.iterAt (w : World) (k : Nat) (s : ByteArray) (p : Nat) : Only k w (w.iterAt k s p) := ⟨rfl, rfl, rfl, Lib.iterAt_size w k s p, fun j hj => Lib.iterAt_other w k j s p hj⟩

theorem TR.iterAt {B k p : Nat} {W : World} {s : ByteArray} {ao : Option Addr} {cap n : Nat} {T : List To} (h : TR B W ao cap n T) (hk : W.heap[k]? = some (.stringIter s p)) (p' : Nat) : TR B (W.iterAt k s p') ao cap n T := by
  refine ⟨h.1, World.ownsRow.kept h.2 (Only.iterAt W k s p').grown ?_⟩
  right
  intro e
  obtain ⟨c, fz, hc⟩ := tok_kind h k e
  rw [hk] at hc
  cases hc

theorem LW.more {s : ByteArray} {R mb pos wd nx ln ls cp n : Nat} {ao : Option Addr} {T : List To} {w w3 : World} (hsc : Sc w3 (R + 1) s mb nx ln ls (.slice ao n cp)) (hT : TR (R + 1 + 1) w3 ao cp n T) (hit : w3.heap[R + 2]? = some (.stringIter s (pos + wd))) (hl : ln = pl s pos) (hc : (pos : Int) - ls + 1 = pc s pos)
    (bd : Bd s nx) (nxs : nx ≤ s.size) (ps : pos + wd ≤ s.size) (tl : T.length ≤ max (pos + wd) nx) (lex : lexF s 0 = (T ++ (lexF s (max (pos + wd) nx)).1, (lexF s (max (pos + wd) nx)).2)) (bel : Below (R + 1) w w3)
    (h10 : ∀ j, j < wd → bt s (pos + j) ≠ 10) : LW s R mb w w3 (pos + wd) nx ln ls ao cp n T := by
  obtain ⟨a1, a2⟩ := pl_run s pos wd h10
  exact ⟨hit, hsc, hT, by rw [a1]; exact hl, by rw [a2]; push_cast; omega, bd, nxs, ps, tl, lex, bel⟩

theorem LW.nl {s : ByteArray} {R mb pos nx ln ls cp n : Nat} {ao : Option Addr} {T : List To} {w w3 : World} (hsc : Sc w3 (R + 1) s mb nx ln ls (.slice ao n cp)) (hT : TR (R + 1 + 1) w3 ao cp n T) (hit : w3.heap[R + 2]? = some (.stringIter s (pos + 1))) (hl : ln = pl s pos)
    (bd : Bd s nx) (nxs : nx ≤ s.size) (ps : pos + 1 ≤ s.size) (tl : T.length ≤ max (pos + 1) nx) (lex : lexF s 0 = (T ++ (lexF s (max (pos + 1) nx)).1, (lexF s (max (pos + 1) nx)).2)) (bel : Below (R + 1) w w3)
    (h10 : bt s pos = 10) : LW s R mb w ((w3.setCell ⟨R + 1, 3, none⟩ (.int .i64 ((ln : Int) + 1))).setCell ⟨R + 1, 4, none⟩ (.int .i64 ((pos : Int) + 1))) (pos + 1) nx (ln + 1) (pos + 1) ao cp n T := by
  have o := (Only.setCell w3 ⟨R + 1, 3, none⟩ (.int .i64 ((ln : Int) + 1)))
  have o2 := (Only.setCell (w3.setCell ⟨R + 1, 3, none⟩ (.int .i64 ((ln : Int) + 1))) ⟨R + 1, 4, none⟩ (.int .i64 ((pos : Int) + 1)))
  refine ⟨?_, (hsc.set3 ((ln : Int) + 1)).set4 ((pos : Int) + 1), (hT.only o (Nat.lt_succ_self _)).only o2 (Nat.lt_succ_self _), ?_, ?_, bd, nxs, ps, tl, lex, ?_⟩
  · rw [o2.block _ (by simp), o.block _ (by simp), hit]
  · rw [pl, if_pos h10, hl]
  · rw [pc, if_pos h10]; push_cast; omega
  · exact (bel.trans (o.below (Nat.le_refl _))).trans (o2.below (Nat.le_refl _))

theorem Sc.new (s : ByteArray) (mb : Nat) (u : World) : Sc (u.alloc (.cells #[.string s, .map (some mb), .int .i64 0, .int .i64 1, .int .i64 0, .slice none 0 0] 133)) u.heap.size s mb 0 1 0 (.slice none 0 0) :=
  ⟨by simp, by simp, by simp, by simp, by simp, by simp, fun o => by simp, by simp⟩

theorem LW.start (s : ByteArray) (mb R : Nat) (u : World) (hu : u.heap.size = R + 1) : LW s R mb u ((u.alloc (.cells #[.string s, .map (some mb), .int .i64 0, .int .i64 1, .int .i64 0, .slice none 0 0] 133)).alloc (.stringIter s 0)) 0 0 1 0 none 0 0 [] := by
  have hz : (u.alloc (.cells #[.string s, .map (some mb), .int .i64 0, .int .i64 1, .int .i64 0, .slice none 0 0] 133)).heap.size = R + 2 := by simp [hu]
  have hS := Sc.new s mb u
  have hb := below_alloc1 u (.cells #[.string s, .map (some mb), .int .i64 0, .int .i64 1, .int .i64 0, .slice none 0 0] 133)
  generalize u.alloc (.cells #[.string s, .map (some mb), .int .i64 0, .int .i64 1, .int .i64 0, .slice none 0 0] 133) = v at *
  have hn := heap_new v (.stringIter s 0)
  have hb2 := below_alloc1 v (.stringIter s 0)
  rw [hz] at hn hb2
  rw [hu] at hS hb
  exact ⟨hn, hS.below hb2 (by omega), TR.start _ _, rfl, by simp [pc], .inl (.inr rfl), Nat.zero_le _, Nat.zero_le _, by simp, by simp, hb.trans (hb2.mono (by omega))⟩

/-- A place was read: badly, or well and it was one byte wide. -/
def RQ (s : ByteArray) (p wd b mb ln ls : Nat) (T : List To) (w : World) (e : Ending) (w' : World) : Prop :=
  (∃ c : Nat, e = .returned (.int .i64 c) ∧ RB s p b mb ln ls c w w') ∨ (wd = 1 ∧ e = .returned (.int .i64 (0 : Nat)) ∧ RG s p b mb ln ls T w w')

theorem iReadAt {s p b mb nx ln ls ao cp n T w} (h : At s p b mb nx ln ls ao cp n T w) (cc wd : Nat) (h1 : bt s p < 128 → cc = bt s p ∧ wd = 1) (h2 : 128 ≤ bt s p → 128 ≤ cc) (h3 : cc ≤ 2147483647) :
    Calls Tryz.prog 98 #[.pointer (some ⟨b, 0, none⟩), .int .i64 p, .int .i32 cc] w (RQ s p wd b mb ln ls T w) := by
  by_cases hl : bt s p < 128
  · obtain ⟨rfl, rfl⟩ := h1 hl
    refine (iRead h hl).mono ?_
    rintro e w' (⟨c, he, hh⟩ | ⟨he, hh⟩)
    · exact .inl ⟨c, he, hh⟩
    · exact .inr ⟨rfl, he, hh⟩
  · refine (iReadHigh h (by omega) cc (h2 (by omega)) h3).mono ?_
    rintro e w' ⟨he, hh⟩
    exact .inl ⟨1, he, hh⟩

set_option maxHeartbeats 4000000 in
set_option maxRecDepth 100000 in
theorem iLexWith (mb : Nat) (s : ByteArray) (w : World) (hK : KM w mb) (hm : mb < w.heap.size) (hs : s.size ≤ 1048576) : Calls Tryz.prog 84 #[.map (some mb), .string s] w (LexPost s w) := by
  by_cases hbig : 60000 < s.size
  · have hbig' : (60000 : Int) < s.size := by omega
    have HA : Hid (lexA s = (5, 1, 1, [])) := by unfold Hid lexA; rw [if_pos hbig]
    clear hbig
    go_enter Tryz.func84, Tryz.ntmps84
    go_wp2_with fail
    refine bodyPost_ret (v := .agg #[.int .i64 5, .int .i64 1, .int .i64 1, .slice none 0 0]) (by simp [results, Tryz.results84, go_sem]) rfl ?_
    refine ⟨none, 0, 0, by rw [HA.out]; rfl, by rw [HA.out]; exact TR.start _ _, ?_⟩
    first
    | exact below_alloc1 w _
    | (refine ((((below_alloc1 w _).setCell ?_ _).setCell ?_ _).setCell ?_ _).setCell ?_ _ <;> simp)
  · have hbig' : ¬ (60000 : Int) < s.size := by omega
    have hsz : s.size ≤ 60000 := by omega
    have HA : Hid (lexA s = if (lexF s 0).2.1 = 0 then (0, 0, 0, (lexF s 0).1) else ((lexF s 0).2.1, pl s (lexF s 0).2.2, pc s (lexF s 0).2.2, [])) := by unfold Hid lexA; rw [if_neg hbig]
    clear hbig
    have HK0 : Hid (KM (w.alloc (.cells #[.int .i64 0, .int .i64 0, .int .i64 0, .slice none 0 0] 111)) mb) := hK.below (below_alloc1 w _) hm
    clear hK
    go_enter Tryz.func84, Tryz.ntmps84
    go_wp2_with fail
    go_loopw [6, 7, 8] (fun _ _ _ wr => ∃ (pos nx ln ls : Nat) (ao : Option Addr) (cp n : Nat) (T : List To), Hid (LW s w.heap.size mb (w.alloc (.cells #[.int .i64 0, .int .i64 0, .int .i64 0, .slice none 0 0] 111)) wr pos nx ln ls ao cp n T)) (fun _ _ _ wr => s.size - wr.iterPos (w.heap.size + 2))
    case atStart =>
      exact ⟨0, 0, 1, 0, none, 0, 0, [], LW.start s mb _ _ (by simp)⟩
    case round =>
      obtain ⟨pos, nx, ln, ls, ao, cp, n, T, HW⟩ := hrel
      have fin : ∀ wx, Below (w.heap.size + 1) (w.alloc (.cells #[.int .i64 0, .int .i64 0, .int .i64 0, .slice none 0 0] 111)) wx →
          (wx.cell? ⟨w.heap.size, 0, none⟩ = some (.int .i64 0) ∧ wx.cell? ⟨w.heap.size, 1, none⟩ = some (.int .i64 0) ∧ wx.cell? ⟨w.heap.size, 2, none⟩ = some (.int .i64 0) ∧ wx.cell? ⟨w.heap.size, 3, none⟩ = some (.slice none 0 0)) ∧
          (wx.frozen? ⟨w.heap.size, 0, none⟩ = false ∧ wx.frozen? ⟨w.heap.size, 1, none⟩ = false ∧ wx.frozen? ⟨w.heap.size, 2, none⟩ = false ∧ wx.frozen? ⟨w.heap.size, 3, none⟩ = false) := fun wx hb =>
        ⟨⟨(hb.cell (p := ⟨w.heap.size, 0, none⟩) (Nat.lt_succ_self _)).trans (by simp), (hb.cell (p := ⟨w.heap.size, 1, none⟩) (Nat.lt_succ_self _)).trans (by simp), (hb.cell (p := ⟨w.heap.size, 2, none⟩) (Nat.lt_succ_self _)).trans (by simp), (hb.cell (p := ⟨w.heap.size, 3, none⟩) (Nat.lt_succ_self _)).trans (by simp)⟩,
          ⟨(hb.frozen (p := ⟨w.heap.size, 0, none⟩) (Nat.lt_succ_self _)).trans (by simp), (hb.frozen (p := ⟨w.heap.size, 1, none⟩) (Nat.lt_succ_self _)).trans (by simp), (hb.frozen (p := ⟨w.heap.size, 2, none⟩) (Nat.lt_succ_self _)).trans (by simp), (hb.frozen (p := ⟨w.heap.size, 3, none⟩) (Nat.lt_succ_self _)).trans (by simp)⟩⟩
      have FIN := hide fin
      clear fin
      have hit := HW.out.it
      by_cases hlt : pos < s.size
      · have hnx : ∀ ty, (Instr.next (.pointer (some ⟨w.heap.size + 2, 0, none⟩)) true ty).run Tryz.prog wr = _ := fun ty => Lib.run_next_any_at wr (w.heap.size + 2) s pos ty hit hlt
        have hD : (Utf8.decode s pos).1 ≤ 2147483647 ∧ 1 ≤ (Utf8.decode s pos).2 ∧ pos + (Utf8.decode s pos).2 ≤ s.size ∧ (bt s pos < 128 → (Utf8.decode s pos).1 = bt s pos ∧ (Utf8.decode s pos).2 = 1) ∧ (128 ≤ bt s pos → 128 ≤ (Utf8.decode s pos).1 ∧ ∀ j, j < (Utf8.decode s pos).2 → 128 ≤ bt s (pos + j)) := by
          by_cases hl : bt s pos < 128
          · rw [dec_low hlt hl]
            exact ⟨by simp only; omega, Nat.le_refl _, by simp only; omega, fun _ => ⟨rfl, rfl⟩, fun hh => by omega⟩
          · obtain ⟨h1, h2, h3, h4, h5⟩ := dec_high hlt (by omega)
            refine ⟨by omega, h3, h4, fun hh => by omega, fun _ => ⟨h1, fun j hj => ?_⟩⟩
            rcases Nat.eq_zero_or_pos j with rfl | h0
            · rw [Nat.add_zero]; omega
            · exact h5 j h0 hj
        obtain ⟨d1, d2, d3, d4, d5⟩ := hD
        generalize (Utf8.decode s pos).1 = cc at *
        generalize (Utf8.decode s pos).2 = wd at *
        have hit2 := Lib.iterAt_heap wr (w.heap.size + 2) s pos (pos + wd) hit
        have hb2 := Lib.below_iterAt HW.out.bel (k := w.heap.size + 2) (Nat.le_succ _) s (pos + wd)
        have hS2 : Sc (wr.iterAt (w.heap.size + 2) s (pos + wd)) (w.heap.size + 1) s mb nx ln ls (.slice ao n cp) := HW.out.sc.kept (Lib.iterAt_other wr (w.heap.size + 2) (w.heap.size + 1) s (pos + wd) (by omega)) (by rw [Lib.iterAt_size]; exact Nat.le_refl _)
        have hT2 := HW.out.tr.iterAt hit (pos + wd)
        have hmeas : s.size - World.iterPos (wr.iterAt (w.heap.size + 2) s (pos + wd)) (w.heap.size + 2) < s.size - World.iterPos wr (w.heap.size + 2) := by
          simp only [World.iterPos, hit2, hit]
          omega
        have HM := hide hmeas
        have H10 : Hid (cc = 10 → bt s pos = 10 ∧ wd = 1) := by
          intro h
          by_cases hl : bt s pos < 128
          · have := d4 hl; omega
          · have := d5 (by omega); omega
        have N10 : Hid (cc ≠ 10 → ∀ j, j < wd → bt s (pos + j) ≠ 10) := by
          intro h j hj
          by_cases hl : bt s pos < 128
          · obtain ⟨e1, e2⟩ := d4 hl
            obtain rfl : j = 0 := by omega
            rw [Nat.add_zero]; omega
          · have := (d5 (by omega)).2 j hj; omega
        have HM2 : Hid (∀ wx : World, wx.heap[w.heap.size + 2]? = some (.stringIter s (pos + wd)) → s.size - wx.iterPos (w.heap.size + 2) < s.size - wr.iterPos (w.heap.size + 2)) := by
          intro wx hx
          simp only [World.iterPos, hx, hit]
          omega
        have HB2 := hide hb2
        have HT2 := hide hT2
        have HIT2 := hide hit2
        clear hmeas hb2 hT2 hit hit2
        by_cases hc : pos < nx
        · have hc' : ¬ ((nx : Int) ≤ pos) := by omega
          have HST : Hid (pos + wd ≤ nx) := bd_stop HW.out.bd hc d3 (fun h => (d4 h).2) (fun h => (d5 h).2)
          have HMX : Hid (lexF s 0 = (T ++ (lexF s (max (pos + wd) nx)).1, (lexF s (max (pos + wd) nx)).2)) := by
            have := HW.out.lex
            have hst := HST.out
            rw [show max pos nx = max (pos + wd) nx by omega] at this
            exact this
          have HTL : Hid (T.length ≤ max (pos + wd) nx) := by
            have := HW.out.tl
            unfold Hid; omega
          clear d4 d5
          obtain ⟨c0, c1, c2, c3, c4, c5, fr, lt⟩ := id hS2
          have f3' := fr 3
          have f4' := fr 4
          by_cases h10 : cc = 10
          · obtain ⟨t1, t2⟩ := H10.out h10
            subst h10
            subst t2
            have HL := hide (LW.nl (w := w.alloc (.cells #[.int .i64 0, .int .i64 0, .int .i64 0, .slice none 0 0] 111)) hS2 HT2.out HIT2.out HW.out.line HW.out.bd HW.out.nxs (by omega) HTL.out HMX.out HB2.out t1)
            have hln : ln ≤ pos + 1 := by rw [HW.out.line]; exact pl_le s pos
            go_wp2_with fail
            go_roundw
            case rel => exact ⟨_, _, _, _, _, _, _, _, HL⟩
            case measure =>
              exact HM2.out _ HL.out.it
          · have z : ((cc : Int) == 10) = false := by simp; omega
            have HL := hide (LW.more (w := w.alloc (.cells #[.int .i64 0, .int .i64 0, .int .i64 0, .slice none 0 0] 111)) hS2 HT2.out HIT2.out HW.out.line HW.out.col HW.out.bd HW.out.nxs d3 HTL.out HMX.out HB2.out (N10.out h10))
            go_wp2_with fail
            go_roundw
            case rel => exact ⟨_, _, _, _, _, _, _, _, HL⟩
            case measure => exact HM2.out _ HIT2.out
        · have hc' : (nx : Int) ≤ pos := by omega
          have hAt : At s pos (w.heap.size + 1) mb nx ln ls ao cp n T (wr.iterAt (w.heap.size + 2) s (pos + wd)) := ⟨hS2, HT2.out, HK0.out.below HB2.out (by omega), by omega, by have := HW.out.tl; omega, hsz, hlt, by omega, HW.out.line, HW.out.col, HW.out.bd⟩
          have HRD := hide (iReadAt hAt cc wd d4 (fun h => (d5 h).1) d1)
          have HF := hide HW.out.lex
          have HTL0 := hide HW.out.tl
          clear hAt d4 d5
          obtain ⟨b0, b1, b2, b3, b4, b5, bfr, blt⟩ := id hS2
          go_wp2_with fail
          refine HRD.out.mono ?_
          rintro e w3 (⟨c, rfl, hcn, hlx, ⟨nx3, v3, hS3⟩, k3⟩ | ⟨hwd, rfl, nx3, T3, ao3, cp3, n3, q1, q2, q3, q4, hS3, hT3, k3⟩)
          · have HB3 := hide (HB2.out.trans k3.1)
            have hA : Hid (lexA s = (c, ln, pc s pos, [])) := by
              have := HF.out
              rw [show max pos nx = pos by omega, hlx] at this
              unfold Hid
              rw [HA.out, this, if_neg hcn, ← HW.out.line]
            have hcn' : ((c : Int) == 0) = false := by simp; omega
            have HCOL : Hid (∀ wx nx ls v, Sc wx (w.heap.size + 1) s mb nx ln ls v → ls = ls → True) := fun _ _ _ _ _ _ => trivial
            have hpc1 := pc_pos s pos
            have hpc2 := pc_le s pos
            have HCO : Hid (∀ wx, Sc wx (w.heap.size + 1) s mb nx3 ln ls v3 → Calls Tryz.prog 99 #[.pointer (some ⟨w.heap.size + 1, 0, none⟩), .int .i64 pos] wx fun e w' => e = .returned (.int .i64 (pc s pos)) ∧ w' = wx) := fun wx hx => iCol _ _ s mb _ _ _ _ _ wx hx HW.out.col (by omega) (by omega)
            obtain ⟨⟨e0, e1, e2, e3⟩, f0, f1, f2, f3⟩ := FIN.out w3 HB3.out
            obtain ⟨c0, c1, c2, c3, c4, c5, fr, lt⟩ := id hS3
            clear hS2 b0 b1 b2 b3 b4 b5 bfr blt hlx HF HA HCOL
            generalize pc s pos = col at *
            go_wp2_with fail
            go_region_with (go_at_call 99; refine (HCO.out _ (by first | exact hS3 | exact hS3.drewN 1 | exact hS3.drewN 2)).mono ?_; rintro e w4 ⟨rfl, rfl⟩)
            all_goals
              go_wp2_with fail
              refine bodyPost_ret (v := .agg #[.int .i64 c, .int .i64 ln, .int .i64 col, .slice none 0 0]) (by simp [results, Tryz.results84, go_sem, e0, e1, e2, e3]) rfl ?_
              refine ⟨none, 0, 0, by rw [hA.out], by rw [hA.out]; exact TR.start _ _, ?_⟩
              have B0 := ((below_alloc1 w (.cells #[.int .i64 0, .int .i64 0, .int .i64 0, .slice none 0 0] 111)).trans (HB3.out.mono (Nat.le_succ _))).drew
              refine (((B0.setCell ?_ _).setCell ?_ _).setCell ?_ _).setCell ?_ _ <;> simp
          · have HB3 := hide (HB2.out.trans k3.1)
            have HMX : Hid (lexF s 0 = ((T ++ T3) ++ (lexF s (max (pos + wd) nx3)).1, (lexF s (max (pos + wd) nx3)).2)) := by
              have := HF.out
              rw [show max pos nx = pos by omega, q4] at this
              unfold Hid
              rw [this, hwd, Nat.max_comm nx3, List.append_assoc]
            have HTL : Hid ((T ++ T3).length ≤ max (pos + wd) nx3) := by
              have := HTL0.out
              unfold Hid
              rw [List.length_append]; omega
            have HIT3 : Hid (w3.heap[w.heap.size + 2]? = some (.stringIter s (pos + wd))) := k3.2 _ _ HIT2.out (by simp) (fun c fz h => by cases h)
            have HQ2 := hide q2
            have HT3 := hide hT3
            clear hS2 b0 b1 b2 b3 b4 b5 bfr blt q4 q2 hT3 HF k3
            obtain ⟨c0, c1, c2, c3, c4, c5, fr, lt⟩ := id hS3
            have f3' := fr 3
            have f4' := fr 4
            by_cases h10 : cc = 10
            · obtain ⟨t1, t2⟩ := H10.out h10
              subst h10
              subst t2
              have HL := hide (LW.nl (w := w.alloc (.cells #[.int .i64 0, .int .i64 0, .int .i64 0, .slice none 0 0] 111)) hS3 HT3.out HIT3.out HW.out.line HQ2.out q1 (by omega) HTL.out HMX.out HB3.out t1)
              have hln : ln ≤ pos + 1 := by rw [HW.out.line]; exact pl_le s pos
              go_wp2_with fail
              go_roundw
              case rel => exact ⟨_, _, _, _, _, _, _, _, HL⟩
              case measure =>
                exact HM2.out _ HL.out.it
            · have z : ((cc : Int) == 10) = false := by simp; omega
              have HL := hide (LW.more (w := w.alloc (.cells #[.int .i64 0, .int .i64 0, .int .i64 0, .slice none 0 0] 111)) hS3 HT3.out HIT3.out HW.out.line HW.out.col HQ2.out q1 d3 HTL.out HMX.out HB3.out (N10.out h10))
              go_wp2_with fail
              go_roundw
              case rel => exact ⟨_, _, _, _, _, _, _, _, HL⟩
              case measure => exact HM2.out _ HIT3.out
      · have hnx : ∀ ty, (Instr.next (.pointer (some ⟨w.heap.size + 2, 0, none⟩)) true ty).run Tryz.prog wr = _ := fun ty => Lib.run_next_end_at wr (w.heap.size + 2) s pos ty hit hlt
        have hA : Hid (lexA s = (0, 0, 0, T)) := by
          have := HW.out.lex
          have h1 := HW.out.ps
          have h2 := HW.out.nxs
          rw [show max pos nx = s.size by omega, lex_end] at this
          unfold Hid
          rw [HA.out, this, if_pos rfl]
          simp
        have HB := hide HW.out.bel
        have HT := hide HW.out.tr
        obtain ⟨⟨e0, e1, e2, e3⟩, f0, f1, f2, f3⟩ := FIN.out wr HB.out
        obtain ⟨c0, c1, c2, c3, c4, c5, fr, lt⟩ := id HW.out.sc
        go_wp2_with fail
        refine bodyPost_ret (v := .agg #[.int .i64 0, .int .i64 0, .int .i64 0, .slice ao n cp]) (by simp [results, Tryz.results84, go_sem, e0, e1, e2, e3]) rfl ?_
        have B0 := (below_alloc1 w (.cells #[.int .i64 0, .int .i64 0, .int .i64 0, .slice none 0 0] 111)).trans (HB.out.mono (Nat.le_succ _))
        refine ⟨ao, cp, n, by rw [hA.out]; rfl, ?_, ?_⟩
        · rw [hA.out]
          refine TR.less (((TR.only (TR.only (TR.only (TR.only HT.out (Only.setCell _ ⟨w.heap.size, _, none⟩ _) ?_) (Only.setCell _ ⟨w.heap.size, _, none⟩ _) ?_) (Only.setCell _ ⟨w.heap.size, _, none⟩ _) ?_) (Only.setCell _ ⟨w.heap.size, _, none⟩ _) ?_))) ?_ <;> (first | omega | (simp; done) | (simp; omega))
        · refine (((B0.setCell ?_ _).setCell ?_ _).setCell ?_ _).setCell ?_ _ <;> simp

end Go.Proofs.YtjfoagmenehapaaGreatDoor

