import Derived.Test.YtmnligaelihmiaaHb
namespace Go.Proofs.Ytmnligaelihmiaa.He
open Go.RowKit Go.Joins

set_option maxHeartbeats 2000000 in
set_option maxRecDepth 100000 in
theorem down_any (hb ho B b n N cap : Nat) (L : List Nat) (w : World) (h : HB w hb ho B (.slice (some ⟨b, 0, none⟩) N cap) L) (hN : N = n + 1) (hn : N = L.length) (hu : DnI L n 0) :
    Calls Try.prog 36 #[.iface 59 (.pointer (some ⟨hb, ho, none⟩)), .int .i64 0, .int .i64 n] w fun e w' => ∃ r, e = .returned r ∧ ∃ L', HB w' hb ho B (.slice (some ⟨b, 0, none⟩) N cap) L' ∧ L'.Perm L ∧ Hp L' n ∧ g L' n = g L n ∧ Kept (fun c => c ≠ b) w w' := by
  have hn1 : N ≤ 1048576 := by rw [hn]; exact h.len
  have hnn : n ≤ 1048576 := by omega
  have HNN := hide hN
  have HN := hide hn
  have HU := hide hu
  have H := hide h
  clear hu h hn hN
  go_enter Try.func36, Try.ntmps36
  go_wp2_with fail
  go_loopw [7] (fun s wr => ∃ (i : Nat) (Lc : List Nat), s = .int .i64 i ∧ i ≤ n ∧ Hid (DnI Lc n i) ∧ Hid (HB wr hb ho B (.slice (some ⟨b, 0, none⟩) N cap) Lc) ∧ Hid (Lc.Perm L) ∧ Hid (g Lc n = g L n) ∧ Hid (Kept (fun c => c ≠ b) w wr)) (fun s _ => n - (intOf s).toNat)
  case atStart => exact ⟨0, L, rfl, by omega, HU, H, List.Perm.refl _, rfl, Kept.refl _ _⟩
  case round =>
    obtain ⟨i, Lc, rfl, hi, HUk, HBk, HPk, HGk, HKk⟩ := hrel
    by_cases hj1 : n ≤ 2 * i + 1
    · have h1 : ((2 : Int) * (i : Int) + 1) ≥ (n : Int) := by omega
      have h1' : decide ((n : Int) ≤ (2 : Int) * (i : Int) + 1) = true := by simp; omega
      go_wp2_with fail
      go_ret
      exact ⟨_, rfl, Lc, HBk.out, HPk.out, HUk.out.leaf hj1, HGk.out, HKk.out⟩
    · obtain ⟨j1, hj⟩ : ∃ j1, j1 = 2 * i + 1 := ⟨_, rfl⟩
      have hjj : (2 : Int) * (i : Int) + 1 = (j1 : Int) := by omega
      have h1 : ¬ (n : Int) ≤ (j1 : Int) := by omega
      have h2 : ¬ (j1 : Int) < 0 := by omega
      have hl : Lc.length = N := by rw [HPk.out.length_eq]; exact HN.out.symm
      have hNn := HNN.out
      have hNl : n < N := by omega
      have hji : i < j1 := by omega
      have hjn : j1 < n := by omega
      have HL := hide hl
      have HJ := hide hj
      have ci := HBk.out.row.cell hl.symm i (by omega)
      have fi := HBk.out.row.frozen hl.symm i
      have c1 := HBk.out.row.cell hl.symm j1 (by omega)
      have mL := m_less hb ho _ wr HBk.out.cell
      have f1 := HBk.out.row.frozen hl.symm j1
      clear hl hj hNn
      by_cases h3 : (j1 : Int) + 1 < (n : Int)
      · have c2 := HBk.out.row.cell HL.out.symm (j1 + 1) (by rw [HL.out]; omega)
        have f2 := HBk.out.row.frozen HL.out.symm (j1 + 1)
        have mL2 := m_less hb ho _ wr.drew HBk.out.cell
        have HLe := hide (less_any b N cap (j1 + 1) j1 (g Lc (j1 + 1)) (g Lc j1) wr (by omega) (by omega) c2 c1)
        simp only [Int.natCast_add, Int.cast_ofNat_Int] at HLe
        by_cases h4 : g Lc (j1 + 1) < g Lc j1
        · have hd4 : decide (g Lc (j1 + 1) < g Lc j1) = true := by simpa using h4
          have HM : Hid (∀ k, 0 < k → k < n → (k - 1) / 2 = i → g Lc (j1 + 1) ≤ g Lc k) := fun k k0 kn kp => by
            have hJ := HJ.out
            rcases (show k = j1 ∨ k = j1 + 1 by omega) with rfl | rfl <;> omega
          go_wp2_with fail
          refine HLe.out.mono ?_
          rintro e w0 ⟨rfl, rfl⟩
          go_wp2_with fail
          have HLf := hide (less_any b N cap (j1 + 1) i (g Lc (j1 + 1)) (g Lc i) wr.drew (by omega) (by omega) c2 ci)
          simp only [Int.natCast_add, Int.cast_ofNat_Int] at HLf
          refine HLf.out.mono ?_
          rintro e w1 ⟨rfl, rfl⟩
          have mS := m_swap hb ho _ wr.drew.drew HBk.out.cell
          by_cases hlt : g Lc (j1 + 1) < g Lc i
          · have hd : decide (g Lc (j1 + 1) < g Lc i) = true := by simpa using hlt
            have HS := hide (swap_any b N cap i (j1 + 1) (g Lc i) (g Lc (j1 + 1)) wr.drew.drew (by omega) (by omega) (by omega) ci c2 fi f2)
            simp only [Int.natCast_add, Int.cast_ofNat_Int] at HS
            go_wp2_with fail
            refine HS.out.mono ?_
            rintro e w2 ⟨rfl, rfl⟩
            have HB2 := hide ((HBk.out.drew).drew.swap (HL.out.symm) i (j1 + 1))
            go_wp2_with fail
            go_roundw
            case rel =>
              have hJ := HJ.out
              refine ⟨(j1 + 1), sw Lc i (j1 + 1), by go_num, by omega, ?_, ?_, ?_, ?_, ?_⟩
              · exact HUk.out.step (by rw [HL.out, HNN.out]; omega) (by omega) (by omega) (by omega) HM.out hlt
              · exact HB2
              · exact (sw_perm (by rw [HL.out, HNN.out]; omega) (by rw [HL.out, HNN.out]; omega)).trans HPk.out
              · unfold Hid
                rw [g_sw (by rw [HL.out, HNN.out]; omega) (by rw [HL.out, HNN.out]; omega), if_neg (by omega), if_neg (by omega)]
                exact HGk.out
              · exact (HKk.out.trans (Kept.drew _ _)).trans (((Kept.drew _ _).trans (Kept.setCell _ _ _ _ (by simp))).trans ((Kept.setCell _ _ _ _ (by simp)).trans (Kept.drew _ _)))
            case measure => simp [intOf]; omega
          · have hd : decide (g Lc (j1 + 1) < g Lc i) = false := by simpa using hlt
            go_wp2_with fail
            go_ret
            exact ⟨_, rfl, Lc, (HBk.out.drew).drew, HPk.out, HUk.out.stop HM.out hlt, HGk.out, (HKk.out.trans (Kept.drew _ _)).trans (Kept.drew _ _)⟩
        · have hd4 : decide (g Lc (j1 + 1) < g Lc j1) = false := by simpa using h4
          have HM : Hid (∀ k, 0 < k → k < n → (k - 1) / 2 = i → g Lc j1 ≤ g Lc k) := fun k k0 kn kp => by
            have hJ := HJ.out
            rcases (show k = j1 ∨ k = j1 + 1 by omega) with rfl | rfl <;> omega
          go_wp2_with fail
          refine HLe.out.mono ?_
          rintro e w0 ⟨rfl, rfl⟩
          go_wp2_with fail
          refine (less_any b N cap j1 i _ _ wr.drew (by omega) (by omega) c1 ci).mono ?_
          rintro e w1 ⟨rfl, rfl⟩
          have mS := m_swap hb ho _ wr.drew.drew HBk.out.cell
          by_cases hlt : g Lc j1 < g Lc i
          · have hd : decide (g Lc j1 < g Lc i) = true := by simpa using hlt
            have HS := hide (swap_any b N cap i j1 (g Lc i) (g Lc j1) wr.drew.drew (by omega) (by omega) (by omega) ci c1 fi f1)
            go_wp2_with fail
            refine HS.out.mono ?_
            rintro e w2 ⟨rfl, rfl⟩
            have HB2 := hide ((HBk.out.drew).drew.swap (HL.out.symm) i j1)
            go_wp2_with fail
            go_roundw
            case rel =>
              have hJ := HJ.out
              refine ⟨j1, sw Lc i j1, rfl, by omega, ?_, ?_, ?_, ?_, ?_⟩
              · exact HUk.out.step (by rw [HL.out, HNN.out]; omega) (by omega) (by omega) (by omega) HM.out hlt
              · exact HB2
              · exact (sw_perm (by rw [HL.out, HNN.out]; omega) (by rw [HL.out, HNN.out]; omega)).trans HPk.out
              · unfold Hid
                rw [g_sw (by rw [HL.out, HNN.out]; omega) (by rw [HL.out, HNN.out]; omega), if_neg (by omega), if_neg (by omega)]
                exact HGk.out
              · exact (HKk.out.trans (Kept.drew _ _)).trans (((Kept.drew _ _).trans (Kept.setCell _ _ _ _ (by simp))).trans ((Kept.setCell _ _ _ _ (by simp)).trans (Kept.drew _ _)))
            case measure => simp [intOf]; omega
          · have hd : decide (g Lc j1 < g Lc i) = false := by simpa using hlt
            go_wp2_with fail
            go_ret
            exact ⟨_, rfl, Lc, (HBk.out.drew).drew, HPk.out, HUk.out.stop HM.out hlt, HGk.out, (HKk.out.trans (Kept.drew _ _)).trans (Kept.drew _ _)⟩
      · have HM : Hid (∀ k, 0 < k → k < n → (k - 1) / 2 = i → g Lc j1 ≤ g Lc k) := fun k k0 kn kp => by
          have hJ := HJ.out
          obtain rfl : k = j1 := by omega
          omega
        go_wp2_with fail
        refine (less_any b N cap j1 i _ _ wr (by omega) (by omega) c1 ci).mono ?_
        rintro e w1 ⟨rfl, rfl⟩
        have mS := m_swap hb ho _ wr.drew HBk.out.cell
        by_cases hlt : g Lc j1 < g Lc i
        · have hd : decide (g Lc j1 < g Lc i) = true := by simpa using hlt
          have HS := hide (swap_any b N cap i j1 (g Lc i) (g Lc j1) wr.drew (by omega) (by omega) (by omega) ci c1 fi f1)
          go_wp2_with fail
          refine HS.out.mono ?_
          rintro e w2 ⟨rfl, rfl⟩
          have HB2 := hide ((HBk.out).drew.swap (HL.out.symm) i j1)
          go_wp2_with fail
          go_roundw
          case rel =>
            have hJ := HJ.out
            refine ⟨j1, sw Lc i j1, rfl, by omega, ?_, ?_, ?_, ?_, ?_⟩
            · exact HUk.out.step (by rw [HL.out, HNN.out]; omega) (by omega) (by omega) (by omega) HM.out hlt
            · exact HB2
            · exact (sw_perm (by rw [HL.out, HNN.out]; omega) (by rw [HL.out, HNN.out]; omega)).trans HPk.out
            · unfold Hid
              rw [g_sw (by rw [HL.out, HNN.out]; omega) (by rw [HL.out, HNN.out]; omega), if_neg (by omega), if_neg (by omega)]
              exact HGk.out
            · exact (HKk.out).trans (((Kept.drew _ _).trans (Kept.setCell _ _ _ _ (by simp))).trans ((Kept.setCell _ _ _ _ (by simp)).trans (Kept.drew _ _)))
          case measure => simp [intOf]; omega
        · have hd : decide (g Lc j1 < g Lc i) = false := by simpa using hlt
          go_wp2_with fail
          go_ret
          exact ⟨_, rfl, Lc, (HBk.out).drew, HPk.out, HUk.out.stop HM.out hlt, HGk.out, (HKk.out).trans (Kept.drew _ _)⟩
end Go.Proofs.Ytmnligaelihmiaa.He
