import Derived.Test.YtpgbaidkhjaocaaSf
import Derived.Test.YtpgbaidkhjaocaaUb
namespace Go.Proofs.Ytpgbaidkhjaocaa
open Go.RowKit Go.Joins D

set_option maxHeartbeats 16000000 in
set_option maxRecDepth 100000 in
theorem lawSt (v v' : Value) (k k' : Nat) (w : World) (hB : Byt w v k) (hB' : Byt w v' k') (hk2 : k ≤ 9223372036854775807) (hk2' : k' ≤ 9223372036854775807) :
    Calls Try.prog 3 #[v, v'] w fun e w' => e = .returned (.bool true) ∧ Below w.heap.size w w' := by
  obtain ⟨a, c, rfl, hc, hb⟩ := hB
  obtain ⟨a', c', rfl, hc', hb'⟩ := hB'
  by_cases hbig : 1048576 < (k : Int)
  · clear hb hb'
    go_enter Try.func3, Try.ntmps3
    go_wp2_with fail
    go_ret
    exact ⟨rfl, Below.refl _ _⟩
  by_cases hbig' : 1048576 < (k' : Int)
  · clear hb hb'
    go_enter Try.func3, Try.ntmps3
    go_wp2_with fail
    go_ret
    exact ⟨rfl, Below.refl _ _⟩
  have HD1 := hide (draw_any a k c w (by omega) hc hb)
  have HD2 : Hid (∀ V, Below w.heap.size w V → Calls Try.prog 5 #[.slice a' k' c'] V fun e w' => ∃ (x s : Int) (o : ByteArray) (x' s' : Int) (o' : ByteArray), e = .returned (.tuple #[.agg #[.int .i64 x, .string o, .string ⟨#[]⟩, .int .i64 s], .agg #[.int .i64 x', .string o', .string ⟨#[]⟩, .int .i64 s']]) ∧ o.size ≤ 2 ∧ o'.size ≤ 2 ∧ Below V.heap.size V w') := fun V hV => draw_any a' k' c' V (by omega) hc' (fun h => by
    obtain ⟨b, off, rfl, g, hg⟩ := hb' h
    exact ⟨b, off, rfl, g, fun i hi => ⟨(hg i hi).1, (hV.cell (block_lt_of_cell (hg i hi).2)).trans (hg i hi).2⟩⟩)
  clear hb hb' hc hc' hk2 hk2'
  go_enter Try.func3, Try.ntmps3
  go_wp2_with fail
  refine HD1.out.mono ?_
  rintro e v1 ⟨x, s, o, x', s', o', rfl, ho, ho', b1⟩
  clear HD1
  have B1 := hide b1
  clear b1
  obtain ⟨V2, hV2⟩ : ∃ V2, (v1.alloc (.cells #[.int .i64 x, .string o, .string ⟨#[]⟩, .int .i64 s] 24)).alloc (.cells #[.int .i64 x', .string o', .string ⟨#[]⟩, .int .i64 s'] 24) = V2 := ⟨_, rfl⟩
  have z2 : V2.heap.size = v1.heap.size + 1 + 1 := by rw [← hV2]; simp
  have qa : Bx V2 v1.heap.size [.int .i64 x, .string o, .string ⟨#[]⟩, .int .i64 s] := by rw [← hV2]; exact (Bx.new _ _ _).kept (Kept.alloc (fun _ => True) _ _) trivial
  have qb : Bx V2 (v1.heap.size + 1) [.int .i64 x', .string o', .string ⟨#[]⟩, .int .i64 s'] := by
    rw [← hV2]
    have := Bx.new (v1.alloc (.cells #[.int .i64 x, .string o, .string ⟨#[]⟩, .int .i64 s] 24)) [.int .i64 x', .string o', .string ⟨#[]⟩, .int .i64 s'] 24
    rwa [World.size_alloc] at this
  have b2 : Below w.heap.size w V2 := by rw [← hV2]; exact B1.out.trans (((below_alloc1 _ _).trans ((below_alloc1 _ _).mono (by simp))).mono B1.out.size)
  have HQ2 : Hid (V2.heap.size = v1.heap.size + 1 + 1 ∧ Bx V2 v1.heap.size [.int .i64 x, .string o, .string ⟨#[]⟩, .int .i64 s] ∧ Bx V2 (v1.heap.size + 1) [.int .i64 x', .string o', .string ⟨#[]⟩, .int .i64 s'] ∧ Below w.heap.size w V2) := ⟨z2, qa, qb, b2⟩
  clear z2 qa qb b2
  have HV2 := hide hV2
  clear hV2
  go_upto_region 4 with fail
  rw [HV2.out]
  clear HV2
  go_wp2_with fail
  refine (HD2.out V2 HQ2.out.2.2.2).mono ?_
  rintro e v3 ⟨y0, t0, q0, y, t, q, rfl, -, hq, b3⟩
  clear HD2
  obtain ⟨V4, hV4⟩ : ∃ V4, (v3.alloc (.cells #[.int .i64 y0, .string q0, .string ⟨#[]⟩, .int .i64 t0] 24)).alloc (.cells #[.int .i64 y, .string q, .string ⟨#[]⟩, .int .i64 t] 24) = V4 := ⟨_, rfl⟩
  have HFB : Hid (∀ V, Below V4.heap.size V4 V → V.cell? ⟨v1.heap.size, 0, none⟩ = some (.int .i64 x) ∧ V.cell? ⟨v1.heap.size, 1, none⟩ = some (.string o) ∧ V.cell? ⟨v1.heap.size, 2, none⟩ = some (.string ⟨#[]⟩) ∧ V.cell? ⟨v1.heap.size, 3, none⟩ = some (.int .i64 s) ∧ V.cell? ⟨v1.heap.size + 1, 0, none⟩ = some (.int .i64 x') ∧ V.cell? ⟨v1.heap.size + 1, 1, none⟩ = some (.string o') ∧ V.cell? ⟨v1.heap.size + 1, 2, none⟩ = some (.string ⟨#[]⟩) ∧ V.cell? ⟨v1.heap.size + 1, 3, none⟩ = some (.int .i64 s') ∧ V.cell? ⟨v3.heap.size + 1, 0, none⟩ = some (.int .i64 y) ∧ V.cell? ⟨v3.heap.size + 1, 1, none⟩ = some (.string q) ∧ V.cell? ⟨v3.heap.size + 1, 2, none⟩ = some (.string ⟨#[]⟩) ∧ V.cell? ⟨v3.heap.size + 1, 3, none⟩ = some (.int .i64 t)) := fun V hV => by
    have k4 : Kept (fun _ => True) V2 V4 := by rw [← hV4]; exact ((kt b3).trans (Kept.alloc _ _ _)).trans (Kept.alloc _ _ _)
    have r1 := (HQ2.out.2.1.kept k4 trivial).below hV
    have r2 := (HQ2.out.2.2.1.kept k4 trivial).below hV
    have qc : Bx V4 (v3.heap.size + 1) [.int .i64 y, .string q, .string ⟨#[]⟩, .int .i64 t] := by
      rw [← hV4]
      have := Bx.new (v3.alloc (.cells #[.int .i64 y0, .string q0, .string ⟨#[]⟩, .int .i64 t0] 24)) [.int .i64 y, .string q, .string ⟨#[]⟩, .int .i64 t] 24
      rwa [World.size_alloc] at this
    have r3 := qc.below hV
    exact ⟨r1.cel 0 _ rfl, r1.cel 1 _ rfl, r1.cel 2 _ rfl, r1.cel 3 _ rfl, r2.cel 0 _ rfl, r2.cel 1 _ rfl, r2.cel 2 _ rfl, r2.cel 3 _ rfl, r3.cel 0 _ rfl, r3.cel 1 _ rfl, r3.cel 2 _ rfl, r3.cel 3 _ rfl⟩
  have HB4 : Hid (Below w.heap.size w V4) := by
    unfold Hid
    rw [← hV4]
    have e1 := HQ2.out.2.2.2
    exact e1.trans ((b3.trans (((below_alloc1 _ _).trans ((below_alloc1 _ _).mono (by simp))).mono b3.size)).mono e1.size)
  have HZ4 : Hid (v1.heap.size + 1 + 1 ≤ v3.heap.size ∧ V4.heap.size = v3.heap.size + 1 + 1) := ⟨by rw [← HQ2.out.1]; exact b3.size, by rw [← hV4]; simp⟩
  have HV4 := hide hV4
  clear hV4 HQ2 b3 B1
  obtain ⟨p, hp⟩ : ∃ p, stF x o x' o' = p := ⟨_, rfl⟩
  have H1 : Hid (∀ V, Hid (Below V4.heap.size V4 V) → Calls Try.prog 6 #[.agg #[.int .i64 x, .string o, .string ⟨#[]⟩, .int .i64 s], .agg #[.int .i64 x, .string o, .string ⟨#[]⟩, .int .i64 s]] V fun e w' => e = .returned (.bool true) ∧ Hid (Below V4.heap.size V4 w')) := fun V hV => (i_Stands x o ⟨#[]⟩ s x o ⟨#[]⟩ s V).mono (by rintro e w' ⟨rfl, b⟩; exact ⟨by rw [st_refl], hV.out.trans (b.mono hV.out.size)⟩)
  have H2 : Hid (∀ V, Hid (Below V4.heap.size V4 V) → Calls Try.prog 6 #[.agg #[.int .i64 x', .string o', .string ⟨#[]⟩, .int .i64 s'], .agg #[.int .i64 x', .string o', .string ⟨#[]⟩, .int .i64 s']] V fun e w' => e = .returned (.bool true) ∧ Hid (Below V4.heap.size V4 w')) := fun V hV => (i_Stands x' o' ⟨#[]⟩ s' x' o' ⟨#[]⟩ s' V).mono (by rintro e w' ⟨rfl, b⟩; exact ⟨by rw [st_refl], hV.out.trans (b.mono hV.out.size)⟩)
  have H3 : Hid (∀ V, Hid (Below V4.heap.size V4 V) → Calls Try.prog 6 #[.agg #[.int .i64 x, .string o, .string ⟨#[]⟩, .int .i64 s], .agg #[.int .i64 x', .string o', .string ⟨#[]⟩, .int .i64 s']] V fun e w' => e = .returned (.bool p) ∧ Hid (Below V4.heap.size V4 w')) := fun V hV => (i_Stands x o ⟨#[]⟩ s x' o' ⟨#[]⟩ s' V).mono (by rintro e w' ⟨rfl, b⟩; exact ⟨by rw [hp], hV.out.trans (b.mono hV.out.size)⟩)
  have H4 : Hid (∀ V, Hid (Below V4.heap.size V4 V) → Calls Try.prog 7 #[.agg #[.int .i64 x, .string o, .string ⟨#[]⟩, .int .i64 s], .agg #[.int .i64 x', .string o', .string ⟨#[]⟩, .int .i64 s']] V fun e w' => e = .returned (.bool p) ∧ Hid (Below V4.heap.size V4 w')) := fun V hV => (m_Stands x o ⟨#[]⟩ s x' o' ⟨#[]⟩ s' V).mono (by rintro e w' ⟨rfl, b⟩; exact ⟨by rw [hp], hV.out.trans (b.mono hV.out.size)⟩)
  have HP := hide hp
  clear hp
  go_upto_region 5 with fail
  rw [HV4.out]
  clear HV4
  have HDR : Hid (Below V4.heap.size V4 V4.drew) := (Below.refl _ _).drew
  have k0 := HFB.out V4 (Below.refl _ _)
  have k0' := HFB.out V4.drew HDR.out
  go_cut [46] (fun t wx => t = .bool false ∧ Below V4.heap.size V4 wx)
  case first =>
    go_region_held3 (fun V => V.cell? ⟨v1.heap.size, 0, none⟩ = some (.int .i64 x) ∧ V.cell? ⟨v1.heap.size, 1, none⟩ = some (.string o) ∧ V.cell? ⟨v1.heap.size, 2, none⟩ = some (.string ⟨#[]⟩) ∧ V.cell? ⟨v1.heap.size, 3, none⟩ = some (.int .i64 s) ∧ V.cell? ⟨v1.heap.size + 1, 0, none⟩ = some (.int .i64 x') ∧ V.cell? ⟨v1.heap.size + 1, 1, none⟩ = some (.string o') ∧ V.cell? ⟨v1.heap.size + 1, 2, none⟩ = some (.string ⟨#[]⟩) ∧ V.cell? ⟨v1.heap.size + 1, 3, none⟩ = some (.int .i64 s') ∧ V.cell? ⟨v3.heap.size + 1, 0, none⟩ = some (.int .i64 y) ∧ V.cell? ⟨v3.heap.size + 1, 1, none⟩ = some (.string q) ∧ V.cell? ⟨v3.heap.size + 1, 2, none⟩ = some (.string ⟨#[]⟩) ∧ V.cell? ⟨v3.heap.size + 1, 3, none⟩ = some (.int .i64 t))
      (first | with_reducible exact km4' | with_reducible exact km3' | with_reducible exact km2' | with_reducible exact km1' | with_reducible exact k0')
      (first
        | (go_at_call 6; with_reducible refine (H1.out _ HDR).mono ?_; rintro e wm1 ⟨rfl, bm1⟩; have km1' := HFB.out wm1 bm1.out)
        | (go_at_call 6; with_reducible refine (H2.out _ bm1).mono ?_; rintro e wm2 ⟨rfl, bm2⟩; have km2' := HFB.out wm2 bm2.out)
        | (go_at_call 6; with_reducible refine (H3.out _ bm2).mono ?_; rintro e wm3 ⟨rfl, bm3⟩; have km3' := HFB.out wm3 bm3.out)
        | (go_at_call 7; with_reducible refine (H4.out _ bm3).mono ?_; rintro e wm4 ⟨rfl, bm4⟩; have km4' := HFB.out wm4 bm4.out))
    all_goals
      go_wp2_with fail
      go_meet
      case rel => exact ⟨by simp, bm4.out⟩
  case rest =>
  obtain ⟨rfl, hcb⟩ := hcut
  rename World => v5
  have B5 := hide hcb
  clear hcb HDR k0 k0' H1 H2 H3 H4
  have k5 := HFB.out v5 B5.out
  by_cases hx : x = 0
  · subst hx
    have H5 : Hid (∀ V, Hid (Below V4.heap.size V4 V) → Calls Try.prog 6 #[.agg #[.int .i64 0, .string o, .string ⟨#[]⟩, .int .i64 s], .agg #[.int .i64 x', .string o', .string ⟨#[]⟩, .int .i64 s']] V fun e w' => e = .returned (.bool p) ∧ Hid (Below V4.heap.size V4 w')) := fun V hV => (i_Stands 0 o ⟨#[]⟩ s x' o' ⟨#[]⟩ s' V).mono (by rintro e w' ⟨rfl, b⟩; exact ⟨by rw [HP.out], hV.out.trans (b.mono hV.out.size)⟩)
    obtain ⟨p2, hp2⟩ : ∃ p2, stF x' o' y q = p2 := ⟨_, rfl⟩
    have H6 : Hid (∀ V, Hid (Below V4.heap.size V4 V) → Calls Try.prog 6 #[.agg #[.int .i64 x', .string o', .string ⟨#[]⟩, .int .i64 s'], .agg #[.int .i64 y, .string q, .string ⟨#[]⟩, .int .i64 t]] V fun e w' => e = .returned (.bool p2) ∧ Hid (Below V4.heap.size V4 w')) := fun V hV => (i_Stands x' o' ⟨#[]⟩ s' y q ⟨#[]⟩ t V).mono (by rintro e w' ⟨rfl, b⟩; exact ⟨by rw [hp2], hV.out.trans (b.mono hV.out.size)⟩)
    have HP2 := hide hp2
    clear hp2
    have H8 : Hid (∀ V, Hid (Below V4.heap.size V4 V) → Calls Try.prog 6 #[.agg #[.int .i64 0, .string o, .string ⟨#[]⟩, .int .i64 s], .agg #[.int .i64 0, .string (o ++ ⟨#[120]⟩), .string ⟨#[]⟩, .int .i64 s]] V fun e w' => e = .returned (.bool false) ∧ Hid (Below V4.heap.size V4 w')) := fun V hV => (i_other o ⟨#[]⟩ s V).mono (by rintro e w' ⟨rfl, b⟩; exact ⟨rfl, hV.out.trans (b.mono hV.out.size)⟩)
    go_upto_region 9 with fail
    go_cut [63] (fun t wx => t = .bool false ∧ Below V4.heap.size V4 wx)
    case first =>
      go_wp2_with fail
      refine (H5.out v5 B5).mono ?_
      rintro e v6 ⟨rfl, B6⟩
      have k6 := HFB.out v6 B6.out
      clear H5 k5
      cases p
      · go_wp2_with fail
        go_meet
        case rel => exact ⟨rfl, B6.out⟩
      · go_wp2_with fail
        refine (H6.out v6 B6).mono ?_
        rintro e v7 ⟨rfl, B7⟩
        have k7 := HFB.out v7 B7.out
        clear H6 k6
        cases p2
        · go_wp2_with fail
          go_meet
          case rel => exact ⟨rfl, B7.out⟩
        · have hp3 : stF 0 o y q = true := st_trans HP.out HP2.out
          have H7 : Hid (∀ V, Hid (Below V4.heap.size V4 V) → Calls Try.prog 6 #[.agg #[.int .i64 0, .string o, .string ⟨#[]⟩, .int .i64 s], .agg #[.int .i64 y, .string q, .string ⟨#[]⟩, .int .i64 t]] V fun e w' => e = .returned (.bool true) ∧ Hid (Below V4.heap.size V4 w')) := fun V hV => (i_Stands 0 o ⟨#[]⟩ s y q ⟨#[]⟩ t V).mono (by rintro e w' ⟨rfl, b⟩; exact ⟨by rw [hp3], hV.out.trans (b.mono hV.out.size)⟩)
          clear hp3
          go_wp2_with fail
          refine (H7.out v7 B7).mono ?_
          rintro e v8 ⟨rfl, B8⟩
          go_wp2_with fail
          go_meet
          case rel => exact ⟨rfl, B8.out⟩
    case rest =>
    obtain ⟨rfl, hcb⟩ := hcut
    rename World => v9
    have B9 := hide hcb
    clear hcb H5 H6 k5 HP HP2
    have k9 := HFB.out v9 B9.out
    have hsz : o.size + 1 ≤ 9223372036854775807 := by omega
    obtain ⟨V10, hV10⟩ : ∃ V10, v9.alloc (.cells #[.int .i64 0, .string o, .string ⟨#[]⟩, .int .i64 s] 24) = V10 := ⟨_, rfl⟩
    have B10 : Hid (Below V4.heap.size V4 V10) := by unfold Hid; rw [← hV10]; exact B9.out.trans ((below_alloc1 _ _).mono B9.out.size)
    have X10 : Hid (Bx V10 v9.heap.size [.int .i64 0, .string o, .string ⟨#[]⟩, .int .i64 s]) := by unfold Hid; rw [← hV10]; exact Bx.new _ _ _
    have HV10 := hide hV10
    clear hV10
    go_upto_region 12 with fail
    rw [HV10.out]
    clear HV10 k9
    have k10 := HFB.out V10 B10.out
    have x0 := X10.out.cel 0 _ rfl
    have x1 := X10.out.cel 1 _ rfl
    have x2 := X10.out.cel 2 _ rfl
    have x3 := X10.out.cel 3 _ rfl
    have l1 := X10.out.live 1
    obtain ⟨V11, hV11⟩ : ∃ V11, V10.setCell ⟨v9.heap.size, 1, none⟩ (.string (o ++ ⟨#[120]⟩)) = V11 := ⟨_, rfl⟩
    have B11 : Hid (Below V4.heap.size V4 V11) := by unfold Hid; rw [← hV11]; exact B10.out.setCell (p := ⟨v9.heap.size, 1, none⟩) (by show V4.heap.size ≤ v9.heap.size; exact B9.out.size) _
    have X11 : Hid (Bx V11 v9.heap.size [.int .i64 0, .string (o ++ ⟨#[120]⟩), .string ⟨#[]⟩, .int .i64 s]) := by unfold Hid; rw [← hV11]; exact X10.out.put 1 _ (by simp)
    have HV11 := hide hV11
    clear hV11
    go_upto_region 13 with fail
    rw [HV11.out]
    clear HV11 k10 x0 x1 x2 x3 l1
    have k11 := HFB.out V11 B11.out
    have x0 := X11.out.cel 0 _ rfl
    have x1 := X11.out.cel 1 _ rfl
    have x2 := X11.out.cel 2 _ rfl
    have x3 := X11.out.cel 3 _ rfl
    go_wp2_with fail
    refine (H8.out V11 B11).mono ?_
    rintro e v12 ⟨rfl, B12⟩
    go_wp2_with fail
    go_ret
    exact ⟨rfl, HB4.out.trans (B12.out.mono HB4.out.size)⟩
  · have hx' : (x == 0) = false := by simp [hx]
    go_wp2_with fail
    go_ret
    exact ⟨rfl, HB4.out.trans (B5.out.mono HB4.out.size)⟩
end Go.Proofs.Ytpgbaidkhjaocaa
